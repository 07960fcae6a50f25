import Derived.Test.YtedhohamdbplhaaDoorWDec0
namespace Go.Proofs.YtedhohamdbplhaaDoor
open Go.RowKit
open Num
set_option linter.unusedVariables false
set_option linter.unusedSimpArgs false
set_option maxRecDepth 20000

theorem derr_71 {b : List Nat} (h : b.length < 26) : derr b = 71 := by unfold derr; rw [if_pos h]
theorem derr_72 {b : List Nat} (h : ¬ b.length < 26) (h2 : b.getD 0 0 ≠ 82 ∨ b.getD 1 0 ≠ 70 ∨ b.getD 3 0 ≠ 1) : derr b = 72 := by unfold derr; rw [if_neg h, if_pos h2]
theorem derr_head {b : List Nat} (h : ¬ b.length < 26) (h2 : ¬ (b.getD 0 0 ≠ 82 ∨ b.getD 1 0 ≠ 70 ∨ b.getD 3 0 ≠ 1)) (h3 : ferr (b.getD 2 0 : Nat) (bv (sg b 20 2)) ≠ 0) : derr b = ferr (b.getD 2 0 : Nat) (bv (sg b 20 2)) := by unfold derr; rw [if_neg h, if_neg h2, if_pos h3]
theorem derr_rest {b : List Nat} (h : ¬ b.length < 26) (h2 : ¬ (b.getD 0 0 ≠ 82 ∨ b.getD 1 0 ≠ 70 ∨ b.getD 3 0 ≠ 1)) (h3 : ferr (b.getD 2 0 : Nat) (bv (sg b 20 2)) = 0) :
    derr b = if b.length < 26 + bv (sg b 20 2) then 71 else if 26 + bv (sg b 20 2) < b.length then 76 else if bv (sg b 22 4) ≠ crcM (crcM (crcM 0 (b.take 22)) [0, 0, 0, 0]) (b.drop 26) then 73 else 0 := by unfold derr; rw [if_neg h, if_neg h2, if_neg (by simpa using h3)]

theorem results_row_tmp {P : Program} {fn : Func} {p u : Tmp} {ty : TypeId} (h : fn.results = #[.cell p ty, .tmp u]) (tmps : Array Value) (w : World) (g : Nat) (t : TypeId) (cs : Array Value) (fr : Nat × Nat) (d : TypeDesc)
    (hp : tmps.getD p undef = .pointer (some ⟨g, 0, none⟩)) (hg : w.heap[g]? = some (.cells cs t fr))
    (hu : P.underlying ty = some d) (hd : (match d with | .struct _ | .array _ _ => true | _ => false) = true) (hi : (P.info? ty).map (·.size) = some cs.size) :
    (results fn tmps).run P w = .ok (.tuple #[.agg cs, tmps.getD u undef]) w := by
  have hp' : tmps[p]?.getD undef = .pointer (some ⟨g, 0, none⟩) := by simpa using hp
  simp [results, h, hp', asAddr, run_loadVar_row w g t ty cs fr d hg hu hd hi]
theorem set6 {w : World} {g : Nat} {x0 x1 x2 x3 x4 x5 : Value} {t : TypeId} (h : w.heap[g]? = some (.cells #[x0, x1, x2, x3, x4, x5] t (0, 0))) (a b c d e f : Value) : ((((((w.setCell ⟨g, 0, none⟩ a).setCell ⟨g, 1, none⟩ b).setCell ⟨g, 2, none⟩ c).setCell ⟨g, 3, none⟩ d).setCell ⟨g, 4, none⟩ e).setCell ⟨g, 5, none⟩ f).heap[g]? = some (.cells #[a, b, c, d, e, f] t (0, 0)) := by
  have h1 := Go.heap_setCell_same w g 0 _ t a h
  have h2 := Go.heap_setCell_same _ g 1 _ t b h1
  have h3 := Go.heap_setCell_same _ g 2 _ t c h2
  have h4 := Go.heap_setCell_same _ g 3 _ t d h3
  have h5 := Go.heap_setCell_same _ g 4 _ t e h4
  have h6 := Go.heap_setCell_same _ g 5 _ t f h5
  exact h6
theorem bel_set6 {n : Nat} {w w2 : World} {g : Nat} (h : Below n w w2) (hg : n ≤ g) (a b c d e f : Value) : Below n w ((((((w2.setCell ⟨g, 0, none⟩ a).setCell ⟨g, 1, none⟩ b).setCell ⟨g, 2, none⟩ c).setCell ⟨g, 3, none⟩ d).setCell ⟨g, 4, none⟩ e).setCell ⟨g, 5, none⟩ f) :=
  (((((h.setCell (p := ⟨g, 0, none⟩) hg a).setCell (p := ⟨g, 1, none⟩) hg b).setCell (p := ⟨g, 2, none⟩) hg c).setCell (p := ⟨g, 3, none⟩) hg d).setCell (p := ⟨g, 4, none⟩) hg e).setCell (p := ⟨g, 5, none⟩) hg f

set_option maxHeartbeats 1000000 in
theorem dec_short (w : World) (v : Value) (l : List Nat) (h : BSl w v l) (hl : l.length < 26) : Calls Tryd.prog 15 #[v] w fun e w' => decPost l w e w' := by
  have HE := hide (derr_71 hl)
  obtain ⟨a, cap, rfl, h1, hm, _, _, _⟩ := h
  unfold maxLen at hm
  rename_i dead1 dead2 dead3
  clear dead1 dead2 dead3
  go_enter Tryd.func15, Tryd.ntmps15
  go_wp2
  exact bodyPost_ret (results_row_tmp rfl _ _ w.heap.size 48 _ (0, 0) _ rfl (Go.heap_alloc_new w _) Tryd.underlying48 rfl (by kernel_rfl)) rfl (decPost_bad HE.out (by decide) ((Below.refl _ _).alloc (Nat.le_refl _) _))

/-- the bytes, their first cells and their mark, as the walk has them -/
theorem dec_open {w : World} {v : Value} {l : List Nat} (h : BSl w v l) (hl : ¬ l.length < 26) : ∃ b off cap, v = .slice (some ⟨b, off, none⟩) l.length cap ∧ l.length ≤ cap ∧ cap ≤ maxLen ∧ (∀ i, i < l.length → l.getD i 0 < 256) ∧ (∀ i, i < l.length → w.cell? ⟨b, off + i, none⟩ = some (.int .u8 (l.getD i 0 : Nat))) ∧
    (convert 34 9 (.slice (some ⟨b, off, none⟩) 2 cap)).run Tryd.prog w = .ok (.string ⟨#[UInt8.ofNat (l.getD 0 0), UInt8.ofNat (l.getD 1 0)]⟩) w := by
  have hb := h.bytes
  obtain ⟨a, cap, rfl, h1, hm, _, _, hcell⟩ := id h
  obtain ⟨b, off, rfl, hc⟩ := hcell (by omega)
  have h01 := h.seg 0 2 (by omega)
  rw [sg2 (by omega)] at h01
  exact ⟨b, off, cap, rfl, h1, hm, fun i hi => hb _ (mem_getD hi), hc, conv_bytes h01⟩

set_option maxHeartbeats 1000000 in
theorem dec_mark (w : World) (v : Value) (l : List Nat) (h : BSl w v l) (hl : ¬ l.length < 26) (h2 : l.getD 0 0 ≠ 82 ∨ l.getD 1 0 ≠ 70 ∨ l.getD 3 0 ≠ 1) : Calls Tryd.prog 15 #[v] w fun e w' => decPost l w e w' := by
  have HE := hide (derr_72 hl h2)
  obtain ⟨b, off, cap, rfl, h1, hm, hlt, hc, hcv⟩ := dec_open (h.below ((Below.refl _ _).alloc (Nat.le_refl _) (.cells #[.int .i64 0, .int .u32 0, .int .u32 0, .int .u32 0, .int .u32 0, .slice none 0 0] 48))) hl
  have c3 := hc 3 (by omega)
  have l0 := hlt 0 (by omega)
  have l1 := hlt 1 (by omega)
  have l3 := hlt 3 (by omega)
  unfold maxLen at hm
  clear hc hlt h
  by_cases hrf : l.getD 0 0 = 82 ∧ l.getD 1 0 = 70
  · have h3 : l.getD 3 0 ≠ 1 := by
      rcases h2 with h2 | h2 | h2
      · exact absurd hrf.1 h2
      · exact absurd hrf.2 h2
      · exact h2
    rw [hrf.1, hrf.2] at hcv
    have hb3 : ((l.getD 3 0 : Int) != 1) = true := by simp only [bne_iff_ne]; omega
    generalize l.getD 3 0 = z at *
    clear hrf h2 l0 l1 h3
    go_enter Tryd.func15, Tryd.ntmps15
    go_wp2_with fail
    exact bodyPost_ret (results_row_tmp rfl _ _ w.heap.size 48 _ (0, 0) _ rfl (Go.heap_alloc_new w _) Tryd.underlying48 rfl (by kernel_rfl)) rfl (decPost_bad HE.out (by decide) ((Below.refl _ _).alloc (Nat.le_refl _) _))
  · have hne := str_rf2 l0 l1 hrf
    generalize (⟨#[UInt8.ofNat (l.getD 0 0), UInt8.ofNat (l.getD 1 0)]⟩ : ByteArray) = str at *
    generalize l.getD 3 0 = z at *
    clear hrf h2 l0 l1
    go_enter Tryd.func15, Tryd.ntmps15
    go_wp2_with fail
    exact bodyPost_ret (results_row_tmp rfl _ _ w.heap.size 48 _ (0, 0) _ rfl (Go.heap_alloc_new w _) Tryd.underlying48 rfl (by kernel_rfl)) rfl (decPost_bad HE.out (by decide) ((Below.refl _ _).alloc (Nat.le_refl _) _))
end Go.Proofs.YtedhohamdbplhaaDoor
