import Derived.Test.YtcjilmafdpnfeaaDoorWDec0
namespace Go.Proofs.YtcjilmafdpnfeaaDoor
open Go.RowKit
open Num
set_option linter.unusedVariables false
set_option linter.unusedSimpArgs false
set_option maxRecDepth 20000

theorem derr_71 {b : List Nat} (h : b.length < 26) : derr b = 71 := by unfold derr; rw [if_pos h]
theorem derr_72 {b : List Nat} (h : ¬ b.length < 26) (h2 : b.getD 0 0 ≠ 82 ∨ b.getD 1 0 ≠ 70 ∨ b.getD 3 0 ≠ 1) : derr b = 72 := by unfold derr; rw [if_neg h, if_pos h2]
theorem derr_head {b : List Nat} (h : ¬ b.length < 26) (h2 : ¬ (b.getD 0 0 ≠ 82 ∨ b.getD 1 0 ≠ 70 ∨ b.getD 3 0 ≠ 1)) (h3 : ferr (b.getD 2 0 : Nat) (bv (sg b 20 2)) ≠ 0) : derr b = ferr (b.getD 2 0 : Nat) (bv (sg b 20 2)) := by unfold derr; rw [if_neg h, if_neg h2, if_pos h3]
theorem derr_rest {b : List Nat} (h : ¬ b.length < 26) (h2 : ¬ (b.getD 0 0 ≠ 82 ∨ b.getD 1 0 ≠ 70 ∨ b.getD 3 0 ≠ 1)) (h3 : ferr (b.getD 2 0 : Nat) (bv (sg b 20 2)) = 0) :
    derr b = if b.length < 26 + bv (sg b 20 2) then 71 else if 26 + bv (sg b 20 2) < b.length then 76 else if bv (sg b 22 4) ≠ crcM (crcM (crcM 0 (b.take 22)) [0, 0, 0, 0]) (b.drop 26) then 73 else 0 := by unfold derr; rw [if_neg h, if_neg h2, if_neg (by simpa using h3)]

theorem results_row_tmp {P : Program} {fn : Func} {p u : Tmp} {ty : TypeId} (h : fn.results = #[.cell p ty, .tmp u]) (tmps : Array Value) (w : World) (g : Nat) (t : TypeId) (cs : Array Value) (fr : Nat × Nat) (d : TypeDesc)
    (hp : tmps.getD p undef = .pointer (some ⟨g, 0, none⟩)) (hg : w.heap[g]? = some (.cells cs t fr))
    (hu : P.underlying ty = some d) (hd : (match d with | .struct _ | .array _ _ => true | _ => false) = true) (hi : (P.info? ty).map (·.size) = some cs.size) :
    (results fn tmps).run P w = .ok (.tuple #[.agg cs, tmps.getD u undef]) w := by
  have hp' : tmps[p]?.getD undef = .pointer (some ⟨g, 0, none⟩) := by simpa using hp
  simp [results, h, hp', asAddr, run_loadVar_row w g t ty cs fr d hg hu hd hi]
theorem set6 {w : World} {g : Nat} {x0 x1 x2 x3 x4 x5 : Value} {t : TypeId} (h : w.heap[g]? = some (.cells #[x0, x1, x2, x3, x4, x5] t (0, 0))) (a b c d e f : Value) : ((((((w.setCell ⟨g, 0, none⟩ a).setCell ⟨g, 1, none⟩ b).setCell ⟨g, 2, none⟩ c).setCell ⟨g, 3, none⟩ d).setCell ⟨g, 4, none⟩ e).setCell ⟨g, 5, none⟩ f).heap[g]? = some (.cells #[a, b, c, d, e, f] t (0, 0)) := by
  have h1 := Go.heap_setCell_same w g 0 _ t a h
  have h2 := Go.heap_setCell_same _ g 1 _ t b h1
  have h3 := Go.heap_setCell_same _ g 2 _ t c h2
  have h4 := Go.heap_setCell_same _ g 3 _ t d h3
  have h5 := Go.heap_setCell_same _ g 4 _ t e h4
  have h6 := Go.heap_setCell_same _ g 5 _ t f h5
  exact h6
theorem bel_set6 {n : Nat} {w w2 : World} {g : Nat} (h : Below n w w2) (hg : n ≤ g) (a b c d e f : Value) : Below n w ((((((w2.setCell ⟨g, 0, none⟩ a).setCell ⟨g, 1, none⟩ b).setCell ⟨g, 2, none⟩ c).setCell ⟨g, 3, none⟩ d).setCell ⟨g, 4, none⟩ e).setCell ⟨g, 5, none⟩ f) :=
  (((((h.setCell (p := ⟨g, 0, none⟩) hg a).setCell (p := ⟨g, 1, none⟩) hg b).setCell (p := ⟨g, 2, none⟩) hg c).setCell (p := ⟨g, 3, none⟩) hg d).setCell (p := ⟨g, 4, none⟩) hg e).setCell (p := ⟨g, 5, none⟩) hg f

/-- the bytes, their first cells and their mark, as the walk has them -/
theorem dec_open {w : World} {v : Value} {l : List Nat} (h : BSl w v l) (hl : ¬ l.length < 26) : ∃ b off cap, v = .slice (some ⟨b, off, none⟩) l.length cap ∧ l.length ≤ cap ∧ cap ≤ maxLen ∧ (∀ i, i < l.length → l.getD i 0 < 256) ∧ (∀ i, i < l.length → w.cell? ⟨b, off + i, none⟩ = some (.int .u8 (l.getD i 0 : Nat))) ∧
    (convert 22 9 (.slice (some ⟨b, off, none⟩) 2 cap)).run Tryd.prog w = .ok (.string ⟨#[UInt8.ofNat (l.getD 0 0), UInt8.ofNat (l.getD 1 0)]⟩) w := by
  have hb := h.bytes
  obtain ⟨a, cap, rfl, h1, hm, _, _, hcell⟩ := id h
  obtain ⟨b, off, rfl, hc⟩ := hcell (by omega)
  have h01 := h.seg 0 2 (by omega)
  rw [sg2 (by omega)] at h01
  exact ⟨b, off, cap, rfl, h1, hm, fun i hi => hb _ (mem_getD hi), hc, conv_bytes h01⟩

end Go.Proofs.YtcjilmafdpnfeaaDoor
