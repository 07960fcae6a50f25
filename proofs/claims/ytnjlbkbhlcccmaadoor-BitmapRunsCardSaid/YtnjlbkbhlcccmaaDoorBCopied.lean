import Derived.Test.YtnjlbkbhlcccmaaDoorBHelp
namespace Go.Proofs.YtnjlbkbhlcccmaaDoor
open Go.RowKit Go.Shelf
set_option linter.unusedVariables false
set_option linter.unusedSimpArgs false
set_option maxRecDepth 20000

/-- may the words stand as the lower level of n bits? -/
def canB (n : Int) (l : List Nat) : Bool := decide (1 ≤ n ∧ n ≤ 65536 ∧ cwErr n.toNat l = 0)

/-- what lies behind the end of a list that is handed in -/
def behindN : Nat := 13835058055282163719
def cpRow (len : Nat) (f : Nat → Nat) : Array Value := wrow ((List.range len).map f)
theorem cpRow_size (len : Nat) (f : Nat → Nat) : (cpRow len f).size = len := by simp [cpRow, wrow_size]
theorem cpRow_get {len i : Nat} (f : Nat → Nat) (h : i < len) : (cpRow len f)[i]? = some (.int .u64 (f i : Nat)) := by
  unfold cpRow
  rw [wrow_get (by simpa using h)]
  simp [List.getD, h]
theorem cpRow_congr {len : Nat} {f g : Nat → Nat} (h : ∀ i, i < len → f i = g i) : cpRow len f = cpRow len g := by
  unfold cpRow
  congr 1
  exact List.map_congr_left fun i hi => h i (List.mem_range.1 hi)
theorem cpRow_set {len k x : Nat} {f g : Nat → Nat} (hk : k < len) (h1 : g k = x) (h2 : ∀ i, i < len → i ≠ k → g i = f i) : (cpRow len f).setIfInBounds k (.int .u64 (x : Int)) = cpRow len g := by
  apply Array.ext_getElem?
  intro i
  by_cases hi : i < len
  · by_cases e : i = k
    · subst e
      rw [Array.getElem?_setIfInBounds_self_of_lt (by rw [cpRow_size]; exact hi), cpRow_get g hi, h1]
    · rw [Array.getElem?_setIfInBounds_ne (by omega), cpRow_get f hi, cpRow_get g hi, h2 i hi e]
  · rw [Array.getElem?_eq_none (by simp [cpRow_size]; omega), Array.getElem?_eq_none (by simp [cpRow_size]; omega)]
theorem cpRow_zero (len : Nat) : wrow (wds 0 len) = cpRow len fun _ => 0 := by
  unfold cpRow wds
  congr 1
  exact List.map_congr_left fun i _ => wd_zero

/-- what 'copied' gives: nil, or new memory with marks behind its end -/
def Cp (N : Nat) (w : World) (v : Value) (l : List Nat) : Prop :=
  (v = .slice none 0 0 ∧ l = []) ∨ ∃ g, v = .slice (some ⟨g, 0, none⟩) l.length (l.length + 3) ∧ N ≤ g ∧ w.heap[g]? = some (.cells (cpRow (l.length + 3) fun i => if i < l.length then l.getD i 0 else behindN) 63 (0, 0))
theorem Cp.wsl {N : Nat} {w : World} {v : Value} {l : List Nat} (h : Cp N w v l) (hl : ∀ b ∈ l, b < 18446744073709551616) (hm : l.length + 3 ≤ maxLen) : WSl w v l := by
  rcases h with ⟨rfl, rfl⟩ | ⟨g, rfl, hN, hg⟩
  · exact ⟨none, 0, rfl, Nat.le_refl _, by unfold maxLen; omega, fun _ => rfl, by simp, by simp⟩
  · refine ⟨_, _, rfl, by omega, hm, by simp, hl, fun _ => ⟨g, 0, rfl, fun i hi => ?_⟩⟩
    rw [Nat.zero_add, cell_of_row _ _ _ _ _ _ hg, cpRow_get _ (by omega), if_pos hi]
theorem Cp.new {N : Nat} {w : World} {v : Value} {l : List Nat} (h : Cp N w v l) : ∀ g, blockOf v = some g → N ≤ g ∧ g < w.heap.size := by
  rcases h with ⟨rfl, rfl⟩ | ⟨g, rfl, hN, hg⟩
  · intro g hg; simp [blockOf] at hg
  · intro g' hg'
    simp only [blockOf, Option.some.injEq] at hg'
    subst hg'
    exact ⟨hN, (Array.getElem?_eq_some_iff.1 hg).1⟩
theorem Cp.keptIf {N : Nat} {w w' : World} {v : Value} {l : List Nat} (h : Cp N w v l) (hk : ∀ g, blockOf v = some g → w'.heap[g]? = w.heap[g]?) : Cp N w' v l := by
  rcases h with ⟨rfl, rfl⟩ | ⟨g, rfl, hN, hg⟩
  · exact .inl ⟨rfl, rfl⟩
  · exact .inr ⟨g, rfl, hN, (hk g rfl).trans hg⟩
theorem Cp.below {N : Nat} {w w' : World} {v : Value} {l : List Nat} (h : Cp N w v l) (hb : Below w.heap.size w w') : Cp N w' v l := h.keptIf fun g hg => hb.block g (h.new g hg).2

set_option maxHeartbeats 400000 in
theorem copied_full {w : World} {v : Value} {l : List Nat} (h : WSl w v l) (hr : l.length ≤ 17592186044416) :
    Calls Tryd.prog 9 #[v] w fun e w' => ∃ v', e = .returned v' ∧ (v' = .slice none 0 0 → v = .slice none 0 0) ∧ Cp w.heap.size w' v' l ∧ WSl w' v' l ∧ Below w.heap.size w w' := by
  have H := hide h
  obtain ⟨a, cap, rfl, q1, q2, q3, q4, q5⟩ := h
  unfold maxLen at q2
  cases a with
  | none =>
    have hc : cap = 0 := q3 rfl
    have hl0 : l = [] := List.eq_nil_of_length_eq_zero (by omega)
    subst hl0 hc
    have hq := eqNil_nil
    clear q4 q5 q3
    simp only [List.length_nil]
    go_enter Tryd.func9, Tryd.ntmps9
    go_wp2
    go_ret
    exact ⟨_, rfl, fun _ => trivial, .inl ⟨rfl, rfl⟩, H.out, Below.refl _ _⟩
  | some ad =>
    have hq := eqNil_some
    have HC : Hid (∀ k, k < l.length → ∃ b off, ad = ⟨b, off, none⟩ ∧ b < w.heap.size ∧ w.cell? ⟨b, off + k, none⟩ = some (.int .u64 (l.getD k 0 : Nat))) := hide fun k hk => by
      obtain ⟨b, off, e, hc⟩ := q5 (by omega)
      cases e
      exact ⟨b, off, rfl, World.block_lt_of_cell? w _ (hc k hk), hc k hk⟩
    have HL := hide H.out.lt
    have HG := hide H.out.getLt
    clear q3 q4 q5
    have hmk := run_words (l.length + 3) (by omega)
    have HZ : Hid ((w.alloc (.cells (wrow (wds 0 (l.length + 3))) 63)).heap[w.heap.size]? = some (.cells (cpRow (l.length + 3) fun i => if i < 0 then behindN else 0) 63 (0, 0))) := hide (by
      rw [Go.heap_alloc_new w _, cpRow_zero]; simp)
    obtain ⟨ROW, hROW⟩ : ∃ ROW : (Nat → Nat) → Array Value, ∀ f, ROW f = cpRow (l.length + 3) f := ⟨_, fun _ => rfl⟩
    have HROW := hide hROW
    simp only [← hROW] at HZ
    clear hROW
    generalize hZ : wrow (wds 0 (l.length + 3)) = Z at *
    clear hZ
    obtain ⟨F, hF⟩ : ∃ F : Nat → Nat, ∀ k, F k = l.getD k 0 := ⟨_, fun _ => rfl⟩
    have HF := hide hF
    simp only [← hF] at HC HG
    clear hF
    obtain ⟨len, hlen⟩ : ∃ len, l.length = len := ⟨_, rfl⟩
    have HLEN := hide hlen
    rw [hlen] at hmk HC q1 hr HROW ⊢
    clear hlen
    have hmk' : ∀ W : World, (Instr.makeSlice 22 (.int .i64 ((len : Int) + 3)) (.int .i64 ((len : Int) + 3))).run Tryd.prog W = .ok (.slice (some ⟨W.heap.size, 0, none⟩) (len + 3) (len + 3)) (W.alloc (.cells Z 63)) := fun W => by
      have := hmk W
      rw [Int.natCast_add] at this
      exact this
    clear hmk
    go_enter Tryd.func9, Tryd.ntmps9
    go_wp2_with fail
    go_loopw [4] (fun i wr => ∃ k : Nat, k ≤ len + 3 ∧ i = .int .i64 (k : Int) ∧ Below w.heap.size w wr ∧ wr.heap[w.heap.size]? = some (.cells (ROW fun i => if i < k then behindN else 0) 63 (0, 0))) (fun i _ => len + 3 - (intOf i).toNat)
    case atStart => exact ⟨0, by omega, rfl, (Below.refl _ _).alloc (Nat.le_refl _) _, HZ.out⟩
    case round =>
      obtain ⟨k, hk, rfl, hb, hrow⟩ := hrel
      have HB := hide hb
      clear hb HZ
      by_cases hlt : k < len + 3
      · have hc : wr.cell? ⟨w.heap.size, k, none⟩ = some (.int .u64 (0 : Nat)) := by rw [cell_of_row _ _ _ _ _ _ hrow, HROW.out, cpRow_get _ hlt, if_neg (by omega)]
        have hf : wr.frozen? ⟨w.heap.size, k, none⟩ = false := frozen_of_row _ _ _ _ 63 hrow
        have HN : Hid ((wr.setCell ⟨w.heap.size, k, none⟩ (.int .u64 13835058055282163719)).heap[w.heap.size]? = some (.cells (ROW fun i => if i < k + 1 then behindN else 0) 63 (0, 0))) := hide (by
          rw [Go.heap_setCell_same wr w.heap.size k _ 63 _ hrow, HROW.out, HROW.out]
          have := cpRow_set (len := len + 3) (k := k) (x := behindN) (f := fun i => if i < k then behindN else 0) (g := fun i => if i < k + 1 then behindN else 0) hlt (by simp) (fun i _ hne => by
            by_cases hik : i < k
            · rw [if_pos hik, if_pos (by omega)]
            · rw [if_neg hik, if_neg (by omega)])
          rw [← this]; rfl)
        clear hrow
        go_wp2_with fail
        go_roundw
        case rel => exact ⟨k + 1, by omega, by go_num, HB.out.setCell (p := ⟨w.heap.size, k, none⟩) (Nat.le_refl _) _, HN.out⟩
        case measure => simp [intOf]; omega
      · have HR : Hid (wr.heap[w.heap.size]? = some (.cells (ROW fun i => if i < 0 then F i else behindN) 63 (0, 0))) := hide (by
          rw [hrow, HROW.out, HROW.out]
          congr 2
          exact cpRow_congr fun i hi => by rw [if_pos (by omega), if_neg (by omega)])
        clear hrow
        go_wp2_with fail
        go_loopw [5] (fun i wr => ∃ k : Nat, k ≤ len ∧ i = .int .i64 (k : Int) ∧ Below w.heap.size w wr ∧ wr.heap[w.heap.size]? = some (.cells (ROW fun i => if i < k then F i else behindN) 63 (0, 0))) (fun i _ => len - (intOf i).toNat)
        case atStart => exact ⟨0, by omega, rfl, HB.out, HR.out⟩
        case round =>
          obtain ⟨k2, hk2, rfl, hb2, hrow2⟩ := hrel
          have HB2 := hide hb2
          clear HB HR
          by_cases hlt2 : k2 < len
          · obtain ⟨b, off, rfl, hbl, hcv⟩ := HC.out k2 hlt2
            have hcv' := (hb2.cell (p := ⟨b, off + k2, none⟩) hbl).trans hcv
            have hx := HG.out k2
            have hc : wr.cell? ⟨w.heap.size, k2, none⟩ = some (.int .u64 (behindN : Nat)) := by rw [cell_of_row _ _ _ _ _ _ hrow2, HROW.out, cpRow_get _ (by omega), if_neg (by omega)]
            have hf : wr.frozen? ⟨w.heap.size, k2, none⟩ = false := frozen_of_row _ _ _ _ 63 hrow2
            have HN : Hid ((wr.setCell ⟨w.heap.size, k2, none⟩ (.int .u64 (F k2 : Nat))).heap[w.heap.size]? = some (.cells (ROW fun i => if i < k2 + 1 then F i else behindN) 63 (0, 0))) := hide (by
              rw [Go.heap_setCell_same wr w.heap.size k2 _ 63 _ hrow2, HROW.out, HROW.out]
              have := cpRow_set (len := len + 3) (k := k2) (x := F k2) (f := fun i => if i < k2 then F i else behindN) (g := fun i => if i < k2 + 1 then F i else behindN) (by omega) (by simp) (fun i _ hne => by
                by_cases hik : i < k2
                · rw [if_pos hik, if_pos (by omega)]
                · rw [if_neg hik, if_neg (by omega)])
              rw [← this])
            clear hrow2 hb2 hcv HC
            generalize behindN = bn at *
            generalize F k2 = x at *
            go_wp2_with fail
            go_roundw
            case rel => exact ⟨k2 + 1, by omega, by go_num, HB2.out.setCell (p := ⟨w.heap.size, k2, none⟩) (Nat.le_refl _) _, HN.out⟩
            case measure => simp [intOf]; omega
          · have ek : k2 = len := by omega
            have HCP : Hid (Cp w.heap.size wr (.slice (some ⟨w.heap.size, 0, none⟩) len (len + 3)) l) := hide (.inr ⟨w.heap.size, by rw [HLEN.out], Nat.le_refl _, by
              rw [hrow2, HROW.out, ek, HLEN.out]
              congr 2
              exact cpRow_congr fun i hi => by rw [HF.out]⟩)
            clear hrow2 hb2 ek
            go_wp2_with fail
            go_ret
            exact ⟨_, rfl, fun e => by simp at e, HCP.out, HCP.out.wsl HL.out (by rw [HLEN.out]; unfold maxLen; omega), HB2.out⟩
theorem copied_any {w : World} {v : Value} {l : List Nat} (h : WSl w v l) (hr : l.length ≤ 17592186044416) :
    Calls Tryd.prog 9 #[v] w fun e w' => ∃ v', e = .returned v' ∧ Cp w.heap.size w' v' l ∧ WSl w' v' l ∧ Below w.heap.size w w' :=
  (copied_full h hr).mono fun e w' ⟨v', h1, _, h2⟩ => ⟨v', h1, h2⟩
end Go.Proofs.YtnjlbkbhlcccmaaDoor
