import Derived.Test.YtglajdmkbckjjabBHelp
namespace Go.Proofs.Ytglajdmkbckjjab
open Go.RowKit Go.Shelf
set_option linter.unusedVariables false
set_option linter.unusedSimpArgs false
set_option maxRecDepth 20000

/-- may the words stand as the lower level of n bits? -/
def canB (n : Int) (l : List Nat) : Bool := decide (1 ≤ n ∧ n ≤ 65536 ∧ cwErr n.toNat l = 0)

/-- what lies behind the end of a list that is handed in -/
def behindN : Nat := 13835058055282163719
def cpRow (len : Nat) (f : Nat → Nat) : Array Value := wrow ((List.range len).map f)
theorem cpRow_size (len : Nat) (f : Nat → Nat) : (cpRow len f).size = len := by simp [cpRow, wrow_size]
theorem cpRow_get {len i : Nat} (f : Nat → Nat) (h : i < len) : (cpRow len f)[i]? = some (.int .u64 (f i : Nat)) := by
  unfold cpRow
  rw [wrow_get (by simpa using h)]
  simp [List.getD, h]
theorem cpRow_congr {len : Nat} {f g : Nat → Nat} (h : ∀ i, i < len → f i = g i) : cpRow len f = cpRow len g := by
  unfold cpRow
  congr 1
  exact List.map_congr_left fun i hi => h i (List.mem_range.1 hi)
theorem cpRow_set {len k x : Nat} {f g : Nat → Nat} (hk : k < len) (h1 : g k = x) (h2 : ∀ i, i < len → i ≠ k → g i = f i) : (cpRow len f).setIfInBounds k (.int .u64 (x : Int)) = cpRow len g := by
  apply Array.ext_getElem?
  intro i
  by_cases hi : i < len
  · by_cases e : i = k
    · subst e
      rw [Array.getElem?_setIfInBounds_self_of_lt (by rw [cpRow_size]; exact hi), cpRow_get g hi, h1]
    · rw [Array.getElem?_setIfInBounds_ne (by omega), cpRow_get f hi, cpRow_get g hi, h2 i hi e]
  · rw [Array.getElem?_eq_none (by simp [cpRow_size]; omega), Array.getElem?_eq_none (by simp [cpRow_size]; omega)]
theorem cpRow_zero (len : Nat) : wrow (wds 0 len) = cpRow len fun _ => 0 := by
  unfold cpRow wds
  congr 1
  exact List.map_congr_left fun i _ => wd_zero

/-- what 'copied' gives: nil, or new memory with marks behind its end -/
def Cp (N : Nat) (w : World) (v : Value) (l : List Nat) : Prop :=
  (v = .slice none 0 0 ∧ l = []) ∨ ∃ g, v = .slice (some ⟨g, 0, none⟩) l.length (l.length + 3) ∧ N ≤ g ∧ w.heap[g]? = some (.cells (cpRow (l.length + 3) fun i => if i < l.length then l.getD i 0 else behindN) 58 (0, 0))
theorem Cp.wsl {N : Nat} {w : World} {v : Value} {l : List Nat} (h : Cp N w v l) (hl : ∀ b ∈ l, b < 18446744073709551616) (hm : l.length + 3 ≤ maxLen) : WSl w v l := by
  rcases h with ⟨rfl, rfl⟩ | ⟨g, rfl, hN, hg⟩
  · exact ⟨none, 0, rfl, Nat.le_refl _, by unfold maxLen; omega, fun _ => rfl, by simp, by simp⟩
  · refine ⟨_, _, rfl, by omega, hm, by simp, hl, fun _ => ⟨g, 0, rfl, fun i hi => ?_⟩⟩
    rw [Nat.zero_add, cell_of_row _ _ _ _ _ _ hg, cpRow_get _ (by omega), if_pos hi]
theorem Cp.new {N : Nat} {w : World} {v : Value} {l : List Nat} (h : Cp N w v l) : ∀ g, blockOf v = some g → N ≤ g ∧ g < w.heap.size := by
  rcases h with ⟨rfl, rfl⟩ | ⟨g, rfl, hN, hg⟩
  · intro g hg; simp [blockOf] at hg
  · intro g' hg'
    simp only [blockOf, Option.some.injEq] at hg'
    subst hg'
    exact ⟨hN, (Array.getElem?_eq_some_iff.1 hg).1⟩
theorem Cp.keptIf {N : Nat} {w w' : World} {v : Value} {l : List Nat} (h : Cp N w v l) (hk : ∀ g, blockOf v = some g → w'.heap[g]? = w.heap[g]?) : Cp N w' v l := by
  rcases h with ⟨rfl, rfl⟩ | ⟨g, rfl, hN, hg⟩
  · exact .inl ⟨rfl, rfl⟩
  · exact .inr ⟨g, rfl, hN, (hk g rfl).trans hg⟩
theorem Cp.below {N : Nat} {w w' : World} {v : Value} {l : List Nat} (h : Cp N w v l) (hb : Below w.heap.size w w') : Cp N w' v l := h.keptIf fun g hg => hb.block g (h.new g hg).2

end Go.Proofs.Ytglajdmkbckjjab
