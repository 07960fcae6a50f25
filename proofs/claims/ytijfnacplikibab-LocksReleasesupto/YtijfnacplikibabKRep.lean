import Derived.Test.YtijfnacplikibabKMu
namespace Go.Proofs.Ytijfnacplikibab
open Go.RowKit
set_option linter.unusedVariables false
set_option linter.unusedSimpArgs false
set_option maxRecDepth 20000

/-- a claim's cells; a list's -/
def cV (c : Int × Int) : List Value := [.int .i64 c.1, .int .i64 c.2]
def cvs (l : List (Int × Int)) : List Value := l.flatMap cV
def iV (z : Int) : Value := .int .i64 z
theorem cvs_length (l : List (Int × Int)) : (cvs l).length = l.length * 2 := by
  induction l with
  | nil => rfl
  | cons a l ih => simp [cvs, cV] at ih ⊢; omega
theorem cvs_append (l k : List (Int × Int)) : cvs (l ++ k) = cvs l ++ cvs k := by simp [cvs]
theorem cvs_cons (a : Int × Int) (l : List (Int × Int)) : cvs (a :: l) = .int .i64 a.1 :: .int .i64 a.2 :: cvs l := by simp [cvs, cV]
theorem cvs_take (l : List (Int × Int)) (n : Nat) : (cvs l).take (n * 2) = cvs (l.take n) := by
  induction l generalizing n with
  | nil => simp [cvs]
  | cons a l ih =>
    cases n with
    | zero => simp [cvs]
    | succ n => rw [cvs_cons, show (n + 1) * 2 = n * 2 + 1 + 1 by omega, List.take_succ_cons, List.take_succ_cons, ih, List.take_succ_cons, cvs_cons]
theorem cvs_drop (l : List (Int × Int)) (n : Nat) : (cvs l).drop (n * 2) = cvs (l.drop n) := by
  induction l generalizing n with
  | nil => simp [cvs]
  | cons a l ih =>
    cases n with
    | zero => simp
    | succ n => rw [cvs_cons, show (n + 1) * 2 = n * 2 + 1 + 1 by omega, List.drop_succ_cons, List.drop_succ_cons, ih, List.drop_succ_cons]
theorem cvs_get {l : List (Int × Int)} {n : Nat} {c : Int × Int} (h : l[n]? = some c) : (cvs l)[n * 2]? = some (.int .i64 c.1) ∧ (cvs l)[n * 2 + 1]? = some (.int .i64 c.2) := by
  induction l generalizing n with
  | nil => simp at h
  | cons a l ih =>
    cases n with
    | zero =>
      simp at h
      subst h
      simp [cvs_cons]
    | succ n =>
      rw [cvs_cons, show (n + 1) * 2 = n * 2 + 1 + 1 by omega]
      simpa using ih (by simpa using h)
/-- a list of claims, the table's own -/
def CRow (w : World) (v : Value) (l : List (Int × Int)) : Prop := w.ownsRow 0 75 2 v l.length (cvs l)
theorem CRow.kept {w w' : World} {v : Value} {l : List (Int × Int)} (h : CRow w v l) (hk : ∀ g, v.ownBlock = some g → w'.heap[g]? = w.heap[g]?) : CRow w' v l := rowKept h hk
theorem CRow.lt {w : World} {v : Value} {l : List (Int × Int)} (h : CRow w v l) {g : Nat} (hg : v.ownBlock = some g) : g < w.heap.size := (World.ownsRow.lt h g hg).2
theorem CRow.nil (w : World) : CRow w (.slice none 0 0) [] := ⟨rfl, .inl ⟨rfl, rfl⟩⟩
theorem CRow.cell {w : World} {v : Value} {l : List (Int × Int)} (h : CRow w v l) {j : Nat} {c : Int × Int} (hj : l[j]? = some c) : ∃ g cap, v = .slice (some ⟨g, 0, none⟩) l.length cap ∧ g < w.heap.size ∧ (w.cell? ⟨g, j * 2, none⟩ = some (.int .i64 c.1)) ∧ w.cell? ⟨g, j * 2 + 1, none⟩ = some (.int .i64 c.2) := by
  have hl : j < l.length := (List.getElem?_eq_some_iff.1 hj).1
  have hlt := @CRow.lt w v l h
  have h' : w.ownsRow 0 75 2 v l.length (cvs l) := h
  have h2 := h'
  rcases h'.2 with ⟨_, e⟩ | ⟨g, cap, cur, rfl, _, hg, _⟩
  · omega
  · have hc := cvs_get hj
    have hn := cvs_length l
    refine ⟨g, cap, rfl, hlt rfl, ?_, ?_⟩
    · rw [h2.cellAt (j * 2) (by omega)]; exact hc.1
    · rw [h2.cellAt (j * 2 + 1) (by omega)]; exact hc.2
/-- where the owner stands -/
def pl (l : List (Int × Int)) (o : Int) : Nat := l.findIdx fun c => c.1 == o
def plV (l : List (Int × Int)) (o : Int) : Int := if pl l o < l.length then (pl l o : Int) else -1

set_option maxHeartbeats 1000000 in
theorem place1_any (w : World) (g : Nat) (o a b : Int) (hc : w.cell? ⟨g, 0, none⟩ = some (.int .i64 o)) : Calls Try.prog 66 #[.agg #[.int .i64 a, .int .i64 b], .pointer (some ⟨g, 0, none⟩)] w fun e w' => e = .returned (.bool (a == o)) ∧ Below w.heap.size w w' := by
  have hg : g < w.heap.size := by
    unfold World.cell? at hc
    apply Classical.byContradiction
    intro hn
    rw [Array.getElem?_eq_none (by simp; omega)] at hc
    simp at hc
  have hc2 : (w.alloc (.cells #[.int .i64 a, .int .i64 b] 75)).cell? ⟨g, 0, none⟩ = some (.int .i64 o) := by rw [World.cell?_of_block (RowKit.Below.heap_alloc _ _ _ hg)]; exact hc
  go_enter Try.func66, Try.ntmps66
  go_wp2_with fail
  go_ret
  exact ⟨rfl, (Below.refl _ w).alloc (Nat.le_refl _) _⟩
end Go.Proofs.Ytijfnacplikibab
