import Derived.Test.YtijfnacplikibabKRef0
namespace Go.Proofs.Ytijfnacplikibab
open Go.RowKit
set_option linter.unusedVariables false
set_option linter.unusedSimpArgs false
set_option maxRecDepth 20000

/-- a place of the document's table -/
structure Pc where
  ext : Int
  mode : Int
  own : Int
  held : Bool
  turn : Int
def p0 : Pc := ⟨0, 0, 0, false, 0⟩
def pcV (x : Pc) : List Value := [.int .i64 x.ext, .int .i64 x.mode, .int .i64 x.own, .bool x.held, .int .i64 x.turn]
def pcvs (l : List Pc) : List Value := l.flatMap pcV
theorem pcvs_length (l : List Pc) : (pcvs l).length = l.length * 5 := by
  induction l with
  | nil => rfl
  | cons x l ih => simp only [pcvs, List.flatMap_cons, List.length_append, List.length_cons] at *; simp [pcV, ih]; omega
theorem pcvs_append (l k : List Pc) : pcvs (l ++ k) = pcvs l ++ pcvs k := by simp [pcvs]
theorem pcvs_get {l : List Pc} {n : Nat} {c : Pc} (h : l[n]? = some c) : (pcvs l)[n * 5]? = some (.int .i64 c.ext) ∧ (pcvs l)[n * 5 + 1]? = some (.int .i64 c.mode) ∧ (pcvs l)[n * 5 + 2]? = some (.int .i64 c.own) ∧ (pcvs l)[n * 5 + 3]? = some (.bool c.held) ∧ (pcvs l)[n * 5 + 4]? = some (.int .i64 c.turn) := by
  induction l generalizing n with
  | nil => simp at h
  | cons x l ih =>
    have e : pcvs (x :: l) = .int .i64 x.ext :: .int .i64 x.mode :: .int .i64 x.own :: .bool x.held :: .int .i64 x.turn :: pcvs l := by simp [pcvs, pcV]
    cases n with
    | zero =>
      simp at h
      subst h
      rw [e]
      simp
    | succ n =>
      obtain ⟨a, b, c', d, f⟩ := ih (n := n) (by simpa using h)
      rw [e, show (n + 1) * 5 = n * 5 + 1 + 1 + 1 + 1 + 1 by omega]
      refine ⟨by simpa using a, ?_, ?_, ?_, ?_⟩
      · rw [show n * 5 + 1 + 1 + 1 + 1 + 1 + 1 = (n * 5 + 1) + 1 + 1 + 1 + 1 + 1 by omega]; simpa using b
      · rw [show n * 5 + 1 + 1 + 1 + 1 + 1 + 2 = (n * 5 + 2) + 1 + 1 + 1 + 1 + 1 by omega]; simpa using c'
      · rw [show n * 5 + 1 + 1 + 1 + 1 + 1 + 3 = (n * 5 + 3) + 1 + 1 + 1 + 1 + 1 by omega]; simpa using d
      · rw [show n * 5 + 1 + 1 + 1 + 1 + 1 + 4 = (n * 5 + 4) + 1 + 1 + 1 + 1 + 1 by omega]; simpa using f
theorem pcvs_one {l : List Pc} : ∀ u ∈ pcvs l, u.oneCell' = true := fun u hu => by
  simp only [pcvs, List.mem_flatMap, pcV, List.mem_cons, List.not_mem_nil, or_false] at hu
  obtain ⟨x, -, rfl | rfl | rfl | rfl | rfl⟩ := hu <;> rfl
def PRow (w : World) (v : Value) (l : List Pc) : Prop := w.ownsRow 0 83 5 v l.length (pcvs l)
/-- a place's cells -/
def pcAt (w : World) (g j : Nat) (x : Pc) : Prop := w.cell? ⟨g, j * 5, none⟩ = some (.int .i64 x.ext) ∧ w.cell? ⟨g, j * 5 + 1, none⟩ = some (.int .i64 x.mode) ∧ w.cell? ⟨g, j * 5 + 2, none⟩ = some (.int .i64 x.own) ∧ w.cell? ⟨g, j * 5 + 3, none⟩ = some (.bool x.held) ∧ w.cell? ⟨g, j * 5 + 4, none⟩ = some (.int .i64 x.turn)
theorem PRow.form {w : World} {v : Value} {l : List Pc} (h : PRow w v l) : ∃ a c, v = .slice a l.length c ∧ l.length ≤ c ∧ c ≤ maxLen ∧ ∀ j, j < l.length → ∃ g, a = some ⟨g, 0, none⟩ ∧ pcAt w g j (l.getD j p0) := by
  have h' : w.ownsRow 0 83 5 v l.length (pcvs l) := h
  rcases h'.2 with ⟨rfl, hz⟩ | ⟨g, cap, cur, rfl, _, _, h1, h2, _⟩
  · exact ⟨none, 0, by rw [hz], by omega, by unfold maxLen; omega, fun j hj => by omega⟩
  · refine ⟨_, _, rfl, h1, h2, fun j hj => ⟨g, rfl, ?_⟩⟩
    have hg : l[j]? = some (l.getD j p0) := by simp [List.getD, hj]
    obtain ⟨q0, q1, q2, q3, q4⟩ := pcvs_get hg
    have cc := fun k u hk => h'.cells (g := g) rfl k u hk
    refine ⟨?_, ?_, ?_, ?_, ?_⟩
    · have := cc _ _ q0; rwa [Addr.add_lit, Nat.zero_add] at this
    · have := cc _ _ q1; rwa [Addr.add_lit, Nat.zero_add] at this
    · have := cc _ _ q2; rwa [Addr.add_lit, Nat.zero_add] at this
    · have := cc _ _ q3; rwa [Addr.add_lit, Nat.zero_add] at this
    · have := cc _ _ q4; rwa [Addr.add_lit, Nat.zero_add] at this
/-- the document's table in memory -/
structure RT (w : World) (q : Nat) (v : Value) (n room : Nat) (P : List Pc) (T : Nat) : Prop where
  row : w.heap[q]? = some (.cells #[.int .i64 (n : Int), .int .i64 (room : Int), v, .int .i64 (T : Int)] 73 (0, 0))
  own : PRow w v P
section
variable {w w' : World} {q : Nat} {v : Value} {n room : Nat} {P : List Pc} {T : Nat}
theorem RT.c0 (h : RT w q v n room P T) : w.cell? ⟨q, 0, none⟩ = some (.int .i64 (n : Int)) := by rw [cell_of_row _ _ _ _ _ _ h.row]; rfl
theorem RT.c1 (h : RT w q v n room P T) : w.cell? ⟨q, 1, none⟩ = some (.int .i64 (room : Int)) := by rw [cell_of_row _ _ _ _ _ _ h.row]; rfl
theorem RT.c2 (h : RT w q v n room P T) : w.cell? ⟨q, 2, none⟩ = some v := by rw [cell_of_row _ _ _ _ _ _ h.row]; rfl
theorem RT.c3 (h : RT w q v n room P T) : w.cell? ⟨q, 3, none⟩ = some (.int .i64 (T : Int)) := by rw [cell_of_row _ _ _ _ _ _ h.row]; rfl
theorem RT.f (h : RT w q v n room P T) (i : Nat) : w.frozen? ⟨q, i, none⟩ = false := frozen_of_row _ _ _ _ 73 h.row
theorem RT.kept (h : RT w q v n room P T) (hk : ∀ g, g = q ∨ v.ownBlock = some g → w'.heap[g]? = w.heap[g]?) : RT w' q v n room P T := ⟨(hk q (.inl rfl)).trans h.row, rowKept h.own fun g e => hk g (.inr e)⟩
theorem RT.lt (h : RT w q v n room P T) : q < w.heap.size := (Array.getElem?_eq_some_iff.1 h.row).1
theorem RT.vlt (h : RT w q v n room P T) {g : Nat} (e : v.ownBlock = some g) : g < w.heap.size := (World.ownsRow.lt h.own g e).2
theorem RT.below (h : RT w q v n room P T) (hb : Below w.heap.size w w') : RT w' q v n room P T := h.kept fun g e => hb.block g (by rcases e with rfl | e; exact h.lt; exact h.vlt e)
end
/-- where the first place stands that is so; -1: nowhere -/
def ixB (f : Pc → Bool) (l : List Pc) : Int := if l.findIdx f < l.length then (l.findIdx f : Int) else -1
theorem ixB_at {f : Pc → Bool} {l : List Pc} {k : Nat} (hk : k < l.length) (he : f (l.getD k p0) = true) (hn : ∀ j, j < k → f (l.getD j p0) = false) : ixB f l = (k : Int) := by
  have e : l.findIdx f = k := by
    rw [List.findIdx_eq hk]
    refine ⟨by simpa [List.getD, hk] using he, fun j hj => ?_⟩
    have := hn j hj
    simpa [List.getD, Nat.lt_trans hj hk] using this
  unfold ixB
  rw [e, if_pos hk]
theorem ixB_no {f : Pc → Bool} {l : List Pc} (hn : ∀ j, j < l.length → f (l.getD j p0) = false) : ixB f l = -1 := by
  unfold ixB
  rw [if_neg]
  rw [List.findIdx_lt_length]
  rintro ⟨x, hx, he⟩
  obtain ⟨j, hj, rfl⟩ := List.mem_iff_getElem.1 hx
  have := hn j hj
  simp [List.getD, hj] at this
  rw [this] at he
  cases he
def fnd (e o : Int) (x : Pc) : Bool := x.ext == e && x.own == o
def fst1 (e : Int) (x : Pc) : Bool := x.ext == e && !x.held
/-- stands in the mode's way -/
def bar1 (e m : Int) (x : Pc) : Bool := (x.ext == e && x.held) && (x.mode == 2 || m == 2)
end Go.Proofs.Ytijfnacplikibab
