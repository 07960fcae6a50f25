import Derived.Test.YtcdmkbjibcahcabKApp
namespace Go.Proofs.Ytcdmkbjibcahcab
open Go.RowKit
set_option linter.unusedVariables false
set_option linter.unusedSimpArgs false
set_option maxRecDepth 20000

/-- a write: its id, its block, its epoch -/
abbrev En := Int × Int × Int
def eV (c : En) : List Value := [.int .i64 c.1, .int .i64 c.2.1, .int .i64 c.2.2]
def evs (l : List En) : List Value := l.flatMap eV
def e0 : En := (0, 0, 0)
theorem evs_length (l : List En) : (evs l).length = l.length * 3 := by
  induction l with
  | nil => rfl
  | cons a l ih => simp [evs, eV] at ih ⊢; omega
theorem evs_append (l k : List En) : evs (l ++ k) = evs l ++ evs k := by simp [evs]
theorem evs_cons (a : En) (l : List En) : evs (a :: l) = .int .i64 a.1 :: .int .i64 a.2.1 :: .int .i64 a.2.2 :: evs l := by simp [evs, eV]
theorem evs_drop (l : List En) (n : Nat) : (evs l).drop (n * 3) = evs (l.drop n) := by
  induction l generalizing n with
  | nil => simp [evs]
  | cons a l ih =>
    cases n with
    | zero => simp
    | succ n => rw [evs_cons, show (n + 1) * 3 = n * 3 + 1 + 1 + 1 by omega, List.drop_succ_cons, List.drop_succ_cons, List.drop_succ_cons, ih, List.drop_succ_cons]
theorem evs_take (l : List En) (n : Nat) : (evs l).take (n * 3) = evs (l.take n) := by
  induction l generalizing n with
  | nil => simp [evs]
  | cons a l ih =>
    cases n with
    | zero => simp [evs]
    | succ n => rw [evs_cons, show (n + 1) * 3 = n * 3 + 1 + 1 + 1 by omega, List.take_succ_cons, List.take_succ_cons, List.take_succ_cons, ih, List.take_succ_cons, evs_cons]
theorem evs_get {l : List En} {n : Nat} {c : En} (h : l[n]? = some c) : (evs l)[n * 3]? = some (.int .i64 c.1) ∧ (evs l)[n * 3 + 1]? = some (.int .i64 c.2.1) ∧ (evs l)[n * 3 + 2]? = some (.int .i64 c.2.2) := by
  induction l generalizing n with
  | nil => simp at h
  | cons a l ih =>
    cases n with
    | zero =>
      simp at h
      subst h
      simp [evs_cons]
    | succ n =>
      rw [evs_cons, show (n + 1) * 3 = n * 3 + 1 + 1 + 1 by omega]
      simpa using ih (by simpa using h)
theorem evs_one {l : List En} : ∀ u ∈ evs l, u.oneCell' = true := fun u hu => by
  simp only [evs, List.mem_flatMap, eV, List.mem_cons, List.not_mem_nil, or_false] at hu
  obtain ⟨a, _, rfl | rfl | rfl⟩ := hu <;> rfl
/-- append to a list at an offset of its block, where there is room -/
theorem run_append_off {P : Program} (w : World) (t ty e : TypeId) (i : TypeInfo) (ht : P.underlying t = some (.slice e)) (hi : P.info? e = some i)
    (g off sLen sCap : Nat) (cur : Array Value) (hg : w.heap[g]? = some (.cells cur e (0, 0)))
    (a : Addr) (m c : Nat) (news : List Value) (hl : news.length = m * i.size) (hnews : ∀ j u, news[j]? = some u → w.cell? (a.add j) = some u) (h1 : ∀ u ∈ news, u.oneCell' = true)
    (hroom : sLen + m ≤ sCap) (hfit : off + sLen * i.size + news.length ≤ cur.size) :
    (Builtin.append_ #[t, t] ty #[.slice (some ⟨g, off, none⟩) sLen sCap, .slice (some a) m c]).run P w =
      .ok (.slice (some ⟨g, off, none⟩) (sLen + m) sCap) (w.setRow g (cur.toList.take (off + sLen * i.size) ++ news ++ cur.toList.drop (off + sLen * i.size + news.length)).toArray) := by
  have hf := run_firstCells_some (P := P) w i.size m a m c news hl hnews
  have hst := run_storeCells_at P g (off + sLen * i.size) e news 0 cur w hg (by simpa using hfit) h1
  simp only [Nat.add_zero] at hst
  simp [Builtin.append_, run_underlying ht, sizeOf, typeInfo, hi, Builtin.lenOf, hroom, hf, Addr.add_lit, hst]
/-- a list of writes at an offset of its block, which is its own up to the cap -/
def ERow (w : World) (v : Value) (l : List En) : Prop :=
  (v = .slice none 0 0 ∧ l = []) ∨ ∃ g off cap cur, v = .slice (some ⟨g, off, none⟩) l.length cap ∧ w.heap[g]? = some (.cells cur 56 (0, 0)) ∧ off + cap * 3 ≤ cur.size ∧ l.length ≤ cap ∧ cap ≤ maxLen ∧ (cur.toList.drop off).take (l.length * 3) = evs l
theorem ERow.nil (w : World) : ERow w (.slice none 0 0) [] := .inl ⟨rfl, rfl⟩
theorem ERow.kept {w w' : World} {v : Value} {l : List En} (h : ERow w v l) (hk : ∀ g, v.ownBlock = some g → w'.heap[g]? = w.heap[g]?) : ERow w' v l := by
  rcases h with h | ⟨g, off, cap, cur, rfl, hg, h⟩
  · exact .inl h
  · exact .inr ⟨g, off, cap, cur, rfl, (hk g rfl).trans hg, h⟩
theorem ERow.lt {w : World} {v : Value} {l : List En} (h : ERow w v l) {g : Nat} (hg : v.ownBlock = some g) : g < w.heap.size := by
  rcases h with ⟨rfl, _⟩ | ⟨g', off, cap, cur, rfl, hg', _⟩
  · simp [Value.ownBlock] at hg
  · simp only [Value.ownBlock, Option.some.injEq] at hg
    subst hg
    exact (Array.getElem?_eq_some_iff.1 hg').1
theorem ERow.below {w w' : World} {v : Value} {l : List En} (h : ERow w v l) (hb : Below w.heap.size w w') : ERow w' v l := h.kept fun g e => hb.block g (h.lt e)
theorem ERow.cells {w : World} {v : Value} {l : List En} (h : ERow w v l) {g : Nat} (hg : v.ownBlock = some g) : ∃ cs, w.heap[g]? = some (.cells cs 56 (0, 0)) := by
  rcases h with ⟨rfl, _⟩ | ⟨g', off, cap, cur, rfl, hg', _⟩
  · simp [Value.ownBlock] at hg
  · simp only [Value.ownBlock, Option.some.injEq] at hg
    subst hg
    exact ⟨cur, hg'⟩
theorem ERow.form {w : World} {v : Value} {l : List En} (h : ERow w v l) : ∃ a c, v = .slice a l.length c ∧ l.length ≤ c ∧ c ≤ maxLen ∧ ∀ j, j < l.length → ∃ g off, a = some ⟨g, off, none⟩ ∧ g < w.heap.size ∧ w.cell? ⟨g, off + j * 3, none⟩ = some (.int .i64 (l.getD j e0).1) ∧ w.cell? ⟨g, off + j * 3 + 1, none⟩ = some (.int .i64 (l.getD j e0).2.1) ∧ w.cell? ⟨g, off + j * 3 + 2, none⟩ = some (.int .i64 (l.getD j e0).2.2) := by
  rcases h with ⟨rfl, rfl⟩ | ⟨g, off, cap, cur, rfl, hg, h1, h2, h3, h4⟩
  · exact ⟨none, 0, rfl, Nat.le_refl _, Nat.zero_le _, fun j hj => by simp at hj⟩
  · refine ⟨_, cap, rfl, h2, h3, fun j hj => ⟨g, off, rfl, (Array.getElem?_eq_some_iff.1 hg).1, ?_⟩⟩
    have e : l[j]? = some (l.getD j e0) := by simp [List.getD, hj]
    obtain ⟨q1, q2, q3⟩ := evs_get e
    rw [← h4, List.getElem?_take, if_pos (by omega), List.getElem?_drop] at q1 q2 q3
    rw [cell_of_row _ _ _ _ _ _ hg, cell_of_row _ _ _ _ _ _ hg, cell_of_row _ _ _ _ _ _ hg]
    exact ⟨by simpa using q1, by simpa [Nat.add_assoc] using q2, by simpa [Nat.add_assoc] using q3⟩
/-- its tail, its front -/
theorem ERow.tail {w : World} {g off cap : Nat} {l : List En} (h : ERow w (.slice (some ⟨g, off, none⟩) l.length cap) l) {k : Nat} (hk : k ≤ l.length) : ERow w (.slice (some ⟨g, off + k * 3, none⟩) (l.length - k) (cap - k)) (l.drop k) := by
  rcases h with ⟨e, _⟩ | ⟨g', off', cap', cur, e, hg, h1, h2, h3, h4⟩
  · cases e
  · simp only [Value.slice.injEq, Option.some.injEq, Addr.mk.injEq] at e
    obtain ⟨⟨rfl, rfl, -⟩, -, rfl⟩ := e
    refine .inr ⟨g, off + k * 3, cap - k, cur, by rw [List.length_drop], hg, by omega, by rw [List.length_drop]; omega, by omega, ?_⟩
    rw [List.length_drop, ← evs_drop, ← h4, List.drop_take, List.drop_drop]
    congr 1
    omega
theorem ERow.gone {w : World} {g off : Nat} {l : List En} {cap : Nat} (h : ERow w (.slice (some ⟨g, off, none⟩) l.length cap) l) : ERow w (.slice (some ⟨g, off, none⟩) 0 0) [] := by
  rcases h with ⟨e, _⟩ | ⟨g', off', cap', cur, e, hg, h1, h2, h3, h4⟩
  · cases e
  · simp only [Value.slice.injEq, Option.some.injEq, Addr.mk.injEq] at e
    obtain ⟨⟨rfl, rfl, -⟩, -, rfl⟩ := e
    exact .inr ⟨g, off, 0, cur, rfl, hg, by omega, Nat.le_refl _, Nat.zero_le _, by simp [evs]⟩
theorem ERow.front {w : World} {g off cap : Nat} {l : List En} (h : ERow w (.slice (some ⟨g, off, none⟩) l.length cap) l) {k c : Nat} (hk : k ≤ l.length) (hc : k ≤ c) (hc2 : c ≤ cap) : ERow w (.slice (some ⟨g, off, none⟩) k c) (l.take k) := by
  rcases h with ⟨e, _⟩ | ⟨g', off', cap', cur, e, hg, h1, h2, h3, h4⟩
  · cases e
  · simp only [Value.slice.injEq, Option.some.injEq, Addr.mk.injEq] at e
    obtain ⟨⟨rfl, rfl, -⟩, -, rfl⟩ := e
    have hl : (l.take k).length = k := by rw [List.length_take]; omega
    refine .inr ⟨g, off, c, cur, by rw [hl], hg, by omega, by rw [hl]; exact hc, by omega, ?_⟩
    rw [hl, ← evs_take, ← h4, List.take_take]
    congr 1
    omega
end Go.Proofs.Ytcdmkbjibcahcab
