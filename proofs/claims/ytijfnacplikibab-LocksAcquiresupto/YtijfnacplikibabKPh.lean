import Derived.Test.YtijfnacplikibabKPg
import Derived.Test.YtijfnacplikibabKRelA
namespace Go.Proofs.Ytijfnacplikibab
open Go.RowKit
set_option linter.unusedVariables false
set_option linter.unusedSimpArgs false
set_option maxRecDepth 20000

/-- a list without its k-th -/
def del (k : Nat) (l : List Pc) : List Pc := l.take k ++ l.drop (k + 1)
theorem del_short {k : Nat} {l : List Pc} (h : l.length ≤ k) : del k l = l := by
  unfold del
  rw [List.take_of_length_le h, List.drop_of_length_le (by omega), List.append_nil]
theorem del_snoc {k : Nat} {l : List Pc} (x : Pc) (h : k < l.length) : del k (l ++ [x]) = del k l ++ [x] := by
  unfold del
  rw [List.take_append_of_le_length (by omega), List.drop_append_of_le_length (by omega), List.append_assoc]
theorem del_step (P : List Pc) (k : Nat) {i : Nat} (hi : i < P.length) : del k (P.take (i + 1)) = if i = k then del k (P.take i) else del k (P.take i) ++ [P.getD i p0] := by
  have e1 : P.take (i + 1) = P.take i ++ [P.getD i p0] := by
    rw [List.take_add_one]
    simp [List.getD, hi]
  have hl : (P.take i).length = i := by rw [List.length_take]; omega
  by_cases h : i = k
  · rw [if_pos h, del_short (l := P.take i) (by omega), e1]
    unfold del
    rw [List.take_append_of_le_length (by omega), List.take_of_length_le (by omega), List.drop_of_length_le (by simp; omega), List.append_nil]
  · rw [if_neg h, e1]
    by_cases h2 : i < k
    · rw [del_short (l := P.take i) (by omega), del_short (by simp; omega)]
    · rw [del_snoc _ (by omega)]
theorem del_len (P : List Pc) (k : Nat) : (del k P).length ≤ P.length := by
  unfold del
  rw [List.length_append, List.length_take, List.length_drop]
  omega
/-- where a place is found: what lies ahead of it and behind it -/
theorem ixB_split {f : Pc → Bool} {P : List Pc} {k : Nat} (h : ixB f P = (k : Int)) : ∃ hk : k < P.length, P = P.take k ++ P[k] :: P.drop (k + 1) ∧ f P[k] = true ∧ ∀ y ∈ P.take k, f y = false := by
  unfold ixB at h
  split at h
  · rename_i hlt
    have e : P.findIdx f = k := by omega
    rw [e] at hlt
    refine ⟨hlt, ?_, ?_, fun y hy => ?_⟩
    · exact (List.take_append_drop k P).symm.trans (by rw [List.drop_eq_getElem_cons hlt])
    · have := List.findIdx_getElem (xs := P) (p := f) (w := by rw [e]; exact hlt)
      simpa [e] using this
    · obtain ⟨j, hj, rfl⟩ := List.mem_iff_getElem.1 hy
      rw [List.length_take] at hj
      have := List.not_of_lt_findIdx (p := f) (xs := P) (i := j) (by omega)
      rw [List.getElem_take]
      simpa using this
  · omega
theorem wtN_del (P : List Pc) (k : Nat) : wtN (del k P) ≤ wtN P := by
  unfold del wtN
  rw [List.countP_append]
  have e : P.countP (fun x => !x.held) = (P.take k).countP (fun x => !x.held) + (P.drop k).countP (fun x => !x.held) := by rw [← List.countP_append, List.take_append_drop]
  have h2 : (P.drop (k + 1)).countP (fun x => !x.held) ≤ (P.drop k).countP (fun x => !x.held) := by
    have : (P.drop (k + 1)).Sublist (P.drop k) := by
      rw [← List.drop_drop]
      exact List.drop_sublist 1 (P.drop k)
    exact this.countP_le
  omega
theorem pcvs_cons (x : Pc) (l : List Pc) : pcvs (x :: l) = .int .i64 x.ext :: .int .i64 x.mode :: .int .i64 x.own :: .bool x.held :: .int .i64 x.turn :: pcvs l := by simp [pcvs, pcV]
theorem pcvs_set {l : List Pc} {i : Nat} {x : Pc} (t : Int) (h : l[i]? = some x) : ((pcvs l).set (i * 5 + 3) (.bool true)).set (i * 5 + 4) (.int .i64 t) = pcvs (l.set i { x with held := true, turn := t }) := by
  induction l generalizing i with
  | nil => simp at h
  | cons a l ih =>
    cases i with
    | zero =>
      simp at h
      subst h
      simp [pcvs_cons]
    | succ i =>
      rw [show (i + 1) * 5 + 3 = i * 5 + 3 + 1 + 1 + 1 + 1 + 1 by omega, show (i + 1) * 5 + 4 = i * 5 + 4 + 1 + 1 + 1 + 1 + 1 by omega, List.set_cons_succ, pcvs_cons, pcvs_cons]
      simp only [List.set_cons_succ]
      rw [ih (by simpa using h)]
/-- a place comes to hold -/
theorem RT.hold {w : World} {q g N c room n i : Nat} {P : List Pc} {T : Nat} {x : Pc} (hn : P.length = N) (h : RT w q (.slice (some ⟨g, 0, none⟩) N c) n room P T) (hx : P[i]? = some x) (t : Int) : RT ((w.setCell ⟨g, i * 5 + 3, none⟩ (.bool true)).setCell ⟨g, i * 5 + 4, none⟩ (.int .i64 t)) q (.slice (some ⟨g, 0, none⟩) N c) n room (P.set i { x with held := true, turn := t }) T := by
  subst hn
  have hq : g ≠ q := fun e => h.vq (by rw [← e]; rfl)
  refine ⟨((Go.heap_setCell_other _ _ _ _ (by exact hq.symm)).trans (Go.heap_setCell_other _ _ _ _ (by exact hq.symm))).trans h.row, ?_⟩
  have ho : w.ownsRow 0 83 5 (.slice (some ⟨g, 0, none⟩) P.length c) P.length (pcvs P) := h.own
  have hs := ((ho.stored (i * 5 + 3) (.bool true)).1.stored (i * 5 + 4) (.int .i64 t)).1
  unfold PRow
  rw [← pcvs_set t hx, List.length_set]
  exact hs
theorem set_mid {A B : List Pc} {x y : Pc} : (A ++ x :: B).set A.length y = A ++ y :: B := by
  rw [List.set_append_right _ _ (Nat.le_refl _)]
  simp
/-- the lists when j of those that waited have come in -/
def mvL (L : LL) (e j : Nat) : LL := upd (upd L (e * 2) (L (e * 2) ++ (L (e * 2 + 1)).take j)) (e * 2 + 1) ((L (e * 2 + 1)).drop j)
theorem mvL_zero (L : LL) (e : Nat) : mvL L e 0 = L := by
  funext k
  unfold mvL
  by_cases h1 : k = e * 2 + 1
  · rw [h1, upd_same]; rfl
  · rw [upd_other _ _ _ h1]
    by_cases h2 : k = e * 2
    · rw [h2, upd_same]; simp
    · rw [upd_other _ _ _ h2]
theorem mvL_h (L : LL) (e j : Nat) : mvL L e j (e * 2) = L (e * 2) ++ (L (e * 2 + 1)).take j := by
  unfold mvL
  rw [upd_other _ _ _ (by omega), upd_same]
theorem mvL_w (L : LL) (e j : Nat) : mvL L e j (e * 2 + 1) = (L (e * 2 + 1)).drop j := by
  unfold mvL
  rw [upd_same]
theorem mvL_step (L : LL) (e j : Nat) {c : Int × Int} {r : List (Int × Int)} (h : (L (e * 2 + 1)).drop j = c :: r) : upd (upd (mvL L e j) (e * 2) (mvL L e j (e * 2) ++ [c])) (e * 2 + 1) r = mvL L e (j + 1) := by
  have h1 : (L (e * 2 + 1)).drop (j + 1) = r := by
    rw [← List.drop_drop, h]
    rfl
  have h2 : (L (e * 2 + 1)).take (j + 1) = (L (e * 2 + 1)).take j ++ [c] := by
    rw [List.take_add_one]
    have : (L (e * 2 + 1))[j]? = some c := by
      have := congrArg (fun l => l[0]?) h
      simpa using this
    rw [this]
    rfl
  funext k
  by_cases k1 : k = e * 2 + 1
  · rw [k1, upd_same, mvL_w, h1]
  · rw [upd_other _ _ _ k1]
    by_cases k2 : k = e * 2
    · rw [k2, upd_same, mvL_h, mvL_h, h2, List.append_assoc]
    · rw [upd_other _ _ _ k2]
      unfold mvL
      rw [upd_other _ _ _ k1, upd_other _ _ _ k2, upd_other _ _ _ k1, upd_other _ _ _ k2]
theorem wtN_hold {A B : List Pc} {x : Pc} (h : x.held = false) (t : Int) : wtN (A ++ { x with held := true, turn := t } :: B) + 1 = wtN (A ++ x :: B) := by
  unfold wtN
  rw [List.countP_append, List.countP_append, List.countP_cons, List.countP_cons, if_neg (by simp), if_pos (by simp [h])]
  omega
end Go.Proofs.Ytijfnacplikibab
