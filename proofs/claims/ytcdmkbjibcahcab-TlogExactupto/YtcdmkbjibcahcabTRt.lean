import Derived.Test.YtcdmkbjibcahcabTRs
import Derived.Test.YtcdmkbjibcahcabTNew
namespace Go.Proofs.Ytcdmkbjibcahcab
open Go.RowKit
set_option linter.unusedVariables false
set_option linter.unusedSimpArgs false
set_option maxRecDepth 20000

theorem eps_ls (S : LS) : S.eps = S.ls.map fun x => x.1.2.2 := by
  unfold LS.eps LS.es
  rw [List.map_map]
  rfl
theorem ofN_count (l : Ls) (e : Int) : ofN l e = (l.map fun x => x.1.2.2).count e := by
  unfold ofN
  induction l with
  | nil => rfl
  | cons a l ih =>
    rw [List.map_cons, List.filter_cons, List.count_cons]
    split
    · rw [List.length_cons, ih]
    · exact ih
theorem ofN_now {S : LS} (h : S.Ok) : ofN S.ls (S.now : Int) = joinN S := by
  rw [joinN_eq h, ofN_count, eps_ls]
theorem rfE_eq {S : LS} (h : S.Ok) (id blk : Int) : rfE S id blk = refE S id blk := by
  unfold rfE refE
  rw [ofN_now h, LS.es_len]
theorem head_ls (S : LS) : (S.ls.getD 0 l0).1 = S.es.getD 0 e0 := by
  unfold LS.es
  cases S.ls with
  | nil => rfl
  | cons a r => rfl
theorem rbB_eq {S : LS} (h : S.Ok) (ep cnt : Int) : rbB S ep cnt = barB S ep cnt := by
  unfold rbB barB
  rw [head_ls]
  by_cases hn : S.es = []
  · have : S.ls.length = 0 := by rw [← LS.es_len, hn]; rfl
    rw [show oldE S = (S.now : Int) by unfold oldE; rw [hn]; rfl, this]
    simp
  · have hp : 0 < S.es.length := List.length_pos_iff.2 hn
    have h1 : ¬ S.ls.length = 0 := by rw [← LS.es_len]; omega
    have h2 : oldE S = (S.es.getD 0 e0).2.2 := by unfold oldE; rw [if_neg (by omega)]
    rw [← h2, Bool.eq_iff_iff]
    simp only [Bool.and_eq_true, Bool.not_eq_true', decide_eq_false_iff_not, beq_eq_false_iff_ne, beq_iff_eq]
    have h3 : ofN S.ls (oldE S) = frontN S := by rw [front_count h hn, ofN_count, eps_ls]
    constructor
    · rintro ⟨-, g1, g2, g3⟩
      refine ⟨by omega, g2.symm, ?_⟩
      rw [← g2, h3] at g3
      exact g3.symm
    · rintro ⟨g1, g2, g3⟩
      refine ⟨h1, by omega, g2.symm, ?_⟩
      rw [g2, h3]
      exact g3.symm
theorem Stp.filt {α : Type} {n x : Int} (f : α → Int) : ∀ l : List α, Stp n (l.map f) → (∀ y ∈ l, x ≤ f y) → (l.filter fun y => f y == x) = (l.takeWhile fun y => f y == x) ∧ (l.filter fun y => !(f y == x)) = (l.dropWhile fun y => f y == x)
  | [], _, _ => ⟨rfl, rfl⟩
  | a :: r, h, hx => by
    have hs := h.le
    by_cases e : f a = x
    · obtain ⟨i1, i2⟩ := Stp.filt f r h.2 fun y hy => hx y (by simp [hy])
      rw [List.filter_cons_of_pos (by simpa using e), List.takeWhile_cons_of_pos (by simpa using e), List.filter_cons_of_neg (by simpa using e), List.dropWhile_cons_of_pos (by simpa using e), i1, i2]
      exact ⟨rfl, rfl⟩
    · have hg : ∀ y ∈ a :: r, f y ≠ x := fun y hy => by
        have h1 := hs (f y) (by simp only [List.map_cons, List.mem_cons, List.mem_map]; rcases List.mem_cons.1 hy with rfl | hy; exact .inl rfl; exact .inr ⟨y, hy, rfl⟩)
        have h2 := hx a (by simp)
        simp only [List.map_cons, List.headD_cons] at h1
        omega
      rw [List.takeWhile_cons_of_neg (by simpa using e), List.dropWhile_cons_of_neg (by simpa using e)]
      refine ⟨List.filter_eq_nil_iff.2 fun y hy => by simpa using hg y hy, List.filter_eq_self.2 fun y hy => by simpa using hg y hy⟩
theorem take_takeWhile {α : Type} (p : α → Bool) : ∀ l : List α, l.take (l.takeWhile p).length = l.takeWhile p
  | [] => rfl
  | a :: l => by
    cases h : p a with
    | true => rw [List.takeWhile_cons_of_pos h, List.length_cons, List.take_succ_cons, take_takeWhile p l]
    | false => rw [List.takeWhile_cons_of_neg (by simp [h])]; rfl
theorem frontN_ls (S : LS) : frontN S = (S.ls.takeWhile fun x => x.1.2.2 == (S.es.getD 0 e0).2.2).length := by
  unfold frontN LS.es
  rw [List.takeWhile_map, List.length_map]
  rfl
theorem leaves_eq {S : LS} (h : S.Ok) (hn : S.es ≠ []) : outL S.ls (oldE S) = S.es.take (frontN S) ∧ rstL S.ls (oldE S) = S.ls.drop (frontN S) := by
  have hp : 0 < S.es.length := List.length_pos_iff.2 hn
  have h2 : oldE S = (S.es.getD 0 e0).2.2 := by unfold oldE; rw [if_neg (by omega)]
  have hst := h.st
  rw [eps_ls] at hst
  have hle : ∀ y ∈ S.ls, oldE S ≤ y.1.2.2 := fun y hy => by
    have h1 := (h.st.le y.1.2.2 (by rw [eps_ls]; exact List.mem_map.2 ⟨y, hy, rfl⟩)).1
    rw [oldE_eq]
    exact h1
  obtain ⟨i1, i2⟩ := Stp.filt (fun x : En × Bool => x.1.2.2) S.ls hst hle
  unfold outL rstL
  rw [frontN_ls, ← h2, i1, i2]
  refine ⟨?_, (drop_takeWhile _ _).symm⟩
  unfold LS.es
  rw [← List.map_take, take_takeWhile]
theorem epF_any {n : Int} : ∀ (l : Ls) (c : Nat) (last : Int), Stp n (l.map fun x => x.1.2.2) → (last < (l.map fun x => x.1.2.2).headD n → (((l.foldl (epStep n) (c, last)).1 : Nat) : Int) = c + (n - (l.map fun x => x.1.2.2).headD n)) ∧ (last = (l.map fun x => x.1.2.2).headD n → last ≠ n → (((l.foldl (epStep n) (c, last)).1 : Nat) : Int) = c + (n - last - 1))
  | [], c, last, _ => by
    simp
    exact fun h h2 => absurd h h2
  | a :: r, c, last, h => by
    have h1 := h.1
    have hl := h.headLe
    have hl2 := Stp.headLe h.2
    simp only [List.map_cons, List.headD_cons, List.foldl_cons] at *
    constructor
    · intro hlt
      by_cases e : a.1.2.2 = n
      · have hst : epStep n (c, last) a = (c, last) := by unfold epStep; rw [if_neg (by simp [e])]
        rw [hst, (epF_any r c last h.2).1 (by omega)]
        omega
      · have hst : epStep n (c, last) a = (c + 1, a.1.2.2) := by unfold epStep; rw [if_pos ⟨e, by simp; omega⟩]
        rw [hst]
        rcases h1 with h1 | h1
        · rw [(epF_any r (c + 1) _ h.2).2 h1.symm e]
          omega
        · rw [(epF_any r (c + 1) _ h.2).1 (by omega)]
          omega
    · intro heq hn
      have hst : epStep n (c, last) a = (c, last) := by unfold epStep; rw [if_neg (by simp [heq])]
      rw [hst]
      rcases h1 with h1 | h1
      · rw [(epF_any r c last h.2).2 (by omega) hn]
      · rw [(epF_any r c last h.2).1 (by omega)]
        omega
theorem epF_eq {S : LS} (h : S.Ok) : (((epF (S.now : Int) S.ls).1 : Nat) : Int) = (S.now : Int) - oldE S := by
  have hst := h.st
  have ho := h.old
  rw [oldE_eq, eps_ls] at *
  unfold epF
  rw [(epF_any S.ls 0 0 hst).1 (by omega)]
  omega
theorem settled_eq {S : LS} (h : S.Ok) (e : Int) : (S.ls.all fun x => decide (e < x.1.2.2)) = (decide (S.es.length = 0) || decide (e < (S.es.getD 0 e0).2.2)) := by
  have hle := h.st.le
  rw [eps_ls] at hle
  rw [← head_ls, LS.es_len]
  generalize S.ls = l at *
  cases l with
  | nil => rfl
  | cons a r =>
    rw [Bool.eq_iff_iff]
    simp only [List.all_eq_true, decide_eq_true_eq, Bool.or_eq_true, List.length_cons, List.getD_cons_zero]
    constructor
    · intro h
      exact .inr (h a (by simp))
    · rintro (h | h) y hy
      · omega
      · have := (hle y.1.2.2 (List.mem_map.2 ⟨y, hy, rfl⟩)).1
        simp only [List.map_cons, List.headD_cons] at this
        omega
theorem DL.same {w : World} {q : Nat} {v : Value} {S S' : LS} (h : DL w q v S) (e : S.lim = S'.lim ∧ S.ep = S'.ep ∧ S.now = S'.now ∧ S.ls = S'.ls) : DL w q v S' := by
  obtain ⟨e1, e2, e3, e4⟩ := e
  exact ⟨by rw [← e1, ← e2, ← e3]; exact h.row, by rw [← e4]; exact h.own⟩
theorem DT.same {w w' : World} {q : Nat} {v v' : Value} {S S' : LS} (h : DT w w' q v v' S) (e : S.lim = S'.lim ∧ S.ep = S'.ep ∧ S.now = S'.now ∧ S.ls = S'.ls) : DT w w' q v v' S' := ⟨h.l.same e, h.chg, h.loc⟩
set_option maxHeartbeats 1000000 in
theorem rnew_ok (w : World) (lim ep : Nat) (h1 : 1 ≤ lim) (h2 : lim ≤ 1024) (h3 : 1 ≤ ep) (h4 : ep ≤ 64) : Calls Try.prog 9 #[.int .i64 (lim : Int), .int .i64 (ep : Int)] w fun e w' => ∃ q, e = .returned (.tuple #[.pointer (some ⟨q, 0, none⟩), .int .i64 0]) ∧ DL w' q (.slice none 0 0) (newS lim ep) ∧ Below w.heap.size w w' ∧ w.heap.size ≤ q := by
  have HF : Hid (DL (w.alloc (.cells #[.slice none 0 0, .int .i64 1, .int .i64 (lim : Int), .int .i64 (ep : Int)] 62)) w.heap.size (.slice none 0 0) (newS lim ep)) := hide ⟨Go.heap_alloc_new w _, ⟨rfl, .inl ⟨rfl, rfl⟩⟩⟩
  go_enter Try.func9, Try.ntmps9
  go_wp2_with fail
  (try simp only [Exit.inBlock, Exit.then]); refine bodyPost_ret (results_tmp2 rfl _ _ _) rfl ?_
  exact ⟨_, rfl, HF.out, below_alloc w _, Nat.le_refl _⟩
set_option maxHeartbeats 1000000 in
theorem rnew_bad (w : World) (lim ep : Int) (h : ¬ (1 ≤ lim ∧ lim ≤ 1024 ∧ 1 ≤ ep ∧ ep ≤ 64)) : Calls Try.prog 9 #[.int .i64 lim, .int .i64 ep] w fun e w' => e = .returned (.tuple #[.pointer none, .int .i64 1]) ∧ Below w.heap.size w w' := by
  have h5 : (decide (lim < 1) || decide (1024 < lim) || decide (ep < 1) || decide (64 < ep)) = true := by
    simp only [Bool.or_eq_true, decide_eq_true_eq]
    omega
  by_cases h1 : lim < 1
  · go_enter Try.func9, Try.ntmps9
    go_wp2_with fail
    (try simp only [Exit.inBlock, Exit.then]); refine bodyPost_ret (results_tmp2 rfl _ _ _) rfl ?_
    exact ⟨rfl, Below.refl _ _⟩
  · by_cases h2 : 1024 < lim
    · go_enter Try.func9, Try.ntmps9
      go_wp2_with fail
      (try simp only [Exit.inBlock, Exit.then]); refine bodyPost_ret (results_tmp2 rfl _ _ _) rfl ?_
      exact ⟨rfl, Below.refl _ _⟩
    · by_cases h3 : ep < 1
      · go_enter Try.func9, Try.ntmps9
        go_wp2_with fail
        (try simp only [Exit.inBlock, Exit.then]); refine bodyPost_ret (results_tmp2 rfl _ _ _) rfl ?_
        exact ⟨rfl, Below.refl _ _⟩
      · have h4 : 64 < ep := by omega
        go_enter Try.func9, Try.ntmps9
        go_wp2_with fail
        (try simp only [Exit.inBlock, Exit.then]); refine bodyPost_ret (results_tmp2 rfl _ _ _) rfl ?_
        exact ⟨rfl, Below.refl _ _⟩
end Go.Proofs.Ytcdmkbjibcahcab
