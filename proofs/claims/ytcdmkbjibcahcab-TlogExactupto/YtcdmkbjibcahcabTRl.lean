import Derived.Test.YtcdmkbjibcahcabTLg4
namespace Go.Proofs.Ytcdmkbjibcahcab
open Go.RowKit
set_option linter.unusedVariables false
set_option linter.unusedSimpArgs false
set_option maxRecDepth 20000

/-- a line of the document's log: a write, and whether it is acked -/
def lnV (x : En × Bool) : List Value := [.int .i64 x.1.1, .int .i64 x.1.2.1, .int .i64 x.1.2.2, .bool x.2]
def lnvs (l : Ls) : List Value := l.flatMap lnV
def l0 : En × Bool := (e0, false)
theorem lnvs_length (l : Ls) : (lnvs l).length = l.length * 4 := by
  induction l with
  | nil => rfl
  | cons a l ih => simp [lnvs, lnV] at ih ⊢; omega
theorem lnvs_append (l k : Ls) : lnvs (l ++ k) = lnvs l ++ lnvs k := by simp [lnvs]
theorem lnvs_cons (a : En × Bool) (l : Ls) : lnvs (a :: l) = .int .i64 a.1.1 :: .int .i64 a.1.2.1 :: .int .i64 a.1.2.2 :: .bool a.2 :: lnvs l := by simp [lnvs, lnV]
theorem lnvs_get {l : Ls} {n : Nat} {c : En × Bool} (h : l[n]? = some c) : (lnvs l)[n * 4]? = some (.int .i64 c.1.1) ∧ (lnvs l)[n * 4 + 1]? = some (.int .i64 c.1.2.1) ∧ (lnvs l)[n * 4 + 2]? = some (.int .i64 c.1.2.2) ∧ (lnvs l)[n * 4 + 3]? = some (.bool c.2) := by
  induction l generalizing n with
  | nil => simp at h
  | cons a l ih =>
    cases n with
    | zero =>
      simp at h
      subst h
      simp [lnvs_cons]
    | succ n =>
      rw [lnvs_cons, show (n + 1) * 4 = n * 4 + 1 + 1 + 1 + 1 by omega]
      simpa using ih (by simpa using h)
theorem lnvs_one {l : Ls} : ∀ u ∈ lnvs l, u.oneCell' = true := fun u hu => by
  simp only [lnvs, List.mem_flatMap, lnV, List.mem_cons, List.not_mem_nil, or_false] at hu
  obtain ⟨a, _, rfl | rfl | rfl | rfl⟩ := hu <;> rfl
def DRow (w : World) (v : Value) (l : Ls) : Prop := w.ownsRow 0 64 4 v l.length (lnvs l)
/-- the document's log in memory -/
structure DL (w : World) (q : Nat) (v : Value) (S : LS) : Prop where
  row : w.heap[q]? = some (.cells #[v, .int .i64 (S.now : Int), .int .i64 (S.lim : Int), .int .i64 (S.ep : Int)] 62 (0, 0))
  own : DRow w v S.ls
theorem DRow.form {w : World} {v : Value} {l : Ls} (h : DRow w v l) : ∃ a c, v = .slice a l.length c ∧ l.length ≤ c ∧ c ≤ maxLen ∧ ∀ j, j < l.length → ∃ g, a = some ⟨g, 0, none⟩ ∧ w.cell? ⟨g, j * 4, none⟩ = some (.int .i64 (l.getD j l0).1.1) ∧ w.cell? ⟨g, j * 4 + 1, none⟩ = some (.int .i64 (l.getD j l0).1.2.1) ∧ w.cell? ⟨g, j * 4 + 2, none⟩ = some (.int .i64 (l.getD j l0).1.2.2) ∧ w.cell? ⟨g, j * 4 + 3, none⟩ = some (.bool (l.getD j l0).2) := by
  have h' : w.ownsRow 0 64 4 v l.length (lnvs l) := h
  rcases h'.2 with ⟨rfl, hz⟩ | ⟨g, cap, cur, rfl, _, _, h1, h2, _⟩
  · exact ⟨none, 0, by rw [hz], by omega, by unfold maxLen; omega, fun j hj => by omega⟩
  · refine ⟨_, _, rfl, h1, h2, fun j hj => ⟨g, rfl, ?_⟩⟩
    have hg : l[j]? = some (l.getD j l0) := by simp [List.getD, hj]
    obtain ⟨q0, q1, q2, q3⟩ := lnvs_get hg
    have cc := fun k u hk => h'.cells (g := g) rfl k u hk
    refine ⟨?_, ?_, ?_, ?_⟩
    · have := cc _ _ q0; rwa [Addr.add_lit, Nat.zero_add] at this
    · have := cc _ _ q1; rwa [Addr.add_lit, Nat.zero_add] at this
    · have := cc _ _ q2; rwa [Addr.add_lit, Nat.zero_add] at this
    · have := cc _ _ q3; rwa [Addr.add_lit, Nat.zero_add] at this
section
variable {w w' : World} {q : Nat} {v : Value} {S : LS}
theorem DL.c0 (h : DL w q v S) : w.cell? ⟨q, 0, none⟩ = some v := by rw [cell_of_row _ _ _ _ _ _ h.row]; rfl
theorem DL.c1 (h : DL w q v S) : w.cell? ⟨q, 1, none⟩ = some (.int .i64 (S.now : Int)) := by rw [cell_of_row _ _ _ _ _ _ h.row]; rfl
theorem DL.c2 (h : DL w q v S) : w.cell? ⟨q, 2, none⟩ = some (.int .i64 (S.lim : Int)) := by rw [cell_of_row _ _ _ _ _ _ h.row]; rfl
theorem DL.c3 (h : DL w q v S) : w.cell? ⟨q, 3, none⟩ = some (.int .i64 (S.ep : Int)) := by rw [cell_of_row _ _ _ _ _ _ h.row]; rfl
theorem DL.f (h : DL w q v S) (i : Nat) : w.frozen? ⟨q, i, none⟩ = false := frozen_of_row _ _ _ _ 62 h.row
theorem DL.kept (h : DL w q v S) (hk : ∀ g, g = q ∨ v.ownBlock = some g → w'.heap[g]? = w.heap[g]?) : DL w' q v S := ⟨(hk q (.inl rfl)).trans h.row, rowKept h.own fun g e => hk g (.inr e)⟩
theorem DL.drewN (h : DL w q v S) (k : Nat) : DL (w.drewN k) q v S := h.kept fun _ _ => rfl
end
/-- how many lines are of an epoch -/
def ofN (l : Ls) (e : Int) : Nat := (l.filter fun x => x.1.2.2 == e).length
theorem ofN_step (l : Ls) (e : Int) {k : Nat} (hk : k < l.length) : ofN (l.take (k + 1)) e = if (l.getD k l0).1.2.2 = e then ofN (l.take k) e + 1 else ofN (l.take k) e := by
  have hg : l.getD k l0 = l[k] := by simp [List.getD, hk]
  rw [hg, List.take_add_one, List.getElem?_eq_getElem hk]
  unfold ofN
  rw [List.filter_append]
  by_cases h : l[k].1.2.2 = e
  · rw [if_pos h]
    simp [h]
  · rw [if_neg h]
    simp [h]
theorem ofN_le (l : Ls) (e : Int) : ofN l e ≤ l.length := List.length_filter_le _ _
set_option maxHeartbeats 1000000 in
theorem rof_any {w : World} {q : Nat} {v : Value} {S : LS} (h : DL w q v S) (hl : S.ls.length ≤ 2000) (e : Int) : Calls Try.prog 41 #[.pointer (some ⟨q, 0, none⟩), .int .i64 e] w fun e' w' => e' = .returned (.int .i64 (ofN S.ls e : Int)) ∧ w' = w := by
  obtain ⟨a, c, rfl, b1, b2, hc⟩ := h.own.form
  unfold maxLen at b2
  have c0 := h.c0
  have HC := hide hc
  have HS := hide fun (k : Nat) (hk : k < S.ls.length) => ofN_step S.ls e hk
  have HL := hide fun k => (ofN_le (S.ls.take k) e)
  have HT : Hid (ofN (S.ls.take S.ls.length) e = ofN S.ls e) := hide (by rw [List.take_length])
  have HZ : Hid (ofN (S.ls.take 0) e = 0) := hide rfl
  clear h hc
  obtain ⟨F, hF⟩ : ∃ F : Nat → Nat, ∀ k, F k = ofN (S.ls.take k) e := ⟨_, fun _ => rfl⟩
  have HB : Hid (∀ k, F k ≤ 2000) := hide fun k => by
    have := HL.out k
    rw [hF]
    rw [List.length_take] at this
    omega
  simp only [← hF] at HS HT HZ
  rw [← HT.out]
  clear hF HL HT
  generalize S.ls.length = n at *
  go_enter Try.func41, Try.ntmps41
  go_wp2_with fail
  go_loopw [5, 6] (fun x y wr => ∃ k : Nat, k ≤ n ∧ y = .int .i64 (k : Int) ∧ x = .int .i64 (F k : Int) ∧ wr = w) (fun _ y _ => n - (intOf y).toNat)
  case atStart => exact ⟨0, Nat.zero_le _, rfl, by rw [HZ.out]; rfl, rfl⟩
  case round =>
    obtain ⟨k, hk, rfl, rfl, hwr⟩ := hrel
    have hwr2 := hwr.symm
    clear hwr
    subst hwr2
    have hb := HB.out k
    by_cases hlt : k < n
    · obtain ⟨g, rfl, d0, d1, d2, d3⟩ := HC.out k hlt
      have hs := HS.out k hlt
      clear HC HS d0 d1 d3
      by_cases hx : (S.ls.getD k l0).1.2.2 = e
      · rw [if_pos hx] at hs
        have hxe : ((S.ls.getD k l0).1.2.2 == e) = true := by simpa using hx
        have HN := hide hs
        clear hs hx
        generalize (S.ls.getD k l0).1.2.2 = z at *
        go_wp2_with fail
        go_roundw
        case rel => exact ⟨k + 1, by omega, by go_num, by rw [HN.out]; go_num, trivial⟩
        case measure => simp [intOf]; omega
      · rw [if_neg hx] at hs
        have hxe : ((S.ls.getD k l0).1.2.2 == e) = false := by simpa using hx
        have HN := hide hs
        clear hs hx
        generalize (S.ls.getD k l0).1.2.2 = z at *
        go_wp2_with fail
        go_roundw
        case rel => exact ⟨k + 1, by omega, by go_num, by rw [HN.out], trivial⟩
        case measure => simp [intOf]; omega
    · have ek : k = n := by omega
      subst ek
      go_wp2_with fail
      go_ret
      exact ⟨rfl, rfl⟩
/-- where a write stands -/
def ixN (l : Ls) (id : Int) : Nat := l.findIdx fun x => x.1.1 == id
def ixI (l : Ls) (id : Int) : Int := if ixN l id < l.length then (ixN l id : Int) else -1
set_option maxHeartbeats 1000000 in
theorem rfind_any {w : World} {q : Nat} {v : Value} {S : LS} (h : DL w q v S) (hl : S.ls.length ≤ 2000) (id : Int) : Calls Try.prog 40 #[.pointer (some ⟨q, 0, none⟩), .int .i64 id] w fun e' w' => e' = .returned (.int .i64 (ixI S.ls id)) ∧ w' = w := by
  obtain ⟨a, c, rfl, b1, b2, hc⟩ := h.own.form
  unfold maxLen at b2
  have c0 := h.c0
  have HC := hide hc
  have HY : Hid (∀ k, k < S.ls.length → (S.ls.getD k l0).1.1 = id → (∀ j, j < k → (S.ls.getD j l0).1.1 ≠ id) → ixI S.ls id = (k : Int)) := hide fun k hk he hn => by
    have e : ixN S.ls id = k := by
      unfold ixN
      rw [List.findIdx_eq hk]
      refine ⟨by simpa [List.getD, hk] using he, fun j hj => ?_⟩
      have := hn j hj
      simpa [List.getD, Nat.lt_trans hj hk] using this
    unfold ixI
    rw [e, if_pos hk]
  have HX : Hid ((∀ j, j < S.ls.length → (S.ls.getD j l0).1.1 ≠ id) → ixI S.ls id = -1) := hide fun hn => by
    unfold ixI ixN
    rw [if_neg]
    rw [List.findIdx_lt_length]
    rintro ⟨x, hx, he⟩
    obtain ⟨j, hj, rfl⟩ := List.mem_iff_getElem.1 hx
    have := hn j hj
    simp [List.getD, hj] at this
    exact this (by simpa using he)
  clear h hc
  generalize ixI S.ls id = R at *
  generalize S.ls.length = n at *
  go_enter Try.func40, Try.ntmps40
  go_wp2_with fail
  go_loopw [5] (fun y wr => ∃ k : Nat, k ≤ n ∧ y = .int .i64 (k : Int) ∧ Hid (∀ j, j < k → (S.ls.getD j l0).1.1 ≠ id) ∧ wr = w) (fun y _ => n - (intOf y).toNat)
  case atStart => exact ⟨0, Nat.zero_le _, rfl, hide fun j hj => by omega, rfl⟩
  case round =>
    obtain ⟨k, hk, rfl, HP, hwr⟩ := hrel
    have hwr2 := hwr.symm
    clear hwr
    subst hwr2
    by_cases hlt : k < n
    · obtain ⟨g, rfl, d0, d1, d2, d3⟩ := HC.out k hlt
      clear HC d1 d2 d3
      by_cases hx : (S.ls.getD k l0).1.1 = id
      · have hR := HY.out k hlt hx HP.out
        have hxe : ((S.ls.getD k l0).1.1 == id) = true := by simpa using hx
        subst hR
        clear hx HY HX HP
        generalize (S.ls.getD k l0).1.1 = z at *
        go_wp2_with fail
        go_ret
        exact ⟨rfl, rfl⟩
      · have hxe : ((S.ls.getD k l0).1.1 == id) = false := by simpa using hx
        have HN : Hid (∀ j, j < k + 1 → (S.ls.getD j l0).1.1 ≠ id) := hide fun j hj => by
          by_cases e : j = k
          · rw [e]; exact hx
          · exact HP.out j (by omega)
        clear hx HY HX HP
        generalize (S.ls.getD k l0).1.1 = z at *
        go_wp2_with fail
        go_roundw
        case rel => exact ⟨k + 1, by omega, by go_num, HN, trivial⟩
        case measure => simp [intOf]; omega
    · have ek : k = n := by omega
      subst ek
      have hR := HX.out HP.out
      subst hR
      go_wp2_with fail
      go_ret
      exact ⟨rfl, rfl⟩
theorem ropen_any {w : World} {q : Nat} {v : Value} {S : LS} (h : DL w q v S) : Calls Try.prog 12 #[.pointer (some ⟨q, 0, none⟩)] w fun e' w' => e' = .returned (.int .i64 (S.now : Int)) ∧ w' = w := by
  have c1 := h.c1
  go_enter Try.func12, Try.ntmps12
  go_wp2_with fail
  go_ret
  exact ⟨rfl, rfl⟩
theorem rsize_any {w : World} {q : Nat} {v : Value} {S : LS} (h : DL w q v S) : Calls Try.prog 14 #[.pointer (some ⟨q, 0, none⟩)] w fun e' w' => e' = .returned (.int .i64 (S.ls.length : Int)) ∧ w' = w := by
  obtain ⟨a, c, rfl, b1, b2, hc⟩ := h.own.form
  have c0 := h.c0
  clear h hc
  go_enter Try.func14, Try.ntmps14
  go_wp2_with fail
  go_ret
  exact ⟨rfl, rfl⟩
set_option maxHeartbeats 1000000 in
theorem rsettled_any {w : World} {q : Nat} {v : Value} {S : LS} (h : DL w q v S) (hl : S.ls.length ≤ 2000) (e : Int) : Calls Try.prog 22 #[.pointer (some ⟨q, 0, none⟩), .int .i64 e] w fun e' w' => e' = .returned (.bool (S.ls.all fun x => decide (e < x.1.2.2))) ∧ w' = w := by
  obtain ⟨a, c, rfl, b1, b2, hc⟩ := h.own.form
  unfold maxLen at b2
  have c0 := h.c0
  have HC := hide hc
  have HY : Hid (∀ k, k < S.ls.length → (S.ls.getD k l0).1.2.2 ≤ e → (S.ls.all fun x => decide (e < x.1.2.2)) = false) := hide fun k hk he => by
    rw [List.all_eq_false]
    refine ⟨S.ls[k], List.getElem_mem hk, ?_⟩
    have : S.ls.getD k l0 = S.ls[k] := by simp [List.getD, hk]
    rw [this] at he
    simp
    omega
  have HX : Hid ((∀ j, j < S.ls.length → e < (S.ls.getD j l0).1.2.2) → (S.ls.all fun x => decide (e < x.1.2.2)) = true) := hide fun hn => by
    rw [List.all_eq_true]
    intro x hx
    obtain ⟨j, hj, rfl⟩ := List.mem_iff_getElem.1 hx
    have := hn j hj
    have e2 : S.ls.getD j l0 = S.ls[j] := by simp [List.getD, hj]
    rw [e2] at this
    simpa using this
  clear h hc
  generalize (S.ls.all fun x => decide (e < x.1.2.2)) = R at *
  generalize S.ls.length = n at *
  go_enter Try.func22, Try.ntmps22
  go_wp2_with fail
  go_loopw [5] (fun y wr => ∃ k : Nat, k ≤ n ∧ y = .int .i64 (k : Int) ∧ Hid (∀ j, j < k → e < (S.ls.getD j l0).1.2.2) ∧ wr = w) (fun y _ => n - (intOf y).toNat)
  case atStart => exact ⟨0, Nat.zero_le _, rfl, hide fun j hj => by omega, rfl⟩
  case round =>
    obtain ⟨k, hk, rfl, HP, hwr⟩ := hrel
    have hwr2 := hwr.symm
    clear hwr
    subst hwr2
    by_cases hlt : k < n
    · obtain ⟨g, rfl, d0, d1, d2, d3⟩ := HC.out k hlt
      clear HC d0 d1 d3
      by_cases hx : (S.ls.getD k l0).1.2.2 ≤ e
      · have hR := HY.out k hlt hx
        subst hR
        clear HY HX HP
        generalize (S.ls.getD k l0).1.2.2 = z at *
        go_wp2_with fail
        go_ret
        exact ⟨rfl, rfl⟩
      · have HN : Hid (∀ j, j < k + 1 → e < (S.ls.getD j l0).1.2.2) := hide fun j hj => by
          by_cases e2 : j = k
          · rw [e2]; omega
          · exact HP.out j (by omega)
        clear HY HX HP
        generalize (S.ls.getD k l0).1.2.2 = z at *
        go_wp2_with fail
        go_roundw
        case rel => exact ⟨k + 1, by omega, by go_num, HN, trivial⟩
        case measure => simp [intOf]; omega
    · have ek : k = n := by omega
      subst ek
      have hR := HX.out HP.out
      subst hR
      go_wp2_with fail
      go_ret
      exact ⟨rfl, rfl⟩
end Go.Proofs.Ytcdmkbjibcahcab
