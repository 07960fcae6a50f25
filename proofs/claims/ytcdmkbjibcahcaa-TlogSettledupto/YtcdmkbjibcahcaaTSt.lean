import Derived.Test.YtcdmkbjibcahcaaTSt1
namespace Go.Proofs.Ytcdmkbjibcahcaa
open Go.RowKit
set_option linter.unusedVariables false
set_option linter.unusedSimpArgs false
set_option maxRecDepth 20000

set_option maxHeartbeats 20000000 in
theorem settled_good (w : World) (lim ep : Nat) (sv : Value) (os : List OpV) (hs : OSl w sv os) (hn : os.length ≤ 1048576) (hok : ∀ s ∈ os, s.ok) (h1 : 1 ≤ lim) (h2 : lim ≤ 1024) (h3 : 1 ≤ ep) (h4 : ep ≤ 64) : Calls Try.prog 4 #[.int .i64 (lim : Int), .int .i64 (ep : Int), sv] w fun e w' => e = .returned (.bool true) ∧ Below w.heap.size w w' := by
  have HG := hide (good_any w (lim : Int) (ep : Int))
  rw [decide_eq_true (by omega)] at HG
  have HM : Hid (∀ x, _) := hide fun x => made_any x lim ep h1 h2 h3 h4
  have HNM : Hid (∀ x z, _) := hide fun x z => num_any x z
  clear h1 h2 h3 h4
  obtain ⟨sa, sc, rfl, s1, s2, s3⟩ := hs
  unfold maxLen at s2
  have HOP : Hid (∀ i, i < os.length → _) := hide fun i (hi : i < os.length) => ops_at s3 hok hi
  clear s3 hok
  generalize os.length = n at *
  go_enter Try.func4, Try.ntmps4
  go_wp2_with (first
    | (go_at_call 9; refine HG.out.mono ?_; rintro e w1 ⟨rfl, h9⟩; have h9s := h9.symm; clear h9; subst h9s)
    | (go_at_call 10; refine (HM.out _).mono ?_; rintro e w2 ⟨p, bm, rfl, a2⟩; have HA2 := hide a2; clear a2))
  go_loopw [9, 10, 11, 12, 13] (fun lv hv sv ov x wr => ∃ (j : Nat) (v : Value) (S : LS) (lf sh : Nat) (sz : List Int), j ≤ n ∧ x = .int .i64 (j : Int) ∧ lv = .int .i64 (lf : Int) ∧ hv = .int .i64 (sh : Int) ∧ ov = .int .i64 (joinN S : Int) ∧ RS w wr p bm v S j sv sz ∧ Sz S lf sh sz ∧ sh ≤ j) (fun _ _ _ _ x _ => n - (intOf x).toNat)
  case atStart => exact ⟨0, _, newS lim ep, 0, 0, [0], Nat.zero_le _, rfl, rfl, rfl, rfl, RS.one HA2.out, Sz.new lim ep, Nat.le_refl _⟩
  case round =>
    clear HA2 HM HG
    obtain ⟨j, v, S, lf, sh, sz, hj, rfl, rfl, rfl, rfl, hR, hsz, hshj⟩ := hrel
    by_cases hlt : j < n
    · obtain ⟨sb, so, s, rfl, hsok, hcell⟩ := HOP.out j hlt
      obtain ⟨⟨c0, c1⟩, c2, c3⟩ := hcell _ hR.al.bel
      have HR3 := hide (hR.below (below_alloc wr (.cells s.row 29)))
      clear hcell HOP
      obtain ⟨k, of, oa, ob⟩ := s
      have hka : i64ok oa := hsok.2.2.1
      have hjN : j ≤ 15000000000000 := by omega
      simp only at c0 c1 c2 c3
      unfold OpV.row at HR3
      simp only at HR3
      obtain ⟨ia, ic, eiv, i1, i2⟩ := hR.lst.form
      subst eiv
      unfold maxLen at i2
      have HSZ := hide hsz
      have hle := hsz.le
      have hjl := joinN_le S
      have hel := hR.al.ok.bd.es
      have HOK := hide hR.al.ok
      clear hR hsok hsz
      by_cases hk0 : k = 0
      · subst hk0
        by_cases hr : refE S oa ob = 0
        · skip
          have hS' := HSZ.out.add oa ob (add_old2 S oa ob)
          have hJ := addS_joinN HOK.out hka hr
          have HJO := hide hJ
          have HAD := hide (HR3.out.al.add0 hjN oa ob hka hr)
          generalize decide (joinN S + 1 = S.ep) = bf at *
          by_cases qs : lf = sh
          · skip
            as_aux_lemma =>
              have HEP : Hid (∀ x v', AL w x p bm v' (addS S oa ob) (j + 1) → Calls Try.prog 16 #[.pointer (some ⟨p, 0, none⟩)] x fun e y => e = .returned (.int .i64 ((sh : Int) - (lf : Int))) ∧ ∃ m, y = x.drewN m) := hide fun x v' h => hS'.eps' h (by omega) _ (by omega)
              have HPN : Hid (∀ x v', AL w x p bm v' (addS S oa ob) (j + 1) → Calls Try.prog 15 #[.pointer (some ⟨p, 0, none⟩)] x fun e y => e = .returned (.int .i64 ((sh : Int) + 1)) ∧ ∃ m, y = x.drewN m) := hide fun x v' h => hS'.opn' h _ (by omega)
              have HS1 : Hid (∀ x v', AL w x p bm v' (addS S oa ob) (j + 1) → Calls Try.prog 19 #[.pointer (some ⟨p, 0, none⟩), .int .i64 ((sh : Int) + 1)] x fun e y => e = .returned (.bool false) ∧ ∃ m, y = x.drewN m) := hide fun x v' h => hS'.askF h _ (by rw [hJ]; omega) (by omega)
              have HS2 : Hid (∀ x v', AL w x p bm v' (addS S oa ob) (j + 1) → Calls Try.prog 19 #[.pointer (some ⟨p, 0, none⟩), .int .i64 ((lf : Int))] x fun e y => e = .returned (.bool true) ∧ ∃ m, y = x.drewN m) := hide fun x v' h => hS'.askT h _ (by rw [hJ]; omega)
              have HS3 : Hid (∀ x v', AL w x p bm v' (addS S oa ob) (j + 1) → Calls Try.prog 19 #[.pointer (some ⟨p, 0, none⟩), .int .i64 (1099511627776)] x fun e y => e = .returned (.bool false) ∧ ∃ m, y = x.drewN m) := hide fun x v' h => hS'.askF h _ (by rw [hJ]; omega) (by omega)
              have fLH : (((lf : Int) : Int) == (sh : Int)) = true := by rw [beq_iff_eq] <;> omega
              have fLt : (((lf : Int) : Int) < (sh : Int)) = False := by simp <;> omega
              have fO : (((joinN S : Int) + 1 : Int) == 0) = false := by rw [beq_eq_false_iff_ne] <;> omega
              have HS' := hide hS'
              clear hS' hJ
              try clear qs
              try clear qo
              
              go_wp2_with (first
                | (go_at_call 11; refine HAD.out.mono ?_; rintro e w4 ⟨v4, rfl, a4, m4⟩; have HRZ := hide (HR3.out.move a4 m4); clear a4 m4 HR3 HAD)
                | (go_at_call 13; refine (HNM.out _ _).mono ?_; rintro e w9 ⟨rfl, h9⟩; have h9s := h9.symm; clear h9; subst h9s)
                | (go_at_call 16; refine (HEP.out _ _ HRZ.out.al).mono ?_; rintro e we ⟨rfl, me, he⟩; subst he)
                | (go_at_call 15; refine (HPN.out _ _ (HRZ.out.below (below_drew0 _ _)).al).mono ?_; rintro e wo ⟨rfl, mo, ho⟩; subst ho)
                | (go_at_call 19; refine (HS1.out _ _ (HRZ.out.below (below_drew0 _ _)).al).mono ?_; rintro e w1 ⟨rfl, m1, h1⟩; subst h1; clear HS1)
                | (go_at_call 19; refine (HS2.out _ _ (HRZ.out.below (below_drew0 _ _)).al).mono ?_; rintro e w2 ⟨rfl, m2, h2⟩; subst h2; clear HS2)
                | (go_at_call 19; refine (HS3.out _ _ (HRZ.out.below (below_drew0 _ _)).al).mono ?_; rintro e w3 ⟨rfl, m3, h3⟩; subst h3; clear HS3))
              go_roundw
              case rel => exact ⟨j + 1, _, (addS S oa ob), lf, sh, _, by omega, by go_num, by go_num, by go_num, by first | (rw [HJO.out]; done) | (rw [HJO.out]; go_num), HRZ.out.below (below_drew0 _ _), HS'.out, by omega⟩
              case measure => simp [intOf]; omega
          · skip
            as_aux_lemma =>
              have HEP : Hid (∀ x v', AL w x p bm v' (addS S oa ob) (j + 1) → Calls Try.prog 16 #[.pointer (some ⟨p, 0, none⟩)] x fun e y => e = .returned (.int .i64 ((sh : Int) - (lf : Int))) ∧ ∃ m, y = x.drewN m) := hide fun x v' h => hS'.eps' h (by omega) _ (by omega)
              have HPN : Hid (∀ x v', AL w x p bm v' (addS S oa ob) (j + 1) → Calls Try.prog 15 #[.pointer (some ⟨p, 0, none⟩)] x fun e y => e = .returned (.int .i64 ((sh : Int) + 1)) ∧ ∃ m, y = x.drewN m) := hide fun x v' h => hS'.opn' h _ (by omega)
              have HS1 : Hid (∀ x v', AL w x p bm v' (addS S oa ob) (j + 1) → Calls Try.prog 19 #[.pointer (some ⟨p, 0, none⟩), .int .i64 ((sh : Int) + 1)] x fun e y => e = .returned (.bool false) ∧ ∃ m, y = x.drewN m) := hide fun x v' h => hS'.askF h _ (by rw [hJ]; omega) (by omega)
              have HS2 : Hid (∀ x v', AL w x p bm v' (addS S oa ob) (j + 1) → Calls Try.prog 19 #[.pointer (some ⟨p, 0, none⟩), .int .i64 ((lf : Int))] x fun e y => e = .returned (.bool true) ∧ ∃ m, y = x.drewN m) := hide fun x v' h => hS'.askT h _ (by rw [hJ]; omega)
              have HS3 : Hid (∀ x v', AL w x p bm v' (addS S oa ob) (j + 1) → Calls Try.prog 19 #[.pointer (some ⟨p, 0, none⟩), .int .i64 ((lf : Int) + 1)] x fun e y => e = .returned (.bool false) ∧ ∃ m, y = x.drewN m) := hide fun x v' h => hS'.askF h _ (by rw [hJ]; omega) (by omega)
              have fLH : (((lf : Int) : Int) == (sh : Int)) = false := by rw [beq_eq_false_iff_ne] <;> omega
              have fLt : (((lf : Int) : Int) < (sh : Int)) = True := by simp <;> omega
              have HS' := hide hS'
              clear hS' hJ
              try clear qs
              try clear qo
              
              go_wp2_with (first
                | (go_at_call 11; refine HAD.out.mono ?_; rintro e w4 ⟨v4, rfl, a4, m4⟩; have HRZ := hide (HR3.out.move a4 m4); clear a4 m4 HR3 HAD)
                | (go_at_call 13; refine (HNM.out _ _).mono ?_; rintro e w9 ⟨rfl, h9⟩; have h9s := h9.symm; clear h9; subst h9s)
                | (go_at_call 16; refine (HEP.out _ _ HRZ.out.al).mono ?_; rintro e we ⟨rfl, me, he⟩; subst he)
                | (go_at_call 15; refine (HPN.out _ _ (HRZ.out.below (below_drew0 _ _)).al).mono ?_; rintro e wo ⟨rfl, mo, ho⟩; subst ho)
                | (go_at_call 19; refine (HS1.out _ _ (HRZ.out.below (below_drew0 _ _)).al).mono ?_; rintro e w1 ⟨rfl, m1, h1⟩; subst h1; clear HS1)
                | (go_at_call 19; refine (HS2.out _ _ (HRZ.out.below (below_drew0 _ _)).al).mono ?_; rintro e w2 ⟨rfl, m2, h2⟩; subst h2; clear HS2)
                | (go_at_call 19; refine (HS3.out _ _ (HRZ.out.below (below_drew0 _ _)).al).mono ?_; rintro e w3 ⟨rfl, m3, h3⟩; subst h3; clear HS3))
              go_roundw
              case rel => exact ⟨j + 1, _, (addS S oa ob), lf, sh, _, by omega, by go_num, by go_num, by go_num, by first | (rw [HJO.out]; done) | (rw [HJO.out]; go_num), HRZ.out.below (below_drew0 _ _), HS'.out, by omega⟩
              case measure => simp [intOf]; omega
        · skip
          have hS' := HSZ.out
          have hJ : joinN S = joinN S := rfl
          have HAD := hide (HR3.out.al.addN oa ob hka hr)
          have hr0 : (refE S oa ob == 0) = false := by simpa using hr
          by_cases qs : lf = sh
          · skip
            by_cases qo : joinN S = 0
            · skip
              as_aux_lemma =>
                have HEP : Hid (∀ x v', AL w x p bm v' S (j + 1) → Calls Try.prog 16 #[.pointer (some ⟨p, 0, none⟩)] x fun e y => e = .returned (.int .i64 ((sh : Int) - (lf : Int))) ∧ ∃ m, y = x.drewN m) := hide fun x v' h => hS'.eps' h (by omega) _ (by omega)
                have HPN : Hid (∀ x v', AL w x p bm v' S (j + 1) → Calls Try.prog 15 #[.pointer (some ⟨p, 0, none⟩)] x fun e y => e = .returned (.int .i64 ((sh : Int) + 1)) ∧ ∃ m, y = x.drewN m) := hide fun x v' h => hS'.opn' h _ (by omega)
                have HS1 : Hid (∀ x v', AL w x p bm v' S (j + 1) → Calls Try.prog 19 #[.pointer (some ⟨p, 0, none⟩), .int .i64 ((sh : Int) + 1)] x fun e y => e = .returned (.bool true) ∧ ∃ m, y = x.drewN m) := hide fun x v' h => hS'.askT h _ (by rw [hJ]; omega)
                have HS2 : Hid (∀ x v', AL w x p bm v' S (j + 1) → Calls Try.prog 19 #[.pointer (some ⟨p, 0, none⟩), .int .i64 ((lf : Int))] x fun e y => e = .returned (.bool true) ∧ ∃ m, y = x.drewN m) := hide fun x v' h => hS'.askT h _ (by rw [hJ]; omega)
                have HS3 : Hid (∀ x v', AL w x p bm v' S (j + 1) → Calls Try.prog 19 #[.pointer (some ⟨p, 0, none⟩), .int .i64 (1099511627776)] x fun e y => e = .returned (.bool true) ∧ ∃ m, y = x.drewN m) := hide fun x v' h => hS'.askT h _ (by rw [hJ]; omega)
                have fLH : (((lf : Int) : Int) == (sh : Int)) = true := by rw [beq_iff_eq] <;> omega
                have fLt : (((lf : Int) : Int) < (sh : Int)) = False := by simp <;> omega
                have fO : (((joinN S : Int) : Int) == 0) = true := by rw [beq_iff_eq] <;> omega
                have HS' := hide hS'
                clear hS' hJ
                try clear qs
                try clear qo
                generalize refE S oa ob = R at *
                go_wp2_with (first
                  | (go_at_call 11; refine HAD.out.mono ?_; rintro e w4 ⟨rfl, a4, m4⟩; have HRZ := hide ((HR3.out.move a4 m4).more (Nat.le_succ j)); clear a4 m4 HR3 HAD)
                  | (go_at_call 13; refine (HNM.out _ _).mono ?_; rintro e w9 ⟨rfl, h9⟩; have h9s := h9.symm; clear h9; subst h9s)
                  | (go_at_call 16; refine (HEP.out _ _ HRZ.out.al).mono ?_; rintro e we ⟨rfl, me, he⟩; subst he)
                  | (go_at_call 15; refine (HPN.out _ _ (HRZ.out.below (below_drew0 _ _)).al).mono ?_; rintro e wo ⟨rfl, mo, ho⟩; subst ho)
                  | (go_at_call 19; refine (HS1.out _ _ (HRZ.out.below (below_drew0 _ _)).al).mono ?_; rintro e w1 ⟨rfl, m1, h1⟩; subst h1; clear HS1)
                  | (go_at_call 19; refine (HS2.out _ _ (HRZ.out.below (below_drew0 _ _)).al).mono ?_; rintro e w2 ⟨rfl, m2, h2⟩; subst h2; clear HS2)
                  | (go_at_call 19; refine (HS3.out _ _ (HRZ.out.below (below_drew0 _ _)).al).mono ?_; rintro e w3 ⟨rfl, m3, h3⟩; subst h3; clear HS3))
                go_roundw
                case rel => exact ⟨j + 1, _, S, lf, sh, _, by omega, by go_num, by go_num, by go_num, rfl, HRZ.out.below (below_drew0 _ _), HS'.out, by omega⟩
                case measure => simp [intOf]; omega
            · skip
              as_aux_lemma =>
                have HEP : Hid (∀ x v', AL w x p bm v' S (j + 1) → Calls Try.prog 16 #[.pointer (some ⟨p, 0, none⟩)] x fun e y => e = .returned (.int .i64 ((sh : Int) - (lf : Int))) ∧ ∃ m, y = x.drewN m) := hide fun x v' h => hS'.eps' h (by omega) _ (by omega)
                have HPN : Hid (∀ x v', AL w x p bm v' S (j + 1) → Calls Try.prog 15 #[.pointer (some ⟨p, 0, none⟩)] x fun e y => e = .returned (.int .i64 ((sh : Int) + 1)) ∧ ∃ m, y = x.drewN m) := hide fun x v' h => hS'.opn' h _ (by omega)
                have HS1 : Hid (∀ x v', AL w x p bm v' S (j + 1) → Calls Try.prog 19 #[.pointer (some ⟨p, 0, none⟩), .int .i64 ((sh : Int) + 1)] x fun e y => e = .returned (.bool false) ∧ ∃ m, y = x.drewN m) := hide fun x v' h => hS'.askF h _ (by rw [hJ]; omega) (by omega)
                have HS2 : Hid (∀ x v', AL w x p bm v' S (j + 1) → Calls Try.prog 19 #[.pointer (some ⟨p, 0, none⟩), .int .i64 ((lf : Int))] x fun e y => e = .returned (.bool true) ∧ ∃ m, y = x.drewN m) := hide fun x v' h => hS'.askT h _ (by rw [hJ]; omega)
                have HS3 : Hid (∀ x v', AL w x p bm v' S (j + 1) → Calls Try.prog 19 #[.pointer (some ⟨p, 0, none⟩), .int .i64 (1099511627776)] x fun e y => e = .returned (.bool false) ∧ ∃ m, y = x.drewN m) := hide fun x v' h => hS'.askF h _ (by rw [hJ]; omega) (by omega)
                have fLH : (((lf : Int) : Int) == (sh : Int)) = true := by rw [beq_iff_eq] <;> omega
                have fLt : (((lf : Int) : Int) < (sh : Int)) = False := by simp <;> omega
                have fO : (((joinN S : Int) : Int) == 0) = false := by rw [beq_eq_false_iff_ne] <;> omega
                have HS' := hide hS'
                clear hS' hJ
                try clear qs
                try clear qo
                generalize refE S oa ob = R at *
                go_wp2_with (first
                  | (go_at_call 11; refine HAD.out.mono ?_; rintro e w4 ⟨rfl, a4, m4⟩; have HRZ := hide ((HR3.out.move a4 m4).more (Nat.le_succ j)); clear a4 m4 HR3 HAD)
                  | (go_at_call 13; refine (HNM.out _ _).mono ?_; rintro e w9 ⟨rfl, h9⟩; have h9s := h9.symm; clear h9; subst h9s)
                  | (go_at_call 16; refine (HEP.out _ _ HRZ.out.al).mono ?_; rintro e we ⟨rfl, me, he⟩; subst he)
                  | (go_at_call 15; refine (HPN.out _ _ (HRZ.out.below (below_drew0 _ _)).al).mono ?_; rintro e wo ⟨rfl, mo, ho⟩; subst ho)
                  | (go_at_call 19; refine (HS1.out _ _ (HRZ.out.below (below_drew0 _ _)).al).mono ?_; rintro e w1 ⟨rfl, m1, h1⟩; subst h1; clear HS1)
                  | (go_at_call 19; refine (HS2.out _ _ (HRZ.out.below (below_drew0 _ _)).al).mono ?_; rintro e w2 ⟨rfl, m2, h2⟩; subst h2; clear HS2)
                  | (go_at_call 19; refine (HS3.out _ _ (HRZ.out.below (below_drew0 _ _)).al).mono ?_; rintro e w3 ⟨rfl, m3, h3⟩; subst h3; clear HS3))
                go_roundw
                case rel => exact ⟨j + 1, _, S, lf, sh, _, by omega, by go_num, by go_num, by go_num, rfl, HRZ.out.below (below_drew0 _ _), HS'.out, by omega⟩
                case measure => simp [intOf]; omega
          · skip
            as_aux_lemma =>
              have HEP : Hid (∀ x v', AL w x p bm v' S (j + 1) → Calls Try.prog 16 #[.pointer (some ⟨p, 0, none⟩)] x fun e y => e = .returned (.int .i64 ((sh : Int) - (lf : Int))) ∧ ∃ m, y = x.drewN m) := hide fun x v' h => hS'.eps' h (by omega) _ (by omega)
              have HPN : Hid (∀ x v', AL w x p bm v' S (j + 1) → Calls Try.prog 15 #[.pointer (some ⟨p, 0, none⟩)] x fun e y => e = .returned (.int .i64 ((sh : Int) + 1)) ∧ ∃ m, y = x.drewN m) := hide fun x v' h => hS'.opn' h _ (by omega)
              have HS1 : Hid (∀ x v', AL w x p bm v' S (j + 1) → Calls Try.prog 19 #[.pointer (some ⟨p, 0, none⟩), .int .i64 ((sh : Int) + 1)] x fun e y => e = .returned (.bool false) ∧ ∃ m, y = x.drewN m) := hide fun x v' h => hS'.askF h _ (by rw [hJ]; omega) (by omega)
              have HS2 : Hid (∀ x v', AL w x p bm v' S (j + 1) → Calls Try.prog 19 #[.pointer (some ⟨p, 0, none⟩), .int .i64 ((lf : Int))] x fun e y => e = .returned (.bool true) ∧ ∃ m, y = x.drewN m) := hide fun x v' h => hS'.askT h _ (by rw [hJ]; omega)
              have HS3 : Hid (∀ x v', AL w x p bm v' S (j + 1) → Calls Try.prog 19 #[.pointer (some ⟨p, 0, none⟩), .int .i64 ((lf : Int) + 1)] x fun e y => e = .returned (.bool false) ∧ ∃ m, y = x.drewN m) := hide fun x v' h => hS'.askF h _ (by rw [hJ]; omega) (by omega)
              have fLH : (((lf : Int) : Int) == (sh : Int)) = false := by rw [beq_eq_false_iff_ne] <;> omega
              have fLt : (((lf : Int) : Int) < (sh : Int)) = True := by simp <;> omega
              have HS' := hide hS'
              clear hS' hJ
              try clear qs
              try clear qo
              generalize refE S oa ob = R at *
              go_wp2_with (first
                | (go_at_call 11; refine HAD.out.mono ?_; rintro e w4 ⟨rfl, a4, m4⟩; have HRZ := hide ((HR3.out.move a4 m4).more (Nat.le_succ j)); clear a4 m4 HR3 HAD)
                | (go_at_call 13; refine (HNM.out _ _).mono ?_; rintro e w9 ⟨rfl, h9⟩; have h9s := h9.symm; clear h9; subst h9s)
                | (go_at_call 16; refine (HEP.out _ _ HRZ.out.al).mono ?_; rintro e we ⟨rfl, me, he⟩; subst he)
                | (go_at_call 15; refine (HPN.out _ _ (HRZ.out.below (below_drew0 _ _)).al).mono ?_; rintro e wo ⟨rfl, mo, ho⟩; subst ho)
                | (go_at_call 19; refine (HS1.out _ _ (HRZ.out.below (below_drew0 _ _)).al).mono ?_; rintro e w1 ⟨rfl, m1, h1⟩; subst h1; clear HS1)
                | (go_at_call 19; refine (HS2.out _ _ (HRZ.out.below (below_drew0 _ _)).al).mono ?_; rintro e w2 ⟨rfl, m2, h2⟩; subst h2; clear HS2)
                | (go_at_call 19; refine (HS3.out _ _ (HRZ.out.below (below_drew0 _ _)).al).mono ?_; rintro e w3 ⟨rfl, m3, h3⟩; subst h3; clear HS3))
              go_roundw
              case rel => exact ⟨j + 1, _, S, lf, sh, _, by omega, by go_num, by go_num, by go_num, rfl, HRZ.out.below (below_drew0 _ _), HS'.out, by omega⟩
              case measure => simp [intOf]; omega
      · have g0 : (k == 0) = false := by simpa using hk0
        by_cases hk1 : k = 1
        · subst hk1
          by_cases hj0 : joinN S = 0
          · skip
            have hS' := HSZ.out
            have hJ : joinN S = joinN S := rfl
            have HJ00 := hide hj0
            have HCL := hide (HR3.out.al.close hjN)
            rw [closeS_nil hj0, decide_eq_false (show ¬ 0 < joinN S by omega), HSZ.out.nw, show (((sh + 1 : Nat)) : Int) = (sh : Int) + 1 by omega] at HCL
            have fop : ((0 : Int) < (joinN S : Int)) = False := by simp; omega
            have fn : (((sh : Int) + 1) != ((sh : Int) + 1)) = false := by simp
            have fk : ((joinN S : Int) != (joinN S : Int)) = false := by simp
            by_cases qs : lf = sh
            · skip
              as_aux_lemma =>
                have HEP : Hid (∀ x v', AL w x p bm v' S (j + 1) → Calls Try.prog 16 #[.pointer (some ⟨p, 0, none⟩)] x fun e y => e = .returned (.int .i64 ((sh : Int) - (lf : Int))) ∧ ∃ m, y = x.drewN m) := hide fun x v' h => hS'.eps' h (by omega) _ (by omega)
                have HPN : Hid (∀ x v', AL w x p bm v' S (j + 1) → Calls Try.prog 15 #[.pointer (some ⟨p, 0, none⟩)] x fun e y => e = .returned (.int .i64 ((sh : Int) + 1)) ∧ ∃ m, y = x.drewN m) := hide fun x v' h => hS'.opn' h _ (by omega)
                have HS1 : Hid (∀ x v', AL w x p bm v' S (j + 1) → Calls Try.prog 19 #[.pointer (some ⟨p, 0, none⟩), .int .i64 ((sh : Int) + 1)] x fun e y => e = .returned (.bool true) ∧ ∃ m, y = x.drewN m) := hide fun x v' h => hS'.askT h _ (by rw [hJ]; omega)
                have HS2 : Hid (∀ x v', AL w x p bm v' S (j + 1) → Calls Try.prog 19 #[.pointer (some ⟨p, 0, none⟩), .int .i64 ((lf : Int))] x fun e y => e = .returned (.bool true) ∧ ∃ m, y = x.drewN m) := hide fun x v' h => hS'.askT h _ (by rw [hJ]; omega)
                have HS3 : Hid (∀ x v', AL w x p bm v' S (j + 1) → Calls Try.prog 19 #[.pointer (some ⟨p, 0, none⟩), .int .i64 (1099511627776)] x fun e y => e = .returned (.bool true) ∧ ∃ m, y = x.drewN m) := hide fun x v' h => hS'.askT h _ (by rw [hJ]; omega)
                have fLH : (((lf : Int) : Int) == (sh : Int)) = true := by rw [beq_iff_eq] <;> omega
                have fLt : (((lf : Int) : Int) < (sh : Int)) = False := by simp <;> omega
                have fO : (((joinN S : Int) : Int) == 0) = true := by rw [beq_iff_eq] <;> omega
                have HS' := hide hS'
                clear hS' hJ
                try clear qs
                try clear qo
                
                go_wp2_with (first
                  | (go_at_call 14; refine HCL.out.mono ?_; rintro e w4 ⟨rfl, a4, m4⟩; have HRZ := hide (HR3.out.move a4 m4); clear a4 m4 HR3 HCL)
                  | (go_at_call 16; refine (HEP.out _ _ HRZ.out.al).mono ?_; rintro e we ⟨rfl, me, he⟩; subst he)
                  | (go_at_call 15; refine (HPN.out _ _ (HRZ.out.below (below_drew0 _ _)).al).mono ?_; rintro e wo ⟨rfl, mo, ho⟩; subst ho)
                  | (go_at_call 19; refine (HS1.out _ _ (HRZ.out.below (below_drew0 _ _)).al).mono ?_; rintro e w1 ⟨rfl, m1, h1⟩; subst h1; clear HS1)
                  | (go_at_call 19; refine (HS2.out _ _ (HRZ.out.below (below_drew0 _ _)).al).mono ?_; rintro e w2 ⟨rfl, m2, h2⟩; subst h2; clear HS2)
                  | (go_at_call 19; refine (HS3.out _ _ (HRZ.out.below (below_drew0 _ _)).al).mono ?_; rintro e w3 ⟨rfl, m3, h3⟩; subst h3; clear HS3))
                go_roundw
                case rel => exact ⟨j + 1, _, S, lf, sh, _, by omega, by go_num, by go_num, by go_num, by rw [HJ00.out]; rfl, HRZ.out.below (below_drew0 _ _), HS'.out, by omega⟩
                case measure => simp [intOf]; omega
            · skip
              as_aux_lemma =>
                have HEP : Hid (∀ x v', AL w x p bm v' S (j + 1) → Calls Try.prog 16 #[.pointer (some ⟨p, 0, none⟩)] x fun e y => e = .returned (.int .i64 ((sh : Int) - (lf : Int))) ∧ ∃ m, y = x.drewN m) := hide fun x v' h => hS'.eps' h (by omega) _ (by omega)
                have HPN : Hid (∀ x v', AL w x p bm v' S (j + 1) → Calls Try.prog 15 #[.pointer (some ⟨p, 0, none⟩)] x fun e y => e = .returned (.int .i64 ((sh : Int) + 1)) ∧ ∃ m, y = x.drewN m) := hide fun x v' h => hS'.opn' h _ (by omega)
                have HS1 : Hid (∀ x v', AL w x p bm v' S (j + 1) → Calls Try.prog 19 #[.pointer (some ⟨p, 0, none⟩), .int .i64 ((sh : Int) + 1)] x fun e y => e = .returned (.bool false) ∧ ∃ m, y = x.drewN m) := hide fun x v' h => hS'.askF h _ (by rw [hJ]; omega) (by omega)
                have HS2 : Hid (∀ x v', AL w x p bm v' S (j + 1) → Calls Try.prog 19 #[.pointer (some ⟨p, 0, none⟩), .int .i64 ((lf : Int))] x fun e y => e = .returned (.bool true) ∧ ∃ m, y = x.drewN m) := hide fun x v' h => hS'.askT h _ (by rw [hJ]; omega)
                have HS3 : Hid (∀ x v', AL w x p bm v' S (j + 1) → Calls Try.prog 19 #[.pointer (some ⟨p, 0, none⟩), .int .i64 ((lf : Int) + 1)] x fun e y => e = .returned (.bool false) ∧ ∃ m, y = x.drewN m) := hide fun x v' h => hS'.askF h _ (by rw [hJ]; omega) (by omega)
                have fLH : (((lf : Int) : Int) == (sh : Int)) = false := by rw [beq_eq_false_iff_ne] <;> omega
                have fLt : (((lf : Int) : Int) < (sh : Int)) = True := by simp <;> omega
                have HS' := hide hS'
                clear hS' hJ
                try clear qs
                try clear qo
                
                go_wp2_with (first
                  | (go_at_call 14; refine HCL.out.mono ?_; rintro e w4 ⟨rfl, a4, m4⟩; have HRZ := hide (HR3.out.move a4 m4); clear a4 m4 HR3 HCL)
                  | (go_at_call 16; refine (HEP.out _ _ HRZ.out.al).mono ?_; rintro e we ⟨rfl, me, he⟩; subst he)
                  | (go_at_call 15; refine (HPN.out _ _ (HRZ.out.below (below_drew0 _ _)).al).mono ?_; rintro e wo ⟨rfl, mo, ho⟩; subst ho)
                  | (go_at_call 19; refine (HS1.out _ _ (HRZ.out.below (below_drew0 _ _)).al).mono ?_; rintro e w1 ⟨rfl, m1, h1⟩; subst h1; clear HS1)
                  | (go_at_call 19; refine (HS2.out _ _ (HRZ.out.below (below_drew0 _ _)).al).mono ?_; rintro e w2 ⟨rfl, m2, h2⟩; subst h2; clear HS2)
                  | (go_at_call 19; refine (HS3.out _ _ (HRZ.out.below (below_drew0 _ _)).al).mono ?_; rintro e w3 ⟨rfl, m3, h3⟩; subst h3; clear HS3))
                go_roundw
                case rel => exact ⟨j + 1, _, S, lf, sh, _, by omega, by go_num, by go_num, by go_num, by rw [HJ00.out]; rfl, HRZ.out.below (below_drew0 _ _), HS'.out, by omega⟩
                case measure => simp [intOf]; omega
          · skip
            have hS' := HSZ.out.close HOK.out hj0
            have hJ := closeS_joinN HOK.out
            have HJO := hide hJ
            have HCL := hide (HR3.out.al.close hjN)
            rw [decide_eq_true (show 0 < joinN S by omega), HSZ.out.nw, show (((sh + 1 : Nat)) : Int) = (sh : Int) + 1 by omega] at HCL
            have fop : ((0 : Int) < (joinN S : Int)) = True := by simp; omega
            have fn : (((sh : Int) + 1) != ((sh : Int) + 1)) = false := by simp
            have fk : ((joinN S : Int) != (joinN S : Int)) = false := by simp
            have HBN : Hid (sz.length + 1 ≤ maxLen ∧ ((sz.length + 1) + (sz.length + 1) / 4 + 192) * 8 ≤ 281474976710656) := hide (by have := HSZ.out.len; unfold maxLen; omega)
            obtain ⟨i0, hi0, hz0, hz1, hz2⟩ := infoI
            as_aux_lemma =>
              have HEP : Hid (∀ x v', AL w x p bm v' (closeS S) (j + 1) → Calls Try.prog 16 #[.pointer (some ⟨p, 0, none⟩)] x fun e y => e = .returned (.int .i64 (((sh : Int) + 1) - (lf : Int))) ∧ ∃ m, y = x.drewN m) := hide fun x v' h => hS'.eps' h (by omega) _ (by omega)
              have HPN : Hid (∀ x v', AL w x p bm v' (closeS S) (j + 1) → Calls Try.prog 15 #[.pointer (some ⟨p, 0, none⟩)] x fun e y => e = .returned (.int .i64 (((sh : Int) + 1) + 1)) ∧ ∃ m, y = x.drewN m) := hide fun x v' h => hS'.opn' h _ (by omega)
              have HS1 : Hid (∀ x v', AL w x p bm v' (closeS S) (j + 1) → Calls Try.prog 19 #[.pointer (some ⟨p, 0, none⟩), .int .i64 (((sh : Int) + 1) + 1)] x fun e y => e = .returned (.bool false) ∧ ∃ m, y = x.drewN m) := hide fun x v' h => hS'.askF h _ (by rw [hJ]; omega) (by omega)
              have HS2 : Hid (∀ x v', AL w x p bm v' (closeS S) (j + 1) → Calls Try.prog 19 #[.pointer (some ⟨p, 0, none⟩), .int .i64 ((lf : Int))] x fun e y => e = .returned (.bool true) ∧ ∃ m, y = x.drewN m) := hide fun x v' h => hS'.askT h _ (by rw [hJ]; omega)
              have HS3 : Hid (∀ x v', AL w x p bm v' (closeS S) (j + 1) → Calls Try.prog 19 #[.pointer (some ⟨p, 0, none⟩), .int .i64 ((lf : Int) + 1)] x fun e y => e = .returned (.bool false) ∧ ∃ m, y = x.drewN m) := hide fun x v' h => hS'.askF h _ (by rw [hJ]; omega) (by omega)
              have fLH : (((lf : Int) : Int) == ((sh : Int) + 1)) = false := by rw [beq_eq_false_iff_ne] <;> omega
              have fLt : (((lf : Int) : Int) < ((sh : Int) + 1)) = True := by simp <;> omega
              have HS' := hide hS'
              clear hS' hJ
              try clear qs
              try clear qo
              
              go_wp2_with (first
                | (go_at_call 14; refine HCL.out.mono ?_; rintro e w4 ⟨rfl, a4, m4⟩; have HR4 := hide (HR3.out.move a4 m4); have HE4 := hide ((HR4.out.below (below_alloc w4 (.cells #[.int .i64 (joinN S : Int)] 3))).lst); clear a4 m4 HR3 HCL)
                | (at_builtin; refine wpList_appendC _ rfl (.tmp 91) (.tmp 93) 44 rfl 3 i0 (.int .i64 0) 1 8 Try.underlying44 hi0 hz0 hz1 hz2 rfl (by decide) _ _ _ rfl HE4.out ⟨w4.heap.size, 0, none⟩ 1 1 [.int .i64 (joinN S : Int)] rfl rfl (by decide) (cells_new _ #[.int .i64 (joinN S : Int)] _ _ rfl) (by simp [Value.oneCell']) HBN.out.1 HBN.out.2 ?_; intro v6 w6 q1 q2; have HRZ := hide (HR4.out.app (l' := sz ++ [(joinN S : Int)]) (below_alloc w4 _) q2 (by unfold IRow; rw [List.length_append, List.map_append]; exact q1)); clear q1 q2 HR4 HE4)
                | (go_at_call 16; refine (HEP.out _ _ HRZ.out.al).mono ?_; rintro e we ⟨rfl, me, he⟩; subst he)
                | (go_at_call 15; refine (HPN.out _ _ (HRZ.out.below (below_drew0 _ _)).al).mono ?_; rintro e wo ⟨rfl, mo, ho⟩; subst ho)
                | (go_at_call 19; refine (HS1.out _ _ (HRZ.out.below (below_drew0 _ _)).al).mono ?_; rintro e w1 ⟨rfl, m1, h1⟩; subst h1; clear HS1)
                | (go_at_call 19; refine (HS2.out _ _ (HRZ.out.below (below_drew0 _ _)).al).mono ?_; rintro e w2 ⟨rfl, m2, h2⟩; subst h2; clear HS2)
                | (go_at_call 19; refine (HS3.out _ _ (HRZ.out.below (below_drew0 _ _)).al).mono ?_; rintro e w3 ⟨rfl, m3, h3⟩; subst h3; clear HS3))
              go_roundw
              case rel => exact ⟨j + 1, _, (closeS S), lf, (sh + 1), _, by omega, by go_num, by go_num, by go_num, by first | (rw [HJO.out]; done) | (rw [HJO.out]; go_num), HRZ.out.below (below_drew0 _ _), HS'.out, by omega⟩
              case measure => simp [intOf]; omega
        · have g1 : (k == 1) = false := by simpa using hk1
          by_cases hk10 : k = 10
          · subst hk10
            by_cases hls : lf < sh
            · skip
              have hS' := HSZ.out.leave HOK.out hls
              have hJ := leave_joinN HOK.out (by rw [HSZ.out.old, HSZ.out.nw]; omega)
              have HJO := hide hJ
              have HBR := hide (HR3.out.al.bar0 hjN _ _ (HSZ.out.bar HOK.out hls))
              obtain ⟨zg, zc, ez, z1, z2, z3⟩ := HR3.out.lst.cell (j := lf + 1) (by rw [HSZ.out.len]; omega)
              simp only [Value.slice.injEq] at ez
              obtain ⟨rfl, -, rfl⟩ := ez
              have hzl := HSZ.out.len
              have hlf : lf + 1 < sz.length := by omega
              clear hzl
              generalize sz.getD (lf + 1) 0 = zv at *
              by_cases qs : (lf + 1) = sh
              · skip
                by_cases qo : joinN S = 0
                · skip
                  as_aux_lemma =>
                    have HEP : Hid (∀ x v', AL w x p bm v' (leaveS S (frontN S)) (j + 1) → Calls Try.prog 16 #[.pointer (some ⟨p, 0, none⟩)] x fun e y => e = .returned (.int .i64 ((sh : Int) - ((lf : Int) + 1))) ∧ ∃ m, y = x.drewN m) := hide fun x v' h => hS'.eps' h (by omega) _ (by omega)
                    have HPN : Hid (∀ x v', AL w x p bm v' (leaveS S (frontN S)) (j + 1) → Calls Try.prog 15 #[.pointer (some ⟨p, 0, none⟩)] x fun e y => e = .returned (.int .i64 ((sh : Int) + 1)) ∧ ∃ m, y = x.drewN m) := hide fun x v' h => hS'.opn' h _ (by omega)
                    have HS1 : Hid (∀ x v', AL w x p bm v' (leaveS S (frontN S)) (j + 1) → Calls Try.prog 19 #[.pointer (some ⟨p, 0, none⟩), .int .i64 ((sh : Int) + 1)] x fun e y => e = .returned (.bool true) ∧ ∃ m, y = x.drewN m) := hide fun x v' h => hS'.askT h _ (by rw [hJ]; omega)
                    have HS2 : Hid (∀ x v', AL w x p bm v' (leaveS S (frontN S)) (j + 1) → Calls Try.prog 19 #[.pointer (some ⟨p, 0, none⟩), .int .i64 (((lf : Int) + 1))] x fun e y => e = .returned (.bool true) ∧ ∃ m, y = x.drewN m) := hide fun x v' h => hS'.askT h _ (by rw [hJ]; omega)
                    have HS3 : Hid (∀ x v', AL w x p bm v' (leaveS S (frontN S)) (j + 1) → Calls Try.prog 19 #[.pointer (some ⟨p, 0, none⟩), .int .i64 (1099511627776)] x fun e y => e = .returned (.bool true) ∧ ∃ m, y = x.drewN m) := hide fun x v' h => hS'.askT h _ (by rw [hJ]; omega)
                    have fLH : ((((lf : Int) + 1) : Int) == (sh : Int)) = true := by rw [beq_iff_eq] <;> omega
                    have fLt : ((((lf : Int) + 1) : Int) < (sh : Int)) = False := by simp <;> omega
                    have fO : (((joinN S : Int) : Int) == 0) = true := by rw [beq_iff_eq] <;> omega
                    have HS' := hide hS'
                    clear hS' hJ
                    try clear qs
                    try clear qo
                    have flt : ((lf : Int) < (sh : Int)) = True := by simp; omega
                    go_wp2_with (first
                      | (go_at_call 17; refine HBR.out.mono ?_; rintro e w4 ⟨lv, v4, rfl, q1, -, a4, m4⟩; obtain ⟨la, lc, el, -, -, -⟩ := q1.form; subst el; have HRZ := hide ((HR3.out.move a4 m4).more (Nat.le_succ j)); clear a4 m4 HR3 HBR q1)
                      | (go_at_call 13; refine (HNM.out _ _).mono ?_; rintro e w9 ⟨rfl, h9⟩; have h9s := h9.symm; clear h9; subst h9s)
                      | (go_at_call 16; refine (HEP.out _ _ HRZ.out.al).mono ?_; rintro e we ⟨rfl, me, he⟩; subst he)
                      | (go_at_call 15; refine (HPN.out _ _ (HRZ.out.below (below_drew0 _ _)).al).mono ?_; rintro e wo ⟨rfl, mo, ho⟩; subst ho)
                      | (go_at_call 19; refine (HS1.out _ _ (HRZ.out.below (below_drew0 _ _)).al).mono ?_; rintro e w1 ⟨rfl, m1, h1⟩; subst h1; clear HS1)
                      | (go_at_call 19; refine (HS2.out _ _ (HRZ.out.below (below_drew0 _ _)).al).mono ?_; rintro e w2 ⟨rfl, m2, h2⟩; subst h2; clear HS2)
                      | (go_at_call 19; refine (HS3.out _ _ (HRZ.out.below (below_drew0 _ _)).al).mono ?_; rintro e w3 ⟨rfl, m3, h3⟩; subst h3; clear HS3))
                    go_roundw
                    case rel => exact ⟨j + 1, _, (leaveS S (frontN S)), (lf + 1), sh, _, by omega, by go_num, by go_num, by go_num, by first | (rw [HJO.out]; done) | (rw [HJO.out]; go_num), HRZ.out.below (below_drew0 _ _), HS'.out, by omega⟩
                    case measure => simp [intOf]; omega
                · skip
                  as_aux_lemma =>
                    have HEP : Hid (∀ x v', AL w x p bm v' (leaveS S (frontN S)) (j + 1) → Calls Try.prog 16 #[.pointer (some ⟨p, 0, none⟩)] x fun e y => e = .returned (.int .i64 ((sh : Int) - ((lf : Int) + 1))) ∧ ∃ m, y = x.drewN m) := hide fun x v' h => hS'.eps' h (by omega) _ (by omega)
                    have HPN : Hid (∀ x v', AL w x p bm v' (leaveS S (frontN S)) (j + 1) → Calls Try.prog 15 #[.pointer (some ⟨p, 0, none⟩)] x fun e y => e = .returned (.int .i64 ((sh : Int) + 1)) ∧ ∃ m, y = x.drewN m) := hide fun x v' h => hS'.opn' h _ (by omega)
                    have HS1 : Hid (∀ x v', AL w x p bm v' (leaveS S (frontN S)) (j + 1) → Calls Try.prog 19 #[.pointer (some ⟨p, 0, none⟩), .int .i64 ((sh : Int) + 1)] x fun e y => e = .returned (.bool false) ∧ ∃ m, y = x.drewN m) := hide fun x v' h => hS'.askF h _ (by rw [hJ]; omega) (by omega)
                    have HS2 : Hid (∀ x v', AL w x p bm v' (leaveS S (frontN S)) (j + 1) → Calls Try.prog 19 #[.pointer (some ⟨p, 0, none⟩), .int .i64 (((lf : Int) + 1))] x fun e y => e = .returned (.bool true) ∧ ∃ m, y = x.drewN m) := hide fun x v' h => hS'.askT h _ (by rw [hJ]; omega)
                    have HS3 : Hid (∀ x v', AL w x p bm v' (leaveS S (frontN S)) (j + 1) → Calls Try.prog 19 #[.pointer (some ⟨p, 0, none⟩), .int .i64 (1099511627776)] x fun e y => e = .returned (.bool false) ∧ ∃ m, y = x.drewN m) := hide fun x v' h => hS'.askF h _ (by rw [hJ]; omega) (by omega)
                    have fLH : ((((lf : Int) + 1) : Int) == (sh : Int)) = true := by rw [beq_iff_eq] <;> omega
                    have fLt : ((((lf : Int) + 1) : Int) < (sh : Int)) = False := by simp <;> omega
                    have fO : (((joinN S : Int) : Int) == 0) = false := by rw [beq_eq_false_iff_ne] <;> omega
                    have HS' := hide hS'
                    clear hS' hJ
                    try clear qs
                    try clear qo
                    have flt : ((lf : Int) < (sh : Int)) = True := by simp; omega
                    go_wp2_with (first
                      | (go_at_call 17; refine HBR.out.mono ?_; rintro e w4 ⟨lv, v4, rfl, q1, -, a4, m4⟩; obtain ⟨la, lc, el, -, -, -⟩ := q1.form; subst el; have HRZ := hide ((HR3.out.move a4 m4).more (Nat.le_succ j)); clear a4 m4 HR3 HBR q1)
                      | (go_at_call 13; refine (HNM.out _ _).mono ?_; rintro e w9 ⟨rfl, h9⟩; have h9s := h9.symm; clear h9; subst h9s)
                      | (go_at_call 16; refine (HEP.out _ _ HRZ.out.al).mono ?_; rintro e we ⟨rfl, me, he⟩; subst he)
                      | (go_at_call 15; refine (HPN.out _ _ (HRZ.out.below (below_drew0 _ _)).al).mono ?_; rintro e wo ⟨rfl, mo, ho⟩; subst ho)
                      | (go_at_call 19; refine (HS1.out _ _ (HRZ.out.below (below_drew0 _ _)).al).mono ?_; rintro e w1 ⟨rfl, m1, h1⟩; subst h1; clear HS1)
                      | (go_at_call 19; refine (HS2.out _ _ (HRZ.out.below (below_drew0 _ _)).al).mono ?_; rintro e w2 ⟨rfl, m2, h2⟩; subst h2; clear HS2)
                      | (go_at_call 19; refine (HS3.out _ _ (HRZ.out.below (below_drew0 _ _)).al).mono ?_; rintro e w3 ⟨rfl, m3, h3⟩; subst h3; clear HS3))
                    go_roundw
                    case rel => exact ⟨j + 1, _, (leaveS S (frontN S)), (lf + 1), sh, _, by omega, by go_num, by go_num, by go_num, by first | (rw [HJO.out]; done) | (rw [HJO.out]; go_num), HRZ.out.below (below_drew0 _ _), HS'.out, by omega⟩
                    case measure => simp [intOf]; omega
              · skip
                as_aux_lemma =>
                  have HEP : Hid (∀ x v', AL w x p bm v' (leaveS S (frontN S)) (j + 1) → Calls Try.prog 16 #[.pointer (some ⟨p, 0, none⟩)] x fun e y => e = .returned (.int .i64 ((sh : Int) - ((lf : Int) + 1))) ∧ ∃ m, y = x.drewN m) := hide fun x v' h => hS'.eps' h (by omega) _ (by omega)
                  have HPN : Hid (∀ x v', AL w x p bm v' (leaveS S (frontN S)) (j + 1) → Calls Try.prog 15 #[.pointer (some ⟨p, 0, none⟩)] x fun e y => e = .returned (.int .i64 ((sh : Int) + 1)) ∧ ∃ m, y = x.drewN m) := hide fun x v' h => hS'.opn' h _ (by omega)
                  have HS1 : Hid (∀ x v', AL w x p bm v' (leaveS S (frontN S)) (j + 1) → Calls Try.prog 19 #[.pointer (some ⟨p, 0, none⟩), .int .i64 ((sh : Int) + 1)] x fun e y => e = .returned (.bool false) ∧ ∃ m, y = x.drewN m) := hide fun x v' h => hS'.askF h _ (by rw [hJ]; omega) (by omega)
                  have HS2 : Hid (∀ x v', AL w x p bm v' (leaveS S (frontN S)) (j + 1) → Calls Try.prog 19 #[.pointer (some ⟨p, 0, none⟩), .int .i64 (((lf : Int) + 1))] x fun e y => e = .returned (.bool true) ∧ ∃ m, y = x.drewN m) := hide fun x v' h => hS'.askT h _ (by rw [hJ]; omega)
                  have HS3 : Hid (∀ x v', AL w x p bm v' (leaveS S (frontN S)) (j + 1) → Calls Try.prog 19 #[.pointer (some ⟨p, 0, none⟩), .int .i64 (((lf : Int) + 1) + 1)] x fun e y => e = .returned (.bool false) ∧ ∃ m, y = x.drewN m) := hide fun x v' h => hS'.askF h _ (by rw [hJ]; omega) (by omega)
                  have fLH : ((((lf : Int) + 1) : Int) == (sh : Int)) = false := by rw [beq_eq_false_iff_ne] <;> omega
                  have fLt : ((((lf : Int) + 1) : Int) < (sh : Int)) = True := by simp <;> omega
                  have HS' := hide hS'
                  clear hS' hJ
                  try clear qs
                  try clear qo
                  have flt : ((lf : Int) < (sh : Int)) = True := by simp; omega
                  go_wp2_with (first
                    | (go_at_call 17; refine HBR.out.mono ?_; rintro e w4 ⟨lv, v4, rfl, q1, -, a4, m4⟩; obtain ⟨la, lc, el, -, -, -⟩ := q1.form; subst el; have HRZ := hide ((HR3.out.move a4 m4).more (Nat.le_succ j)); clear a4 m4 HR3 HBR q1)
                    | (go_at_call 13; refine (HNM.out _ _).mono ?_; rintro e w9 ⟨rfl, h9⟩; have h9s := h9.symm; clear h9; subst h9s)
                    | (go_at_call 16; refine (HEP.out _ _ HRZ.out.al).mono ?_; rintro e we ⟨rfl, me, he⟩; subst he)
                    | (go_at_call 15; refine (HPN.out _ _ (HRZ.out.below (below_drew0 _ _)).al).mono ?_; rintro e wo ⟨rfl, mo, ho⟩; subst ho)
                    | (go_at_call 19; refine (HS1.out _ _ (HRZ.out.below (below_drew0 _ _)).al).mono ?_; rintro e w1 ⟨rfl, m1, h1⟩; subst h1; clear HS1)
                    | (go_at_call 19; refine (HS2.out _ _ (HRZ.out.below (below_drew0 _ _)).al).mono ?_; rintro e w2 ⟨rfl, m2, h2⟩; subst h2; clear HS2)
                    | (go_at_call 19; refine (HS3.out _ _ (HRZ.out.below (below_drew0 _ _)).al).mono ?_; rintro e w3 ⟨rfl, m3, h3⟩; subst h3; clear HS3))
                  go_roundw
                  case rel => exact ⟨j + 1, _, (leaveS S (frontN S)), (lf + 1), sh, _, by omega, by go_num, by go_num, by go_num, by first | (rw [HJO.out]; done) | (rw [HJO.out]; go_num), HRZ.out.below (below_drew0 _ _), HS'.out, by omega⟩
                  case measure => simp [intOf]; omega
            · skip
              have hS' := HSZ.out
              have hJ : joinN S = joinN S := rfl
              have HRZ := hide (HR3.out.more (Nat.le_succ j))
              clear HR3
              by_cases qo : joinN S = 0
              · skip
                as_aux_lemma =>
                  have HEP : Hid (∀ x v', AL w x p bm v' S (j + 1) → Calls Try.prog 16 #[.pointer (some ⟨p, 0, none⟩)] x fun e y => e = .returned (.int .i64 ((sh : Int) - (lf : Int))) ∧ ∃ m, y = x.drewN m) := hide fun x v' h => hS'.eps' h (by omega) _ (by omega)
                  have HPN : Hid (∀ x v', AL w x p bm v' S (j + 1) → Calls Try.prog 15 #[.pointer (some ⟨p, 0, none⟩)] x fun e y => e = .returned (.int .i64 ((sh : Int) + 1)) ∧ ∃ m, y = x.drewN m) := hide fun x v' h => hS'.opn' h _ (by omega)
                  have HS1 : Hid (∀ x v', AL w x p bm v' S (j + 1) → Calls Try.prog 19 #[.pointer (some ⟨p, 0, none⟩), .int .i64 ((sh : Int) + 1)] x fun e y => e = .returned (.bool true) ∧ ∃ m, y = x.drewN m) := hide fun x v' h => hS'.askT h _ (by rw [hJ]; omega)
                  have HS2 : Hid (∀ x v', AL w x p bm v' S (j + 1) → Calls Try.prog 19 #[.pointer (some ⟨p, 0, none⟩), .int .i64 ((lf : Int))] x fun e y => e = .returned (.bool true) ∧ ∃ m, y = x.drewN m) := hide fun x v' h => hS'.askT h _ (by rw [hJ]; omega)
                  have HS3 : Hid (∀ x v', AL w x p bm v' S (j + 1) → Calls Try.prog 19 #[.pointer (some ⟨p, 0, none⟩), .int .i64 (1099511627776)] x fun e y => e = .returned (.bool true) ∧ ∃ m, y = x.drewN m) := hide fun x v' h => hS'.askT h _ (by rw [hJ]; omega)
                  have fLH : (((lf : Int) : Int) == (sh : Int)) = true := by rw [beq_iff_eq] <;> omega
                  have fLt : (((lf : Int) : Int) < (sh : Int)) = False := by simp <;> omega
                  have fO : (((joinN S : Int) : Int) == 0) = true := by rw [beq_iff_eq] <;> omega
                  have HS' := hide hS'
                  clear hS' hJ
                  try clear qs
                  try clear qo
                  
                  go_wp2_with (first
                    | (go_at_call 16; refine (HEP.out _ _ HRZ.out.al).mono ?_; rintro e we ⟨rfl, me, he⟩; subst he)
                    | (go_at_call 15; refine (HPN.out _ _ (HRZ.out.below (below_drew0 _ _)).al).mono ?_; rintro e wo ⟨rfl, mo, ho⟩; subst ho)
                    | (go_at_call 19; refine (HS1.out _ _ (HRZ.out.below (below_drew0 _ _)).al).mono ?_; rintro e w1 ⟨rfl, m1, h1⟩; subst h1; clear HS1)
                    | (go_at_call 19; refine (HS2.out _ _ (HRZ.out.below (below_drew0 _ _)).al).mono ?_; rintro e w2 ⟨rfl, m2, h2⟩; subst h2; clear HS2)
                    | (go_at_call 19; refine (HS3.out _ _ (HRZ.out.below (below_drew0 _ _)).al).mono ?_; rintro e w3 ⟨rfl, m3, h3⟩; subst h3; clear HS3))
                  go_roundw
                  case rel => exact ⟨j + 1, _, S, lf, sh, _, by omega, by go_num, by go_num, by go_num, rfl, HRZ.out.below (below_drew0 _ _), HS'.out, by omega⟩
                  case measure => simp [intOf]; omega
              · skip
                as_aux_lemma =>
                  have HEP : Hid (∀ x v', AL w x p bm v' S (j + 1) → Calls Try.prog 16 #[.pointer (some ⟨p, 0, none⟩)] x fun e y => e = .returned (.int .i64 ((sh : Int) - (lf : Int))) ∧ ∃ m, y = x.drewN m) := hide fun x v' h => hS'.eps' h (by omega) _ (by omega)
                  have HPN : Hid (∀ x v', AL w x p bm v' S (j + 1) → Calls Try.prog 15 #[.pointer (some ⟨p, 0, none⟩)] x fun e y => e = .returned (.int .i64 ((sh : Int) + 1)) ∧ ∃ m, y = x.drewN m) := hide fun x v' h => hS'.opn' h _ (by omega)
                  have HS1 : Hid (∀ x v', AL w x p bm v' S (j + 1) → Calls Try.prog 19 #[.pointer (some ⟨p, 0, none⟩), .int .i64 ((sh : Int) + 1)] x fun e y => e = .returned (.bool false) ∧ ∃ m, y = x.drewN m) := hide fun x v' h => hS'.askF h _ (by rw [hJ]; omega) (by omega)
                  have HS2 : Hid (∀ x v', AL w x p bm v' S (j + 1) → Calls Try.prog 19 #[.pointer (some ⟨p, 0, none⟩), .int .i64 ((lf : Int))] x fun e y => e = .returned (.bool true) ∧ ∃ m, y = x.drewN m) := hide fun x v' h => hS'.askT h _ (by rw [hJ]; omega)
                  have HS3 : Hid (∀ x v', AL w x p bm v' S (j + 1) → Calls Try.prog 19 #[.pointer (some ⟨p, 0, none⟩), .int .i64 (1099511627776)] x fun e y => e = .returned (.bool false) ∧ ∃ m, y = x.drewN m) := hide fun x v' h => hS'.askF h _ (by rw [hJ]; omega) (by omega)
                  have fLH : (((lf : Int) : Int) == (sh : Int)) = true := by rw [beq_iff_eq] <;> omega
                  have fLt : (((lf : Int) : Int) < (sh : Int)) = False := by simp <;> omega
                  have fO : (((joinN S : Int) : Int) == 0) = false := by rw [beq_eq_false_iff_ne] <;> omega
                  have HS' := hide hS'
                  clear hS' hJ
                  try clear qs
                  try clear qo
                  
                  go_wp2_with (first
                    | (go_at_call 16; refine (HEP.out _ _ HRZ.out.al).mono ?_; rintro e we ⟨rfl, me, he⟩; subst he)
                    | (go_at_call 15; refine (HPN.out _ _ (HRZ.out.below (below_drew0 _ _)).al).mono ?_; rintro e wo ⟨rfl, mo, ho⟩; subst ho)
                    | (go_at_call 19; refine (HS1.out _ _ (HRZ.out.below (below_drew0 _ _)).al).mono ?_; rintro e w1 ⟨rfl, m1, h1⟩; subst h1; clear HS1)
                    | (go_at_call 19; refine (HS2.out _ _ (HRZ.out.below (below_drew0 _ _)).al).mono ?_; rintro e w2 ⟨rfl, m2, h2⟩; subst h2; clear HS2)
                    | (go_at_call 19; refine (HS3.out _ _ (HRZ.out.below (below_drew0 _ _)).al).mono ?_; rintro e w3 ⟨rfl, m3, h3⟩; subst h3; clear HS3))
                  go_roundw
                  case rel => exact ⟨j + 1, _, S, lf, sh, _, by omega, by go_num, by go_num, by go_num, rfl, HRZ.out.below (below_drew0 _ _), HS'.out, by omega⟩
                  case measure => simp [intOf]; omega
          · have g10 : (k == 10) = false := by simpa using hk10
            by_cases hk4 : k = 4
            · subst hk4
              have hS' := Sz.fail S
              have hJ : joinN (failS S) = 0 := fail_join
              have HJO := hide hJ
              have HFL := hide (HR3.out.al.fail hjN)
              as_aux_lemma =>
                have HEP : Hid (∀ x v', AL w x p bm v' (failS S) (j + 1) → Calls Try.prog 16 #[.pointer (some ⟨p, 0, none⟩)] x fun e y => e = .returned (.int .i64 (0 - 0)) ∧ ∃ m, y = x.drewN m) := hide fun x v' h => hS'.eps' h (by omega) _ (by omega)
                have HPN : Hid (∀ x v', AL w x p bm v' (failS S) (j + 1) → Calls Try.prog 15 #[.pointer (some ⟨p, 0, none⟩)] x fun e y => e = .returned (.int .i64 (0 + 1)) ∧ ∃ m, y = x.drewN m) := hide fun x v' h => hS'.opn' h _ (by omega)
                have HS1 : Hid (∀ x v', AL w x p bm v' (failS S) (j + 1) → Calls Try.prog 19 #[.pointer (some ⟨p, 0, none⟩), .int .i64 (0 + 1)] x fun e y => e = .returned (.bool true) ∧ ∃ m, y = x.drewN m) := hide fun x v' h => hS'.askT h _ (by rw [hJ]; omega)
                have HS2 : Hid (∀ x v', AL w x p bm v' (failS S) (j + 1) → Calls Try.prog 19 #[.pointer (some ⟨p, 0, none⟩), .int .i64 (0)] x fun e y => e = .returned (.bool true) ∧ ∃ m, y = x.drewN m) := hide fun x v' h => hS'.askT h _ (by rw [hJ]; omega)
                have HS3 : Hid (∀ x v', AL w x p bm v' (failS S) (j + 1) → Calls Try.prog 19 #[.pointer (some ⟨p, 0, none⟩), .int .i64 (1099511627776)] x fun e y => e = .returned (.bool true) ∧ ∃ m, y = x.drewN m) := hide fun x v' h => hS'.askT h _ (by rw [hJ]; omega)
                have fLH : ((0 : Int) == 0) = true := by rw [beq_iff_eq] <;> omega
                have fLt : ((0 : Int) < 0) = False := by simp <;> omega
                have fO : ((0 : Int) == 0) = true := by rw [beq_iff_eq] <;> omega
                have HS' := hide hS'
                clear hS' hJ
                try clear qs
                try clear qo
                
                go_wp2_with (first
                  | (go_at_call 18; refine HFL.out.mono ?_; rintro e w4 ⟨lv, v4, rfl, q1, -, a4, m4⟩; have HRZ := hide (RS.one (a4.more (Nat.le_succ j))); obtain ⟨la, lc, el, -, -, -⟩ := q1.form; subst el; clear a4 m4 HR3 HFL q1)
                  | (go_at_call 16; refine (HEP.out _ _ HRZ.out.al).mono ?_; rintro e we ⟨rfl, me, he⟩; subst he)
                  | (go_at_call 15; refine (HPN.out _ _ (HRZ.out.below (below_drew0 _ _)).al).mono ?_; rintro e wo ⟨rfl, mo, ho⟩; subst ho)
                  | (go_at_call 19; refine (HS1.out _ _ (HRZ.out.below (below_drew0 _ _)).al).mono ?_; rintro e w1 ⟨rfl, m1, h1⟩; subst h1; clear HS1)
                  | (go_at_call 19; refine (HS2.out _ _ (HRZ.out.below (below_drew0 _ _)).al).mono ?_; rintro e w2 ⟨rfl, m2, h2⟩; subst h2; clear HS2)
                  | (go_at_call 19; refine (HS3.out _ _ (HRZ.out.below (below_drew0 _ _)).al).mono ?_; rintro e w3 ⟨rfl, m3, h3⟩; subst h3; clear HS3))
                go_roundw
                case rel => exact ⟨j + 1, _, (failS S), 0, 0, _, by omega, by go_num, by go_num, by go_num, by first | (rw [HJO.out]; done) | (rw [HJO.out]; go_num), HRZ.out.below (below_drew0 _ _), HS'.out, by omega⟩
                case measure => simp [intOf]; omega
            · have g4 : (k == 4) = false := by simpa using hk4
              have hS' := HSZ.out
              have hJ : joinN S = joinN S := rfl
              have HRZ := hide (HR3.out.more (Nat.le_succ j))
              clear HR3
              by_cases qs : lf = sh
              · skip
                by_cases qo : joinN S = 0
                · skip
                  as_aux_lemma =>
                    have HEP : Hid (∀ x v', AL w x p bm v' S (j + 1) → Calls Try.prog 16 #[.pointer (some ⟨p, 0, none⟩)] x fun e y => e = .returned (.int .i64 ((sh : Int) - (lf : Int))) ∧ ∃ m, y = x.drewN m) := hide fun x v' h => hS'.eps' h (by omega) _ (by omega)
                    have HPN : Hid (∀ x v', AL w x p bm v' S (j + 1) → Calls Try.prog 15 #[.pointer (some ⟨p, 0, none⟩)] x fun e y => e = .returned (.int .i64 ((sh : Int) + 1)) ∧ ∃ m, y = x.drewN m) := hide fun x v' h => hS'.opn' h _ (by omega)
                    have HS1 : Hid (∀ x v', AL w x p bm v' S (j + 1) → Calls Try.prog 19 #[.pointer (some ⟨p, 0, none⟩), .int .i64 ((sh : Int) + 1)] x fun e y => e = .returned (.bool true) ∧ ∃ m, y = x.drewN m) := hide fun x v' h => hS'.askT h _ (by rw [hJ]; omega)
                    have HS2 : Hid (∀ x v', AL w x p bm v' S (j + 1) → Calls Try.prog 19 #[.pointer (some ⟨p, 0, none⟩), .int .i64 ((lf : Int))] x fun e y => e = .returned (.bool true) ∧ ∃ m, y = x.drewN m) := hide fun x v' h => hS'.askT h _ (by rw [hJ]; omega)
                    have HS3 : Hid (∀ x v', AL w x p bm v' S (j + 1) → Calls Try.prog 19 #[.pointer (some ⟨p, 0, none⟩), .int .i64 (1099511627776)] x fun e y => e = .returned (.bool true) ∧ ∃ m, y = x.drewN m) := hide fun x v' h => hS'.askT h _ (by rw [hJ]; omega)
                    have fLH : (((lf : Int) : Int) == (sh : Int)) = true := by rw [beq_iff_eq] <;> omega
                    have fLt : (((lf : Int) : Int) < (sh : Int)) = False := by simp <;> omega
                    have fO : (((joinN S : Int) : Int) == 0) = true := by rw [beq_iff_eq] <;> omega
                    have HS' := hide hS'
                    clear hS' hJ
                    try clear qs
                    try clear qo
                    
                    go_wp2_with (first
                      | (go_at_call 16; refine (HEP.out _ _ HRZ.out.al).mono ?_; rintro e we ⟨rfl, me, he⟩; subst he)
                      | (go_at_call 15; refine (HPN.out _ _ (HRZ.out.below (below_drew0 _ _)).al).mono ?_; rintro e wo ⟨rfl, mo, ho⟩; subst ho)
                      | (go_at_call 19; refine (HS1.out _ _ (HRZ.out.below (below_drew0 _ _)).al).mono ?_; rintro e w1 ⟨rfl, m1, h1⟩; subst h1; clear HS1)
                      | (go_at_call 19; refine (HS2.out _ _ (HRZ.out.below (below_drew0 _ _)).al).mono ?_; rintro e w2 ⟨rfl, m2, h2⟩; subst h2; clear HS2)
                      | (go_at_call 19; refine (HS3.out _ _ (HRZ.out.below (below_drew0 _ _)).al).mono ?_; rintro e w3 ⟨rfl, m3, h3⟩; subst h3; clear HS3))
                    go_roundw
                    case rel => exact ⟨j + 1, _, S, lf, sh, _, by omega, by go_num, by go_num, by go_num, rfl, HRZ.out.below (below_drew0 _ _), HS'.out, by omega⟩
                    case measure => simp [intOf]; omega
                · skip
                  as_aux_lemma =>
                    have HEP : Hid (∀ x v', AL w x p bm v' S (j + 1) → Calls Try.prog 16 #[.pointer (some ⟨p, 0, none⟩)] x fun e y => e = .returned (.int .i64 ((sh : Int) - (lf : Int))) ∧ ∃ m, y = x.drewN m) := hide fun x v' h => hS'.eps' h (by omega) _ (by omega)
                    have HPN : Hid (∀ x v', AL w x p bm v' S (j + 1) → Calls Try.prog 15 #[.pointer (some ⟨p, 0, none⟩)] x fun e y => e = .returned (.int .i64 ((sh : Int) + 1)) ∧ ∃ m, y = x.drewN m) := hide fun x v' h => hS'.opn' h _ (by omega)
                    have HS1 : Hid (∀ x v', AL w x p bm v' S (j + 1) → Calls Try.prog 19 #[.pointer (some ⟨p, 0, none⟩), .int .i64 ((sh : Int) + 1)] x fun e y => e = .returned (.bool false) ∧ ∃ m, y = x.drewN m) := hide fun x v' h => hS'.askF h _ (by rw [hJ]; omega) (by omega)
                    have HS2 : Hid (∀ x v', AL w x p bm v' S (j + 1) → Calls Try.prog 19 #[.pointer (some ⟨p, 0, none⟩), .int .i64 ((lf : Int))] x fun e y => e = .returned (.bool true) ∧ ∃ m, y = x.drewN m) := hide fun x v' h => hS'.askT h _ (by rw [hJ]; omega)
                    have HS3 : Hid (∀ x v', AL w x p bm v' S (j + 1) → Calls Try.prog 19 #[.pointer (some ⟨p, 0, none⟩), .int .i64 (1099511627776)] x fun e y => e = .returned (.bool false) ∧ ∃ m, y = x.drewN m) := hide fun x v' h => hS'.askF h _ (by rw [hJ]; omega) (by omega)
                    have fLH : (((lf : Int) : Int) == (sh : Int)) = true := by rw [beq_iff_eq] <;> omega
                    have fLt : (((lf : Int) : Int) < (sh : Int)) = False := by simp <;> omega
                    have fO : (((joinN S : Int) : Int) == 0) = false := by rw [beq_eq_false_iff_ne] <;> omega
                    have HS' := hide hS'
                    clear hS' hJ
                    try clear qs
                    try clear qo
                    
                    go_wp2_with (first
                      | (go_at_call 16; refine (HEP.out _ _ HRZ.out.al).mono ?_; rintro e we ⟨rfl, me, he⟩; subst he)
                      | (go_at_call 15; refine (HPN.out _ _ (HRZ.out.below (below_drew0 _ _)).al).mono ?_; rintro e wo ⟨rfl, mo, ho⟩; subst ho)
                      | (go_at_call 19; refine (HS1.out _ _ (HRZ.out.below (below_drew0 _ _)).al).mono ?_; rintro e w1 ⟨rfl, m1, h1⟩; subst h1; clear HS1)
                      | (go_at_call 19; refine (HS2.out _ _ (HRZ.out.below (below_drew0 _ _)).al).mono ?_; rintro e w2 ⟨rfl, m2, h2⟩; subst h2; clear HS2)
                      | (go_at_call 19; refine (HS3.out _ _ (HRZ.out.below (below_drew0 _ _)).al).mono ?_; rintro e w3 ⟨rfl, m3, h3⟩; subst h3; clear HS3))
                    go_roundw
                    case rel => exact ⟨j + 1, _, S, lf, sh, _, by omega, by go_num, by go_num, by go_num, rfl, HRZ.out.below (below_drew0 _ _), HS'.out, by omega⟩
                    case measure => simp [intOf]; omega
              · skip
                as_aux_lemma =>
                  have HEP : Hid (∀ x v', AL w x p bm v' S (j + 1) → Calls Try.prog 16 #[.pointer (some ⟨p, 0, none⟩)] x fun e y => e = .returned (.int .i64 ((sh : Int) - (lf : Int))) ∧ ∃ m, y = x.drewN m) := hide fun x v' h => hS'.eps' h (by omega) _ (by omega)
                  have HPN : Hid (∀ x v', AL w x p bm v' S (j + 1) → Calls Try.prog 15 #[.pointer (some ⟨p, 0, none⟩)] x fun e y => e = .returned (.int .i64 ((sh : Int) + 1)) ∧ ∃ m, y = x.drewN m) := hide fun x v' h => hS'.opn' h _ (by omega)
                  have HS1 : Hid (∀ x v', AL w x p bm v' S (j + 1) → Calls Try.prog 19 #[.pointer (some ⟨p, 0, none⟩), .int .i64 ((sh : Int) + 1)] x fun e y => e = .returned (.bool false) ∧ ∃ m, y = x.drewN m) := hide fun x v' h => hS'.askF h _ (by rw [hJ]; omega) (by omega)
                  have HS2 : Hid (∀ x v', AL w x p bm v' S (j + 1) → Calls Try.prog 19 #[.pointer (some ⟨p, 0, none⟩), .int .i64 ((lf : Int))] x fun e y => e = .returned (.bool true) ∧ ∃ m, y = x.drewN m) := hide fun x v' h => hS'.askT h _ (by rw [hJ]; omega)
                  have HS3 : Hid (∀ x v', AL w x p bm v' S (j + 1) → Calls Try.prog 19 #[.pointer (some ⟨p, 0, none⟩), .int .i64 ((lf : Int) + 1)] x fun e y => e = .returned (.bool false) ∧ ∃ m, y = x.drewN m) := hide fun x v' h => hS'.askF h _ (by rw [hJ]; omega) (by omega)
                  have fLH : (((lf : Int) : Int) == (sh : Int)) = false := by rw [beq_eq_false_iff_ne] <;> omega
                  have fLt : (((lf : Int) : Int) < (sh : Int)) = True := by simp <;> omega
                  have HS' := hide hS'
                  clear hS' hJ
                  try clear qs
                  try clear qo
                  
                  go_wp2_with (first
                    | (go_at_call 16; refine (HEP.out _ _ HRZ.out.al).mono ?_; rintro e we ⟨rfl, me, he⟩; subst he)
                    | (go_at_call 15; refine (HPN.out _ _ (HRZ.out.below (below_drew0 _ _)).al).mono ?_; rintro e wo ⟨rfl, mo, ho⟩; subst ho)
                    | (go_at_call 19; refine (HS1.out _ _ (HRZ.out.below (below_drew0 _ _)).al).mono ?_; rintro e w1 ⟨rfl, m1, h1⟩; subst h1; clear HS1)
                    | (go_at_call 19; refine (HS2.out _ _ (HRZ.out.below (below_drew0 _ _)).al).mono ?_; rintro e w2 ⟨rfl, m2, h2⟩; subst h2; clear HS2)
                    | (go_at_call 19; refine (HS3.out _ _ (HRZ.out.below (below_drew0 _ _)).al).mono ?_; rintro e w3 ⟨rfl, m3, h3⟩; subst h3; clear HS3))
                  go_roundw
                  case rel => exact ⟨j + 1, _, S, lf, sh, _, by omega, by go_num, by go_num, by go_num, rfl, HRZ.out.below (below_drew0 _ _), HS'.out, by omega⟩
                  case measure => simp [intOf]; omega
    · have ej : j = n := by omega
      subst ej
      have HB := hide hR.al.bel
      obtain ⟨ia, ic, eiv, -, -⟩ := hR.lst.form
      subst eiv
      clear hR HOP hsz
      go_wp2_with fail
      go_ret
      exact ⟨rfl, HB.out⟩
end Go.Proofs.Ytcdmkbjibcahcaa
