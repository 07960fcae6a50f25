import Derived.Test.YtcdmkbjibcahcaaTFl0
namespace Go.Proofs.Ytcdmkbjibcahcaa
open Go.RowKit
set_option linter.unusedVariables false
set_option linter.unusedSimpArgs false
set_option maxRecDepth 20000

set_option maxHeartbeats 20000000 in
theorem full_good (w : World) (lim ep : Nat) (sv : Value) (os : List OpV) (hs : OSl w sv os) (hn : os.length ≤ 4398046511104) (hok : ∀ s ∈ os, s.ok) (h1 : 1 ≤ lim) (h2 : lim ≤ 1024) (h3 : 1 ≤ ep) (h4 : ep ≤ 64) : Calls Try.prog 3 #[.int .i64 (lim : Int), .int .i64 (ep : Int), sv] w fun e w' => e = .returned (.bool true) ∧ Below w.heap.size w w' := by
  have HG := hide (good_any w (lim : Int) (ep : Int))
  rw [decide_eq_true (by omega)] at HG
  have HM : Hid (∀ x, _) := hide fun x => made_any x lim ep h1 h2 h3 h4
  have HNM : Hid (∀ x z, _) := hide fun x z => num_any x z
  clear h1 h3
  obtain ⟨sa, sc, rfl, s1, s2, s3⟩ := hs
  unfold maxLen at s2
  have HOP : Hid (∀ i, i < os.length → _) := hide fun i (hi : i < os.length) => ops_at s3 hok hi
  clear s3 hok
  generalize os.length = n at *
  go_enter Try.func3, Try.ntmps3
  go_wp2_with (first
    | (go_at_call 9; refine HG.out.mono ?_; rintro e w1 ⟨rfl, h9⟩; have h9s := h9.symm; clear h9; subst h9s)
    | (go_at_call 10; refine (HM.out _).mono ?_; rintro e w2 ⟨p, bm, rfl, a2⟩; have HA2 := hide a2; clear a2))
  go_loopw [9, 10, 11] (fun iv op x wr => ∃ (j : Nat) (v : Value) (S : LS), j ≤ n ∧ x = .int .i64 (j : Int) ∧ op = .int .i64 (joinN S : Int) ∧ R2 w wr p bm v S j iv (idl S) ∧ S.lim = lim ∧ S.ep = ep) (fun _ _ x _ => n - (intOf x).toNat)
  case atStart => exact ⟨0, _, newS lim ep, Nat.zero_le _, rfl, rfl, R2.nil HA2.out, rfl, rfl⟩
  case round =>
    clear HA2 HM HG
    obtain ⟨j, v, S, hj, rfl, rfl, hR, hlim, hep⟩ := hrel
    have HLIM := hide hlim
    have HEPP := hide hep
    by_cases hlt : j < n
    · obtain ⟨sb, so, s, rfl, hsok, hcell⟩ := HOP.out j hlt
      obtain ⟨⟨c0, c1⟩, c2, c3⟩ := hcell _ hR.al.bel
      have HR3 := hide (R3.start hR s)
      clear hcell HOP
      obtain ⟨k, of, oa, ob⟩ := s
      have hka : i64ok oa := hsok.2.2.1
      have hjN : j ≤ 15000000000000 := by omega
      simp only at c0 c1 c2 c3
      unfold OpV.row at HR3
      simp only at HR3
      obtain ⟨ia, ic, eiv, i1, i2, i3⟩ := hR.lst.form
      subst eiv
      have hel := hR.al.ok.bd.es
      have hln := hR.al.ok.bd.ln
      have hjn := hR.al.ok.jn
      rw [← joinN_eq hR.al.ok] at hjn
      rw [← LS.es_len] at hln
      rw [hlim] at hln
      rw [hep] at hjn
      unfold maxLen at i2
      clear hR i3 hsok hlim hep
      by_cases hk0 : k = 0
      · subst hk0
        by_cases hr : refE S oa ob = 0
        · skip
          obtain ⟨r1, r2, r3, r4, r5, r6⟩ := refE_zero hr
          have HAD := hide (HR3.out.r2.al.add0 hjN oa ob hka hr)
          have HJA := hide (addS_joinN HR3.out.r2.al.ok hka hr)
          have HHS : Hid (∀ x, ERow x (.slice ia (idl S).length ic) (idl S) → Calls Try.prog 12 #[.slice ia (idl S).length ic, .int .i64 oa] x fun e w' => e = .returned (.bool false) ∧ w' = x) := hide fun x h => by
            have := has_any x _ _ oa h
            rw [hasB_idl, decide_eq_false r4] at this
            exact this
          have HES := hide (idl_add S oa ob)
          have HBN : Hid ((idl S).length + 1 ≤ 4000000000000) := hide (by rw [idl_len]; omega)
          have p1 : (oa < 1) = False := by simp; omega
          have p2 : (ob < 0) = False := by simp; omega
          have p3 : (4095 < ob) = False := by simp; omega
          have p4 : (((idl S).length : Int) == (lim : Int)) = false := by rw [beq_eq_false_iff_ne, idl_len]; rw [HLIM.out] at r5; omega
          have p5 : ((joinN S : Int) == (ep : Int)) = false := by rw [beq_eq_false_iff_ne]; rw [HEPP.out] at r6; omega
          have hjl := joinN_le S
          have hbe : decide (joinN S + 1 = S.ep) = ((joinN S : Int) + 1 == (ep : Int)) := by rw [Bool.eq_iff_iff, HEPP.out]; simp; omega
          rw [hbe] at HAD
          have hbb : (((joinN S : Int) + 1 == (ep : Int)) != ((joinN S : Int) + 1 == (ep : Int))) = false := by simp
          clear r1 r2 r3 r4 r5 r6 hbe hr
          go_wp2_with (first
            | (go_at_call 11; refine HAD.out.mono ?_; rintro e w4 ⟨v4, rfl, a4, m4⟩; have HRZ := hide (HR3.out.move a4 m4); obtain ⟨⟨d0, d1⟩, ⟨d2, d3⟩, -⟩ := HRZ.out.c; simp only at d0 d1 d2 d3; have HE4 := hide (HRZ.out.r2.lst.below (below_alloc w4 (.cells #[.int .i64 oa, .int .i64 0, .int .i64 0] 36))); clear a4 m4 HR3 HAD)
            | (go_at_call 13; refine (HNM.out _ _).mono ?_; rintro e w9 ⟨rfl, h9⟩; have h9s := h9.symm; clear h9; subst h9s)
            | (go_at_call 12; refine (HHS.out _ HRZ.out.r2.lst).mono ?_; rintro e w8 ⟨rfl, h8⟩; have h8s := h8.symm; clear h8; subst h8s)
            | (at_builtin; refine wpList_appendE _ rfl (.tmp 96) (.tmp 100) rfl _ (idl S) rfl HE4.out ⟨w4.heap.size, 0, none⟩ 1 [(oa, 0, 0)] (by simp) rfl (cells_new _ #[.int .i64 oa, .int .i64 0, .int .i64 0] _ _ rfl) HBN.out ?_; intro v6 w6 q1 q2; have HRY := hide (HRZ.out.app (below_alloc w4 _) q2 q1); clear q1 q2 HRZ HE4))
          go_roundw
          case rel => exact ⟨j + 1, _, addS S oa ob, by omega, by go_num, by rw [HJA.out]; go_num, by rw [HES.out]; exact HRY.out.r2, HLIM.out, HEPP.out⟩
          case measure => simp [intOf]; omega
        · have hr0 := hr
          clear hr
          by_cases q1 : oa < 1
          · have hr : refE S oa ob = 1 := if_pos q1
            have HAD := hide (HR3.out.r2.al.addN oa ob hka (by rw [hr]; decide))
            rw [hr] at HAD
            
            clear hr
            go_wp2_with (first
              | (go_at_call 11; refine HAD.out.mono ?_; rintro e w4 ⟨rfl, a4, m4⟩; have HRZ := hide ((HR3.out.move a4 m4).more (Nat.le_succ j)); obtain ⟨⟨d0, d1⟩, ⟨d2, d3⟩, -⟩ := HRZ.out.c; simp only at d0 d1 d2 d3; clear a4 m4 HR3 HAD)
              | (go_at_call 13; refine (HNM.out _ _).mono ?_; rintro e w9 ⟨rfl, h9⟩; have h9s := h9.symm; clear h9; subst h9s)
              | (go_at_call 12; refine (HHS.out _ HRZ.out.r2.lst).mono ?_; rintro e w8 ⟨rfl, h8⟩; have h8s := h8.symm; clear h8; subst h8s))
            go_roundw
            case rel => exact ⟨j + 1, _, S, by omega, by go_num, rfl, HRZ.out.r2, HLIM.out, HEPP.out⟩
            case measure => simp [intOf]; omega
          · by_cases q2 : ob < 0
            · have hr : refE S oa ob = 2 := by unfold refE; rw [if_neg q1, if_pos (.inl q2)]
              have HAD := hide (HR3.out.r2.al.addN oa ob hka (by rw [hr]; decide))
              rw [hr] at HAD
              have p1 : (oa < 1) = False := by simpa using q1
              
              clear hr
              go_wp2_with (first
                | (go_at_call 11; refine HAD.out.mono ?_; rintro e w4 ⟨rfl, a4, m4⟩; have HRZ := hide ((HR3.out.move a4 m4).more (Nat.le_succ j)); obtain ⟨⟨d0, d1⟩, ⟨d2, d3⟩, -⟩ := HRZ.out.c; simp only at d0 d1 d2 d3; clear a4 m4 HR3 HAD)
                | (go_at_call 13; refine (HNM.out _ _).mono ?_; rintro e w9 ⟨rfl, h9⟩; have h9s := h9.symm; clear h9; subst h9s)
                | (go_at_call 12; refine (HHS.out _ HRZ.out.r2.lst).mono ?_; rintro e w8 ⟨rfl, h8⟩; have h8s := h8.symm; clear h8; subst h8s))
              go_roundw
              case rel => exact ⟨j + 1, _, S, by omega, by go_num, rfl, HRZ.out.r2, HLIM.out, HEPP.out⟩
              case measure => simp [intOf]; omega
            · by_cases q2b : 4096 ≤ ob
              · have hr : refE S oa ob = 2 := by unfold refE; rw [if_neg q1, if_pos (.inr q2b)]
                have HAD := hide (HR3.out.r2.al.addN oa ob hka (by rw [hr]; decide))
                rw [hr] at HAD
                have p1 : (oa < 1) = False := by simpa using q1
                have p2 : (ob < 0) = False := by simp; omega
                
                clear hr
                go_wp2_with (first
                  | (go_at_call 11; refine HAD.out.mono ?_; rintro e w4 ⟨rfl, a4, m4⟩; have HRZ := hide ((HR3.out.move a4 m4).more (Nat.le_succ j)); obtain ⟨⟨d0, d1⟩, ⟨d2, d3⟩, -⟩ := HRZ.out.c; simp only at d0 d1 d2 d3; clear a4 m4 HR3 HAD)
                  | (go_at_call 13; refine (HNM.out _ _).mono ?_; rintro e w9 ⟨rfl, h9⟩; have h9s := h9.symm; clear h9; subst h9s)
                  | (go_at_call 12; refine (HHS.out _ HRZ.out.r2.lst).mono ?_; rintro e w8 ⟨rfl, h8⟩; have h8s := h8.symm; clear h8; subst h8s))
                go_roundw
                case rel => exact ⟨j + 1, _, S, by omega, by go_num, rfl, HRZ.out.r2, HLIM.out, HEPP.out⟩
                case measure => simp [intOf]; omega
              · by_cases q3 : oa ∈ ids S.ls
                · have hr : refE S oa ob = 102 := by unfold refE; rw [if_neg q1, if_neg (by omega), if_pos q3]
                  have HAD := hide (HR3.out.r2.al.addN oa ob hka (by rw [hr]; decide))
                  rw [hr] at HAD
                  have p1 : (oa < 1) = False := by simpa using q1
                  have p2 : (ob < 0) = False := by simp; omega
                  have p3 : (4095 < ob) = False := by simp; omega
                  have HHS : Hid (∀ x, ERow x (.slice ia (idl S).length ic) (idl S) → Calls Try.prog 12 #[.slice ia (idl S).length ic, .int .i64 oa] x fun e w' => e = .returned (.bool true) ∧ w' = x) := hide fun x h => by
                    have := has_any x _ _ oa h
                    rw [hasB_idl, decide_eq_true q3] at this
                    exact this
                  
                  clear hr
                  go_wp2_with (first
                    | (go_at_call 11; refine HAD.out.mono ?_; rintro e w4 ⟨rfl, a4, m4⟩; have HRZ := hide ((HR3.out.move a4 m4).more (Nat.le_succ j)); obtain ⟨⟨d0, d1⟩, ⟨d2, d3⟩, -⟩ := HRZ.out.c; simp only at d0 d1 d2 d3; clear a4 m4 HR3 HAD)
                    | (go_at_call 13; refine (HNM.out _ _).mono ?_; rintro e w9 ⟨rfl, h9⟩; have h9s := h9.symm; clear h9; subst h9s)
                    | (go_at_call 12; refine (HHS.out _ HRZ.out.r2.lst).mono ?_; rintro e w8 ⟨rfl, h8⟩; have h8s := h8.symm; clear h8; subst h8s))
                  go_roundw
                  case rel => exact ⟨j + 1, _, S, by omega, by go_num, rfl, HRZ.out.r2, HLIM.out, HEPP.out⟩
                  case measure => simp [intOf]; omega
                · have hr4 : S.lim ≤ S.es.length ∨ S.ep ≤ joinN S → refE S oa ob = 4 := fun q => by unfold refE; rw [if_neg q1, if_neg (by omega), if_neg q3, if_pos q]
                  by_cases q4 : lim ≤ S.es.length
                  · have hr := hr4 (.inl (by rw [HLIM.out]; exact q4))
                    have HAD := hide (HR3.out.r2.al.addN oa ob hka (by rw [hr]; decide))
                    rw [hr] at HAD
                    have p1 : (oa < 1) = False := by simpa using q1
                    have p2 : (ob < 0) = False := by simp; omega
                    have p3 : (4095 < ob) = False := by simp; omega
                    have HHS : Hid (∀ x, ERow x (.slice ia (idl S).length ic) (idl S) → Calls Try.prog 12 #[.slice ia (idl S).length ic, .int .i64 oa] x fun e w' => e = .returned (.bool false) ∧ w' = x) := hide fun x h => by
                      have := has_any x _ _ oa h
                      rw [hasB_idl, decide_eq_false q3] at this
                      exact this
                    have p4 : (((idl S).length : Int) == (lim : Int)) = true := by rw [beq_iff_eq, idl_len]; omega
                    
                    clear hr
                    go_wp2_with (first
                      | (go_at_call 11; refine HAD.out.mono ?_; rintro e w4 ⟨rfl, a4, m4⟩; have HRZ := hide ((HR3.out.move a4 m4).more (Nat.le_succ j)); obtain ⟨⟨d0, d1⟩, ⟨d2, d3⟩, -⟩ := HRZ.out.c; simp only at d0 d1 d2 d3; clear a4 m4 HR3 HAD)
                      | (go_at_call 13; refine (HNM.out _ _).mono ?_; rintro e w9 ⟨rfl, h9⟩; have h9s := h9.symm; clear h9; subst h9s)
                      | (go_at_call 12; refine (HHS.out _ HRZ.out.r2.lst).mono ?_; rintro e w8 ⟨rfl, h8⟩; have h8s := h8.symm; clear h8; subst h8s))
                    go_roundw
                    case rel => exact ⟨j + 1, _, S, by omega, by go_num, rfl, HRZ.out.r2, HLIM.out, HEPP.out⟩
                    case measure => simp [intOf]; omega
                  · have q5 : ep ≤ joinN S := by
                      apply Classical.byContradiction
                      intro q5
                      apply hr0
                      unfold refE
                      rw [if_neg q1, if_neg (by omega), if_neg q3, if_neg]
                      rw [HLIM.out, HEPP.out]
                      omega
                    have hr := hr4 (.inr (by rw [HEPP.out]; exact q5))
                    have HAD := hide (HR3.out.r2.al.addN oa ob hka (by rw [hr]; decide))
                    rw [hr] at HAD
                    have p1 : (oa < 1) = False := by simpa using q1
                    have p2 : (ob < 0) = False := by simp; omega
                    have p3 : (4095 < ob) = False := by simp; omega
                    have HHS : Hid (∀ x, ERow x (.slice ia (idl S).length ic) (idl S) → Calls Try.prog 12 #[.slice ia (idl S).length ic, .int .i64 oa] x fun e w' => e = .returned (.bool false) ∧ w' = x) := hide fun x h => by
                      have := has_any x _ _ oa h
                      rw [hasB_idl, decide_eq_false q3] at this
                      exact this
                    have p4 : (((idl S).length : Int) == (lim : Int)) = false := by rw [beq_eq_false_iff_ne, idl_len]; omega
                    have p5 : ((joinN S : Int) == (ep : Int)) = true := by rw [beq_iff_eq]; omega
                    
                    clear hr
                    go_wp2_with (first
                      | (go_at_call 11; refine HAD.out.mono ?_; rintro e w4 ⟨rfl, a4, m4⟩; have HRZ := hide ((HR3.out.move a4 m4).more (Nat.le_succ j)); obtain ⟨⟨d0, d1⟩, ⟨d2, d3⟩, -⟩ := HRZ.out.c; simp only at d0 d1 d2 d3; clear a4 m4 HR3 HAD)
                      | (go_at_call 13; refine (HNM.out _ _).mono ?_; rintro e w9 ⟨rfl, h9⟩; have h9s := h9.symm; clear h9; subst h9s)
                      | (go_at_call 12; refine (HHS.out _ HRZ.out.r2.lst).mono ?_; rintro e w8 ⟨rfl, h8⟩; have h8s := h8.symm; clear h8; subst h8s))
                    go_roundw
                    case rel => exact ⟨j + 1, _, S, by omega, by go_num, rfl, HRZ.out.r2, HLIM.out, HEPP.out⟩
                    case measure => simp [intOf]; omega
      · have g0 : (k == 0) = false := by simpa using hk0
        by_cases hk1 : k = 1
        · subst hk1
          have HCL := hide (HR3.out.r2.al.close hjN)
          have HCJ := hide (closeS_joinN HR3.out.r2.al.ok)
          have HES := hide (idl_close S)
          have HCLM : Hid ((closeS S).lim = lim ∧ (closeS S).ep = ep) := hide (by rw [← HLIM.out, ← HEPP.out]; unfold closeS; split <;> exact ⟨rfl, rfl⟩)
          have hbe : decide (0 < joinN S) = decide ((0 : Int) < (joinN S : Int)) := by rw [Bool.eq_iff_iff]; simp
          rw [hbe] at HCL
          have hbb : (decide ((0 : Int) < (joinN S : Int)) != decide ((0 : Int) < (joinN S : Int))) = false := by simp
          have hbc : ((joinN S : Int) != (joinN S : Int)) = false := by simp
          clear hbe
          go_wp2_with (first
            | (go_at_call 14; refine HCL.out.mono ?_; rintro e w4 ⟨rfl, a4, m4⟩; have HRZ := hide (HR3.out.move a4 m4); clear a4 m4 HR3 HCL))
          go_roundw
          case rel => exact ⟨j + 1, _, closeS S, by omega, by go_num, by rw [HCJ.out]; rfl, by rw [HES.out]; exact HRZ.out.r2, HCLM.out.1, HCLM.out.2⟩
          case measure => simp [intOf]; omega
        · have g1 : (k == 1) = false := by simpa using hk1
          by_cases hk10 : k = 10
          · subst hk10
            have hob := HR3.out.r2.al.ok.old
            have hnb := HR3.out.r2.al.nw
            go_wp2_with (first
              | (go_at_call 15; refine HR3.out.r2.al.opn.mono ?_; rintro e w4 ⟨rfl, m4, h4⟩; subst h4; have HR4 := hide (HR3.out.below (below_drew0 _ m4)); clear HR3)
              | (go_at_call 16; refine (HR4.out.r2.al.epochs hjN).mono ?_; rintro e w5 ⟨rfl, m5, h5⟩; subst h5; have HR5 := hide ((HR4.out.below (below_drew0 _ m5)).more (Nat.le_succ j)); clear HR4))
            have HST : Hid (R2 w ((wr.alloc (.cells #[.int .i64 10, .int .i64 of, .int .i64 oa, .int .i64 ob] 29)).drewN (m4 + m5)) p bm v S (j + 1) (.slice ia (idl S).length ic) (idl S)) := hide (by rw [← World.drewN_drewN]; exact HR5.out.r2)
            clear HR5 c0 c1 c2 c3 hln hjn
            generalize (S.now : Int) - ((S.now : Int) - oldE S) = A at *
            generalize (wr.alloc (.cells #[.int .i64 10, .int .i64 of, .int .i64 oa, .int .i64 ob] 29)).drewN (m4 + m5) = w6 at *
            go_loopw [9, 21] (fun iv x wr => ∃ (m : Nat) (v' : Value) (S' : LS), 1 ≤ m ∧ m ≤ 65 ∧ x = .int .i64 (m : Int) ∧ joinN S' = joinN S ∧ S'.lim = lim ∧ S'.ep = ep ∧ R2 w wr p bm v' S' (j + 1) iv (idl S')) (fun _ x _ => 65 - (intOf x).toNat)
            case atStart => exact ⟨1, _, S, by omega, by omega, rfl, rfl, HLIM.out, HEPP.out, HST.out⟩
            case round =>
              clear HST i1 i2 hel
              obtain ⟨m, v', S', hm1, hm2, rfl, hj', hl', he', hR'⟩ := hrel
              have HJ' := hide hj'
              have HL' := hide hl'
              have HE' := hide he'
              have hel := hR'.al.ok.bd.es
              rw [← idl_len] at hel
              by_cases hlt2 : m ≤ 64
              · obtain ⟨ia2, ic2, eiv, i1, i2, i3⟩ := hR'.lst.form
                subst eiv
                unfold maxLen at i2
                cases hbar : barB S' A (m : Int) with
                | false =>
                  have HBR := hide (hR'.al.barN (by omega) _ _ hbar)
                  have HR' := hide hR'
                  clear hR' hbar i3 hj' hl' he'
                  go_wp2_with (first
                    | (go_at_call 17; refine HBR.out.mono ?_; rintro e w7 ⟨rfl, a7, m7⟩; have HRZ := hide (HR'.out.move a7 m7); clear a7 m7 HR' HBR)
                    | (go_at_call 13; refine (HNM.out _ _).mono ?_; rintro e w9 ⟨rfl, h9⟩; have h9s := h9.symm; clear h9; subst h9s))
                  go_roundw
                  case rel => exact ⟨m + 1, _, S', by omega, by omega, by go_num, HJ'.out, HL'.out, HE'.out, HRZ.out⟩
                  case measure => simp [intOf]; omega
                | true =>
                  have HBR := hide (hR'.al.bar0 (by omega) _ _ hbar)
                  obtain ⟨hb1, hb2, hb3⟩ := barB_true hbar
                  have hb4 : m = frontN S' := by omega
                  have hfl := frontN_le S'
                  rw [← idl_len] at hfl
                  have HJN := hide (leave_joinN hR'.al.ok hb1)
                  have HES := hide (idl_leave S' (frontN S'))
                  have HTK : Hid ((S'.es.take (frontN S')).length = frontN S') := hide (by rw [List.length_take]; have := frontN_le S'; omega)
                  have hnn : 0 < (idl S').length := by omega
                  obtain ⟨ig, io, rfl, -⟩ := i3 0 hnn
                  have HR' := hide hR'
                  subst hb4
                  clear hR' hbar i3 hj' hl' he' hb2 hb3
                  have HFL := hide hfl
                  by_cases hfc : frontN S' < ic2
                  · skip
                    go_wp2_with (first
                      | (go_at_call 17; refine HBR.out.mono ?_; rintro e w7 ⟨lv, v7, rfl, q1, -, a7, m7⟩; have HR7 := hide (HR'.out.move a7 m7); have HTL := hide (HR7.out.lst.tail (k := frontN S') HFL.out); have HRZ := hide (HR7.out.sub HTL.out (fun g e => e)); obtain ⟨la, lc, el, l1, l2, -⟩ := q1.form; rw [HTK.out] at el l1; subst el; unfold maxLen at l2; clear a7 m7 HR' HBR q1)
                      | (go_at_call 13; refine (HNM.out _ _).mono ?_; rintro e w9 ⟨rfl, h9⟩; have h9s := h9.symm; clear h9; subst h9s))
                    go_roundw
                    case rel => exact ⟨frontN S' + 1, _, leaveS S' (frontN S'), by omega, by omega, by go_num, by rw [HJN.out]; exact HJ'.out, HL'.out, HE'.out, by rw [HES.out]; exact HRZ.out⟩
                    case measure => simp [intOf]; omega
                  · have hh1 : (idl S').length = frontN S' := by omega
                    have hh2 : ic2 = frontN S' := by omega
                    subst hh2
                    have HD0 : Hid ((idl S').drop (frontN S') = []) := hide (List.drop_of_length_le (by omega))
                    rw [hh1]
                    have hh1s := hh1
                    rw [hh1] at hfl hnn hel i1
                    clear hh1 i1 hfc
                    have HLL := hide hh1s
                    clear hh1s
                    go_wp2_with (first
                      | (go_at_call 17; refine HBR.out.mono ?_; rintro e w7 ⟨lv, v7, rfl, q1, -, a7, m7⟩; have HR7 := hide (HR'.out.move a7 m7); have HTL := hide (HR7.out.lst.gone); have HRZ := hide (HR7.out.sub HTL.out (fun g e => e)); obtain ⟨la, lc, el, l1, l2, -⟩ := q1.form; rw [HTK.out] at el l1; subst el; unfold maxLen at l2; clear a7 m7 HR' HBR q1)
                      | (go_at_call 13; refine (HNM.out _ _).mono ?_; rintro e w9 ⟨rfl, h9⟩; have h9s := h9.symm; clear h9; subst h9s))
                    go_roundw
                    case rel => exact ⟨frontN S' + 1, _, leaveS S' (frontN S'), by omega, by omega, by go_num, by rw [HJN.out]; exact HJ'.out, HL'.out, HE'.out, by rw [HES.out, HD0.out]; exact HRZ.out⟩
                    case measure => simp [intOf]; omega
              · have em : m = 65 := by omega
                subst em
                have HR' := hide hR'
                clear hR' hj' hl' he'
                obtain ⟨ia2, ic2, eiv, -, -, -⟩ := HR'.out.lst.form
                subst eiv
                go_wp2_with fail
                go_roundw
                case rel => exact ⟨j + 1, _, S', by omega, by go_num, by rw [HJ'.out], HR'.out, HL'.out, HE'.out⟩
                case measure => simp [intOf]; omega
          · have g10 : (k == 10) = false := by simpa using hk10
            by_cases hk4 : k = 4
            · subst hk4
              have HFL := hide (HR3.out.r2.al.fail hjN)
              have HES := hide (idl_fail S)
              go_wp2_with (first
                | (go_at_call 18; refine HFL.out.mono ?_; rintro e w4 ⟨lv, v4, rfl, q1, -, a4, m4⟩; have HRZ := hide (((HR3.out.move a4 m4).more (Nat.le_succ j)).sub (ERow.nil _) (fun g e => by simp [Value.ownBlock] at e)); clear a4 m4 HR3 HFL q1))
              go_roundw
              case rel => exact ⟨j + 1, _, failS S, by omega, by go_num, by rw [fail_join]; rfl, by rw [HES.out]; exact HRZ.out.r2, HLIM.out, HEPP.out⟩
              case measure => simp [intOf]; omega
            · have g4 : (k == 4) = false := by simpa using hk4
              have HRZ := hide (HR3.out.more (Nat.le_succ j))
              clear HR3
              go_wp2_with fail
              go_roundw
              case rel => exact ⟨j + 1, _, S, by omega, by go_num, rfl, HRZ.out.r2, HLIM.out, HEPP.out⟩
              case measure => simp [intOf]; omega
    · have ej : j = n := by omega
      subst ej
      have HB := hide hR.al.bel
      obtain ⟨ia, ic, eiv, -, -, -⟩ := hR.lst.form
      subst eiv
      clear hR HOP
      go_wp2_with fail
      go_ret
      exact ⟨rfl, HB.out⟩
end Go.Proofs.Ytcdmkbjibcahcaa
