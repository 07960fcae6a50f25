import Derived.Test.YtcdmkbjibcahcaaTR3
namespace Go.Proofs.Ytcdmkbjibcahcaa
open Go.RowKit
set_option linter.unusedVariables false
set_option linter.unusedSimpArgs false
set_option maxRecDepth 20000

theorem add_old (S : LS) (oa ob : Int) : oldE (addS S oa ob) = oldE S := by
  unfold oldE
  rw [addS_es]
  cases S.es with
  | nil => rfl
  | cons a r => simp
theorem bar_nil {S : LS} (h : S.es = []) (a b : Int) : barB S a b = false := by
  cases hb : barB S a b with
  | false => rfl
  | true => exact absurd (old_nil h) (barB_true hb).1
theorem ERow.isNil {x : World} {v : Value} {l : List En} (h : ERow x v l) (e : l = []) : ERow x v [] := e ▸ h
theorem ERow.frontc {w : World} {g off cap : Nat} {l : List En} (h : ERow w (.slice (some ⟨g, off, none⟩) l.length cap) l) {k : Nat} (hk : k ≤ l.length) : ERow w (.slice (some ⟨g, off, none⟩) k cap) (l.take k) := by
  have hc : l.length ≤ cap := by
    obtain ⟨a, c', e, h1, -⟩ := h.form
    simp only [Value.slice.injEq] at e
    omega
  exact h.front hk (by omega) (Nat.le_refl _)
set_option maxHeartbeats 20000000 in
theorem order_good (w : World) (lim ep : Nat) (sv : Value) (os : List OpV) (hs : OSl w sv os) (hn : os.length ≤ 4398046511104) (hok : ∀ s ∈ os, s.ok) (h1 : 1 ≤ lim) (h2 : lim ≤ 1024) (h3 : 1 ≤ ep) (h4 : ep ≤ 64) : Calls Try.prog 5 #[.int .i64 (lim : Int), .int .i64 (ep : Int), sv] w fun e w' => e = .returned (.bool true) ∧ Below w.heap.size w w' := by
  have HG := hide (good_any w (lim : Int) (ep : Int))
  rw [decide_eq_true (by omega)] at HG
  have HM : Hid (∀ x, _) := hide fun x => made_any x lim ep h1 h2 h3 h4
  have HNM : Hid (∀ x z, _) := hide fun x z => num_any x z
  clear h1 h2 h3 h4
  obtain ⟨sa, sc, rfl, s1, s2, s3⟩ := hs
  unfold maxLen at s2
  have HOP : Hid (∀ i, i < os.length → _) := hide fun i (hi : i < os.length) => ops_at s3 hok hi
  clear s3 hok
  generalize os.length = n at *
  go_enter Try.func5, Try.ntmps5
  go_wp2_with (first
    | (go_at_call 9; refine HG.out.mono ?_; rintro e w1 ⟨rfl, h9⟩; have h9s := h9.symm; clear h9; subst h9s)
    | (go_at_call 10; refine (HM.out _).mono ?_; rintro e w2 ⟨p, bm, rfl, a2⟩; have HA2 := hide a2; clear a2))
  go_loopw [9, 10, 11] (fun iv nx x wr => ∃ (j : Nat) (v : Value) (S : LS), j ≤ n ∧ x = .int .i64 (j : Int) ∧ nx = .int .i64 (oldE S) ∧ R2 w wr p bm v S j iv S.es) (fun _ _ x _ => n - (intOf x).toNat)
  case atStart => exact ⟨0, _, newS lim ep, Nat.zero_le _, rfl, rfl, R2.nil HA2.out⟩
  case round =>
    clear HA2 HM HG
    obtain ⟨j, v, S, hj, rfl, rfl, hR⟩ := hrel
    by_cases hlt : j < n
    · obtain ⟨sb, so, s, rfl, hsok, hcell⟩ := HOP.out j hlt
      obtain ⟨⟨c0, c1⟩, c2, c3⟩ := hcell _ hR.al.bel
      have HR3 := hide (R3.start hR s)
      clear hcell HOP
      obtain ⟨k, of, oa, ob⟩ := s
      have hka : i64ok oa := hsok.2.2.1
      have hjN : j ≤ 15000000000000 := by omega
      simp only at c0 c1 c2 c3
      unfold OpV.row at HR3
      simp only at HR3
      obtain ⟨ia, ic, eiv, i1, i2, i3⟩ := hR.lst.form
      subst eiv
      have hel := hR.al.ok.bd.es
      unfold maxLen at i2
      have HIA : Hid (S.es ≠ [] → ∃ ig io, ia = some ⟨ig, io, none⟩) := hide fun h => by
        obtain ⟨g9, o9, e9, -⟩ := i3 0 (List.length_pos_iff.2 h)
        exact ⟨g9, o9, e9⟩
      clear hR i3 hsok
      by_cases hk0 : k = 0
      · subst hk0
        by_cases hr : refE S oa ob = 0
        · skip
          have HAD := hide (HR3.out.r2.al.add0 hjN oa ob hka hr)
          have HON : Hid (oldE (addS S oa ob) = oldE S) := hide (add_old S oa ob)
          have HES := hide (addS_es S oa ob)
          have HLEN : Hid ((addS S oa ob).es.length = S.es.length + 1) := hide (by rw [addS_es]; simp)
          have HBN : Hid (S.es.length + 1 ≤ 4000000000000) := hide (by have := HR3.out.r2.al.ok.bd.es; omega)
          go_wp2_with (first
            | (go_at_call 11; refine HAD.out.mono ?_; rintro e w4 ⟨v4, rfl, a4, m4⟩; have HR4 := hide (HR3.out.move a4 m4); obtain ⟨⟨d0, d1⟩, ⟨d2, d3⟩, -⟩ := HR4.out.c; simp only at d0 d1 d2 d3; have HE4 := hide (HR4.out.r2.lst.below (below_alloc w4 (.cells #[.int .i64 oa, .int .i64 ob, .int .i64 (S.now : Int)] 36))); clear a4 m4 HR3 HAD)
            | (go_at_call 13; refine (HNM.out _ _).mono ?_; rintro e w9 ⟨rfl, h9⟩; have h9s := h9.symm; clear h9; subst h9s)
            | (at_builtin; refine wpList_appendE _ rfl (.tmp 61) (.tmp 68) rfl _ S.es rfl HE4.out ⟨w4.heap.size, 0, none⟩ 1 [(oa, ob, (S.now : Int))] (by simp) rfl (cells_new _ #[.int .i64 oa, .int .i64 ob, .int .i64 (S.now : Int)] _ _ rfl) HBN.out ?_; intro v6 w6 q1 q2; have HRZ := hide (HR4.out.app (below_alloc w4 _) q2 q1); obtain ⟨a7, c7, e7, -, -, -⟩ := q1.form; rw [List.length_append, List.length_singleton] at e7; subst e7; clear q1 q2 HR4 HE4 d0 d1 d2 d3)
            | (go_at_call 23; have hsz := HRZ.out.r2.al.size; rw [HLEN.out] at hsz; refine hsz.mono ?_; clear hsz; rintro e wz ⟨rfl, mz, hz⟩; subst hz))
          go_roundw
          case rel => exact ⟨j + 1, _, addS S oa ob, by omega, by go_num, by rw [HON.out], by rw [HES.out]; exact HRZ.out.r2.below (below_drew0 _ _)⟩
          case measure => simp [intOf]; omega
        · skip
          have HAD := hide (HR3.out.r2.al.addN oa ob hka hr)
          have hr0 : (refE S oa ob == 0) = false := by simpa using hr
          have HLEN : Hid (S.es.length = S.es.length) := hide rfl
          generalize refE S oa ob = R at *
          go_wp2_with (first
            | (go_at_call 11; refine HAD.out.mono ?_; rintro e w4 ⟨rfl, a4, m4⟩; have HRZ := hide ((HR3.out.move a4 m4).more (Nat.le_succ j)); clear a4 m4 HR3 HAD)
            | (go_at_call 13; refine (HNM.out _ _).mono ?_; rintro e w9 ⟨rfl, h9⟩; have h9s := h9.symm; clear h9; subst h9s)
            | (go_at_call 23; have hsz := HRZ.out.r2.al.size; go_loud (refine hsz.mono ?_); clear hsz; rintro e wz ⟨rfl, mz, hz⟩; subst hz))
          go_roundw
          case rel => exact ⟨j + 1, _, S, by omega, by go_num, rfl, HRZ.out.r2.below (below_drew0 _ _)⟩
          case measure => simp [intOf]; omega
      · have g0 : (k == 0) = false := by simpa using hk0
        by_cases hk1 : k = 1
        · subst hk1
          have HCL := hide (HR3.out.r2.al.close hjN)
          have HON := hide (closeS_old HR3.out.r2.al.ok)
          have HES := hide (closeS_es S)
          have HLEN : Hid ((closeS S).es.length = S.es.length) := hide (by rw [closeS_es])
          generalize decide (0 < joinN S) = bj at *
          generalize joinN S = jn at *
          go_wp2_with (first
            | (go_at_call 14; refine HCL.out.mono ?_; rintro e w4 ⟨rfl, a4, m4⟩; have HRZ := hide (HR3.out.move a4 m4); clear a4 m4 HR3 HCL)
            | (go_at_call 23; have hsz := HRZ.out.r2.al.size; rw [HLEN.out] at hsz; refine hsz.mono ?_; clear hsz; rintro e wz ⟨rfl, mz, hz⟩; subst hz))
          go_roundw
          case rel => exact ⟨j + 1, _, closeS S, by omega, by go_num, by rw [HON.out], by rw [HES.out]; exact HRZ.out.r2.below (below_drew0 _ _)⟩
          case measure => simp [intOf]; omega
        · have g1 : (k == 1) = false := by simpa using hk1
          by_cases hk2 : k = 2
          · subst hk2
            have HAK := hide (HR3.out.r2.al.ack hjN oa hka)
            unfold enV at HAK
            go_wp2_with (first
              | (go_at_call 20; refine HAK.out.mono ?_; rintro e w4 ⟨S', z, r, hA, rfl, a4, m4⟩; have HRZ := hide ((HR3.out.move a4 m4).more (Nat.le_succ j)); have HA := hide hA; have HLEN : Hid (S'.es.length = S.es.length) := hide (by rw [hA.es.1]); clear a4 m4 HR3 HAK hA)
              | (go_at_call 23; have hsz := HRZ.out.r2.al.size; rw [HLEN.out] at hsz; refine hsz.mono ?_; clear hsz; rintro e wz ⟨rfl, mz, hz⟩; subst hz))
            go_roundw
            case rel => exact ⟨j + 1, _, S', by omega, by go_num, by rw [show oldE S' = oldE S by unfold oldE; rw [HA.out.es.1, HA.out.es.2.1]], by rw [HA.out.es.1]; exact HRZ.out.r2.below (below_drew0 _ _)⟩
            case measure => simp [intOf]; omega
          · have g2 : (k == 2) = false := by simpa using hk2
            by_cases hk4 : k = 4
            · subst hk4
              have HFL := hide (HR3.out.r2.al.fail hjN)
              have HES := hide (failS_es S)
              have HLEN : Hid ((failS S).es.length = 0) := hide (by rw [failS_es]; rfl)
              go_wp2_with (first
                | (go_at_call 18; refine HFL.out.mono ?_; rintro e w4 ⟨lv, v4, rfl, q1, -, a4, m4⟩; have HR4 := hide ((HR3.out.move a4 m4).more (Nat.le_succ j)); have HSE := hide (sameEntries_any w4 _ _ _ _ q1 HR4.out.r2.lst); rw [decide_eq_true rfl] at HSE; obtain ⟨la, lc, el, -, -, -⟩ := q1.form; subst el; clear a4 m4 HR3 HFL q1)
                | (go_at_call 22; refine HSE.out.mono ?_; rintro e w5 ⟨rfl, q5⟩; have HRZ := hide ((HR4.out.below q5).sub (ERow.nil _) (fun g e => by simp [Value.ownBlock] at e)); clear q5 HSE HR4)
                | (go_at_call 23; have hsz := HRZ.out.r2.al.size; rw [HLEN.out] at hsz; refine hsz.mono ?_; clear hsz; rintro e wz ⟨rfl, mz, hz⟩; subst hz))
              go_roundw
              case rel => exact ⟨j + 1, _, failS S, by omega, by go_num, by rw [old_nil HES.out]; rfl, by rw [HES.out]; exact HRZ.out.r2.below (below_drew0 _ _)⟩
              case measure => simp [intOf]; omega
            · have g4 : (k == 4) = false := by simpa using hk4
              by_cases hk3 : k = 3
              · skip
                subst hk3
                by_cases hnil : S.es = []
                · have HOL := hide (lOldest_nil _ _ (HR3.out.r2.lst.isNil hnil))
                  have HBAR : Hid (barB S oa ob = false) := hide (bar_nil hnil _ _)
                  clear hnil
                  go_wp2_with (first
                    | (go_at_call 21; refine HOL.out.mono ?_; rintro e w4 ⟨rfl, m4, h4⟩; subst h4; have HR4 := hide (HR3.out.below (below_drew0 _ m4)); obtain ⟨⟨d0, d1⟩, ⟨d2, d3⟩, f2, f3⟩ := HR4.out.c; simp only at d0 d1 d2 d3; clear HOL HR3)
                    | (go_at_call 17; have HR5 := HR4; refine (HR5.out.r2.al.barN hjN _ _ HBAR.out).mono ?_; rintro e w5 ⟨rfl, a5, m5⟩; have HRZ := hide ((HR5.out.move a5 m5).more (Nat.le_succ j)); clear a5 m5 HR5)
                    | (go_at_call 13; refine (HNM.out _ _).mono ?_; rintro e w9 ⟨rfl, h9⟩; have h9s := h9.symm; clear h9; subst h9s))
                  go_roundw
                  case rel => exact ⟨j + 1, _, S, by omega, by go_num, rfl, HRZ.out.r2⟩
                  case measure => simp [intOf]; omega
                · have HOL := hide (lOldest_any _ _ _ HR3.out.r2.lst hnil)
                  rw [show cntE S.es (S.es.getD 0 e0).2.2 = frontN S by rw [front_count HR3.out.r2.al.ok hnil, old_cons hnil]; rfl, ← old_cons hnil] at HOL
                  cases hbar : barB S oa ob with
                  | false =>
                    have HBAR := hide hbar
                    clear hbar
                    go_wp2_with (first
                      | (go_at_call 21; refine HOL.out.mono ?_; rintro e w4 ⟨rfl, m4, h4⟩; subst h4; have HR4 := hide (HR3.out.below (below_drew0 _ m4)); obtain ⟨⟨d0, d1⟩, ⟨d2, d3⟩, f2, f3⟩ := HR4.out.c; simp only at d0 d1 d2 d3; clear HOL HR3)
                      | (go_at_call 17; have HR5 := HR4; refine (HR5.out.r2.al.barN hjN _ _ HBAR.out).mono ?_; rintro e w5 ⟨rfl, a5, m5⟩; have HRZ := hide ((HR5.out.move a5 m5).more (Nat.le_succ j)); clear a5 m5 HR5)
                      | (go_at_call 13; refine (HNM.out _ _).mono ?_; rintro e w9 ⟨rfl, h9⟩; have h9s := h9.symm; clear h9; subst h9s))
                    go_roundw
                    case rel => exact ⟨j + 1, _, S, by omega, by go_num, rfl, HRZ.out.r2⟩
                    case measure => simp [intOf]; omega
                  | true =>
                    have HBAR := hide hbar
                    obtain ⟨hb1, hb2, hb3⟩ := barB_true hbar
                    subst hb2
                    subst hb3
                    have HON := hide (leave_old HR3.out.r2.al.ok hb1)
                    have HES := hide (leaveS_es S (frontN S))
                    have hfl := frontN_le S
                    have HFL := hide hfl
                    have HTK : Hid ((S.es.take (frontN S)).length = frontN S) := hide (by rw [List.length_take]; omega)
                    have HLEN : Hid ((leaveS S (frontN S)).es.length = S.es.length - frontN S) := hide (by rw [leaveS_es, List.length_drop])
                    have hob := HR3.out.r2.al.ok.old
                    have hnb := HR3.out.r2.al.nw
                    obtain ⟨ig, io, rfl⟩ := HIA.out hnil
                    clear hbar hnil
                    by_cases hfc : frontN S < ic
                    · skip
                      have HFCn := hide hfc
                      go_wp2_with (first
                        | (go_at_call 21; refine HOL.out.mono ?_; rintro e w4 ⟨rfl, m4, h4⟩; subst h4; have HR4 := hide (HR3.out.below (below_drew0 _ m4)); obtain ⟨⟨d0, d1⟩, ⟨d2, d3⟩, f2, f3⟩ := HR4.out.c; simp only at d0 d1 d2 d3; clear HOL HR3)
                        | (go_at_call 17; have HR5 := HR4; refine (HR5.out.r2.al.bar0 hjN _ _ HBAR.out).mono ?_; rintro e w5 ⟨lv, v5, rfl, q1, q2, a5, m5⟩; have HR6 := hide ((HR5.out.move a5 m5).more (Nat.le_succ j)); have HSE := hide (sameEntries_any w5 _ _ _ _ q1 (HR6.out.r2.lst.frontc (k := frontN S) HFL.out)); rw [decide_eq_true rfl] at HSE; obtain ⟨la, lc, el, l1, l2, -⟩ := q1.form; rw [HTK.out] at el l1; subst el; obtain ⟨⟨t0, t1⟩, ⟨t2, t3⟩, -⟩ := HR6.out.c; simp only at t0 t1 t2 t3; unfold maxLen at l2; clear a5 m5 HR5 q1 q2)
                        | (go_at_call 22; refine HSE.out.mono ?_; rintro e w6 ⟨rfl, q6⟩; have HR7 := hide (HR6.out.below q6); have HTL := hide (HR7.out.r2.lst.tail (k := frontN S) HFL.out); have HRZ := hide (HR7.out.sub HTL.out (fun g e => e)); clear q6 HSE HR6)
                        | (go_at_call 13; refine (HNM.out _ _).mono ?_; rintro e w9 ⟨rfl, h9⟩; have h9s := h9.symm; clear h9; subst h9s)
                        | (go_at_call 23; have hsz := HRZ.out.r2.al.size; rw [HLEN.out] at hsz; refine hsz.mono ?_; clear hsz; rintro e wz ⟨rfl, mz, hz⟩; subst hz))
                      go_roundw
                      case rel => exact ⟨j + 1, _, leaveS S (frontN S), by omega, by go_num, by rw [HON.out], by rw [HES.out]; exact HRZ.out.r2.below (below_drew0 _ _)⟩
                      case measure => simp [intOf]; omega
                    · have hh1 : S.es.length = frontN S := by omega
                      have hh2 : ic = frontN S := by omega
                      subst hh2
                      have HES : Hid ((leaveS S (frontN S)).es = []) := hide (by rw [leaveS_es, List.drop_of_length_le (by omega)])
                      have HLEN : Hid ((leaveS S (frontN S)).es.length = 0) := hide (by rw [HES.out]; rfl)
                      rw [hh1] at HOL ⊢
                      clear hh1 i1 hel hfc
                      have hfc : True := trivial
                      have HFCn := hide hfc
                      go_wp2_with (first
                        | (go_at_call 21; refine HOL.out.mono ?_; rintro e w4 ⟨rfl, m4, h4⟩; subst h4; have HR4 := hide (HR3.out.below (below_drew0 _ m4)); obtain ⟨⟨d0, d1⟩, ⟨d2, d3⟩, f2, f3⟩ := HR4.out.c; simp only at d0 d1 d2 d3; clear HOL HR3)
                        | (go_at_call 17; have HR5 := HR4; refine (HR5.out.r2.al.bar0 hjN _ _ HBAR.out).mono ?_; rintro e w5 ⟨lv, v5, rfl, q1, q2, a5, m5⟩; have HR6 := hide ((HR5.out.move a5 m5).more (Nat.le_succ j)); have HSE := hide (sameEntries_any w5 _ _ _ _ q1 (HR6.out.r2.lst.frontc (k := frontN S) HFL.out)); rw [decide_eq_true rfl] at HSE; obtain ⟨la, lc, el, l1, l2, -⟩ := q1.form; rw [HTK.out] at el l1; subst el; obtain ⟨⟨t0, t1⟩, ⟨t2, t3⟩, -⟩ := HR6.out.c; simp only at t0 t1 t2 t3; unfold maxLen at l2; clear a5 m5 HR5 q1 q2)
                        | (go_at_call 22; refine HSE.out.mono ?_; rintro e w6 ⟨rfl, q6⟩; have HR7 := hide (HR6.out.below q6); have HTL := hide (HR7.out.r2.lst.gone); have HRZ := hide (HR7.out.sub HTL.out (fun g e => e)); clear q6 HSE HR6)
                        | (go_at_call 13; refine (HNM.out _ _).mono ?_; rintro e w9 ⟨rfl, h9⟩; have h9s := h9.symm; clear h9; subst h9s)
                        | (go_at_call 23; have hsz := HRZ.out.r2.al.size; rw [HLEN.out] at hsz; refine hsz.mono ?_; clear hsz; rintro e wz ⟨rfl, mz, hz⟩; subst hz))
                      go_roundw
                      case rel => exact ⟨j + 1, _, leaveS S (frontN S), by omega, by go_num, by rw [HON.out], by rw [HES.out]; exact HRZ.out.r2.below (below_drew0 _ _)⟩
                      case measure => simp [intOf]; omega
              · have g3 : (k == 3) = false := by simpa using hk3
                by_cases hk10 : k = 10
                · skip
                  subst hk10
                  by_cases hnil : S.es = []
                  · have HOL := hide (lOldest_nil _ _ (HR3.out.r2.lst.isNil hnil))
                    have HBAR : Hid (barB S 0 0 = false) := hide (bar_nil hnil _ _)
                    clear hnil
                    go_wp2_with (first
                      | (go_at_call 21; refine HOL.out.mono ?_; rintro e w4 ⟨rfl, m4, h4⟩; subst h4; have HR4 := hide (HR3.out.below (below_drew0 _ m4)); obtain ⟨⟨d0, d1⟩, ⟨d2, d3⟩, f2, f3⟩ := HR4.out.c; simp only at d0 d1 d2 d3; clear HOL HR3)
                      | (go_at_call 17; have HR5 := hide ((HR4.out.set 2 (.int .i64 0) ⟨10, of, 0, ob⟩ rfl).set 3 (.int .i64 0) ⟨10, of, 0, 0⟩ rfl); refine (HR5.out.r2.al.barN hjN _ _ HBAR.out).mono ?_; rintro e w5 ⟨rfl, a5, m5⟩; have HRZ := hide ((HR5.out.move a5 m5).more (Nat.le_succ j)); clear a5 m5 HR5)
                      | (go_at_call 13; refine (HNM.out _ _).mono ?_; rintro e w9 ⟨rfl, h9⟩; have h9s := h9.symm; clear h9; subst h9s))
                    go_roundw
                    case rel => exact ⟨j + 1, _, S, by omega, by go_num, rfl, HRZ.out.r2⟩
                    case measure => simp [intOf]; omega
                  · have HOL := hide (lOldest_any _ _ _ HR3.out.r2.lst hnil)
                    rw [show cntE S.es (S.es.getD 0 e0).2.2 = frontN S by rw [front_count HR3.out.r2.al.ok hnil, old_cons hnil]; rfl, ← old_cons hnil] at HOL
                    cases hbar : barB S (oldE S) (frontN S : Int) with
                    | false =>
                      have HBAR := hide hbar
                      clear hbar
                      go_wp2_with (first
                        | (go_at_call 21; refine HOL.out.mono ?_; rintro e w4 ⟨rfl, m4, h4⟩; subst h4; have HR4 := hide (HR3.out.below (below_drew0 _ m4)); obtain ⟨⟨d0, d1⟩, ⟨d2, d3⟩, f2, f3⟩ := HR4.out.c; simp only at d0 d1 d2 d3; clear HOL HR3)
                        | (go_at_call 17; have HR5 := hide ((HR4.out.set 2 (.int .i64 (oldE S)) ⟨10, of, (oldE S), ob⟩ rfl).set 3 (.int .i64 (frontN S : Int)) ⟨10, of, (oldE S), (frontN S : Int)⟩ rfl); refine (HR5.out.r2.al.barN hjN _ _ HBAR.out).mono ?_; rintro e w5 ⟨rfl, a5, m5⟩; have HRZ := hide ((HR5.out.move a5 m5).more (Nat.le_succ j)); clear a5 m5 HR5)
                        | (go_at_call 13; refine (HNM.out _ _).mono ?_; rintro e w9 ⟨rfl, h9⟩; have h9s := h9.symm; clear h9; subst h9s))
                      go_roundw
                      case rel => exact ⟨j + 1, _, S, by omega, by go_num, rfl, HRZ.out.r2⟩
                      case measure => simp [intOf]; omega
                    | true =>
                      have HBAR := hide hbar
                      obtain ⟨hb1, hb2, hb3⟩ := barB_true hbar
                      have HON := hide (leave_old HR3.out.r2.al.ok hb1)
                      have HES := hide (leaveS_es S (frontN S))
                      have hfl := frontN_le S
                      have HFL := hide hfl
                      have HTK : Hid ((S.es.take (frontN S)).length = frontN S) := hide (by rw [List.length_take]; omega)
                      have HLEN : Hid ((leaveS S (frontN S)).es.length = S.es.length - frontN S) := hide (by rw [leaveS_es, List.length_drop])
                      have hob := HR3.out.r2.al.ok.old
                      have hnb := HR3.out.r2.al.nw
                      obtain ⟨ig, io, rfl⟩ := HIA.out hnil
                      clear hbar hnil
                      by_cases hfc : frontN S < ic
                      · skip
                        have HFCn := hide hfc
                        go_wp2_with (first
                          | (go_at_call 21; refine HOL.out.mono ?_; rintro e w4 ⟨rfl, m4, h4⟩; subst h4; have HR4 := hide (HR3.out.below (below_drew0 _ m4)); obtain ⟨⟨d0, d1⟩, ⟨d2, d3⟩, f2, f3⟩ := HR4.out.c; simp only at d0 d1 d2 d3; clear HOL HR3)
                          | (go_at_call 17; have HR5 := hide ((HR4.out.set 2 (.int .i64 (oldE S)) ⟨10, of, (oldE S), ob⟩ rfl).set 3 (.int .i64 (frontN S : Int)) ⟨10, of, (oldE S), (frontN S : Int)⟩ rfl); refine (HR5.out.r2.al.bar0 hjN _ _ HBAR.out).mono ?_; rintro e w5 ⟨lv, v5, rfl, q1, q2, a5, m5⟩; have HR6 := hide ((HR5.out.move a5 m5).more (Nat.le_succ j)); have HSE := hide (sameEntries_any w5 _ _ _ _ q1 (HR6.out.r2.lst.frontc (k := frontN S) HFL.out)); rw [decide_eq_true rfl] at HSE; obtain ⟨la, lc, el, l1, l2, -⟩ := q1.form; rw [HTK.out] at el l1; subst el; obtain ⟨⟨t0, t1⟩, ⟨t2, t3⟩, -⟩ := HR6.out.c; simp only at t0 t1 t2 t3; unfold maxLen at l2; clear a5 m5 HR5 q1 q2)
                          | (go_at_call 22; refine HSE.out.mono ?_; rintro e w6 ⟨rfl, q6⟩; have HR7 := hide (HR6.out.below q6); have HTL := hide (HR7.out.r2.lst.tail (k := frontN S) HFL.out); have HRZ := hide (HR7.out.sub HTL.out (fun g e => e)); clear q6 HSE HR6)
                          | (go_at_call 13; refine (HNM.out _ _).mono ?_; rintro e w9 ⟨rfl, h9⟩; have h9s := h9.symm; clear h9; subst h9s)
                          | (go_at_call 23; have hsz := HRZ.out.r2.al.size; rw [HLEN.out] at hsz; refine hsz.mono ?_; clear hsz; rintro e wz ⟨rfl, mz, hz⟩; subst hz))
                        go_roundw
                        case rel => exact ⟨j + 1, _, leaveS S (frontN S), by omega, by go_num, by rw [HON.out], by rw [HES.out]; exact HRZ.out.r2.below (below_drew0 _ _)⟩
                        case measure => simp [intOf]; omega
                      · have hh1 : S.es.length = frontN S := by omega
                        have hh2 : ic = frontN S := by omega
                        subst hh2
                        have HES : Hid ((leaveS S (frontN S)).es = []) := hide (by rw [leaveS_es, List.drop_of_length_le (by omega)])
                        have HLEN : Hid ((leaveS S (frontN S)).es.length = 0) := hide (by rw [HES.out]; rfl)
                        rw [hh1] at HOL ⊢
                        clear hh1 i1 hel hfc
                        have hfc : True := trivial
                        have HFCn := hide hfc
                        go_wp2_with (first
                          | (go_at_call 21; refine HOL.out.mono ?_; rintro e w4 ⟨rfl, m4, h4⟩; subst h4; have HR4 := hide (HR3.out.below (below_drew0 _ m4)); obtain ⟨⟨d0, d1⟩, ⟨d2, d3⟩, f2, f3⟩ := HR4.out.c; simp only at d0 d1 d2 d3; clear HOL HR3)
                          | (go_at_call 17; have HR5 := hide ((HR4.out.set 2 (.int .i64 (oldE S)) ⟨10, of, (oldE S), ob⟩ rfl).set 3 (.int .i64 (frontN S : Int)) ⟨10, of, (oldE S), (frontN S : Int)⟩ rfl); refine (HR5.out.r2.al.bar0 hjN _ _ HBAR.out).mono ?_; rintro e w5 ⟨lv, v5, rfl, q1, q2, a5, m5⟩; have HR6 := hide ((HR5.out.move a5 m5).more (Nat.le_succ j)); have HSE := hide (sameEntries_any w5 _ _ _ _ q1 (HR6.out.r2.lst.frontc (k := frontN S) HFL.out)); rw [decide_eq_true rfl] at HSE; obtain ⟨la, lc, el, l1, l2, -⟩ := q1.form; rw [HTK.out] at el l1; subst el; obtain ⟨⟨t0, t1⟩, ⟨t2, t3⟩, -⟩ := HR6.out.c; simp only at t0 t1 t2 t3; unfold maxLen at l2; clear a5 m5 HR5 q1 q2)
                          | (go_at_call 22; refine HSE.out.mono ?_; rintro e w6 ⟨rfl, q6⟩; have HR7 := hide (HR6.out.below q6); have HTL := hide (HR7.out.r2.lst.gone); have HRZ := hide (HR7.out.sub HTL.out (fun g e => e)); clear q6 HSE HR6)
                          | (go_at_call 13; refine (HNM.out _ _).mono ?_; rintro e w9 ⟨rfl, h9⟩; have h9s := h9.symm; clear h9; subst h9s)
                          | (go_at_call 23; have hsz := HRZ.out.r2.al.size; rw [HLEN.out] at hsz; refine hsz.mono ?_; clear hsz; rintro e wz ⟨rfl, mz, hz⟩; subst hz))
                        go_roundw
                        case rel => exact ⟨j + 1, _, leaveS S (frontN S), by omega, by go_num, by rw [HON.out], by rw [HES.out]; exact HRZ.out.r2.below (below_drew0 _ _)⟩
                        case measure => simp [intOf]; omega
                · have g10 : (k == 10) = false := by simpa using hk10
                  have HRZ := hide (HR3.out.more (Nat.le_succ j))
                  have HLEN : Hid (S.es.length = S.es.length) := hide rfl
                  clear HR3
                  go_wp2_with (first
                    | (go_at_call 23; have hsz := HRZ.out.r2.al.size; refine hsz.mono ?_; clear hsz; rintro e wz ⟨rfl, mz, hz⟩; subst hz))
                  go_roundw
                  case rel => exact ⟨j + 1, _, S, by omega, by go_num, rfl, HRZ.out.r2.below (below_drew0 _ _)⟩
                  case measure => simp [intOf]; omega
    · have ej : j = n := by omega
      subst ej
      have HFL := hide (hR.al.fail (by omega))
      have HR2 := hide hR
      obtain ⟨ia, ic, eiv, -, -, -⟩ := hR.lst.form
      subst eiv
      clear hR HOP
      go_wp2_with (first
        | (go_at_call 18; refine HFL.out.mono ?_; rintro e w4 ⟨lv, v4, rfl, q1, -, a4, m4⟩; have HR4 := hide (HR2.out.move a4 m4); have HSE := hide (sameEntries_any w4 _ _ _ _ q1 HR4.out.lst); rw [decide_eq_true rfl] at HSE; obtain ⟨la, lc, el, -, -, -⟩ := q1.form; subst el; clear a4 m4 HR2 HFL q1)
        | (go_at_call 22; refine HSE.out.mono ?_; rintro e w5 ⟨rfl, q5⟩; have HRZ := hide (HR4.out.al.below q5); clear q5 HSE HR4)
        | (go_at_call 23; have hsz := HRZ.out.size; rw [failS_es] at hsz; refine hsz.mono ?_; clear hsz; rintro e wz ⟨rfl, mz, hz⟩; subst hz; have HRY := hide (HRZ.out.below (below_drew0 _ mz)))
        | (go_at_call 15; refine HRY.out.opn.mono ?_; rintro e wy ⟨rfl, my, hy⟩; subst hy; have HRX := hide (HRY.out.below (below_drew0 _ my)); clear HRY))
      go_ret
      exact ⟨rfl, below_drewN HRZ.out.bel _⟩
end Go.Proofs.Ytcdmkbjibcahcaa
