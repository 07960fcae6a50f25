import Derived.Test.YtcdmkbjibcahcaaTAk0
namespace Go.Proofs.Ytcdmkbjibcahcaa
open Go.RowKit
set_option linter.unusedVariables false
set_option linter.unusedSimpArgs false
set_option maxRecDepth 20000

set_option maxHeartbeats 20000000 in
theorem acks_good (w : World) (lim ep : Nat) (sv : Value) (os : List OpV) (hs : OSl w sv os) (hn : os.length ≤ 4398046511104) (hok : ∀ s ∈ os, s.ok) (h1 : 1 ≤ lim) (h2 : lim ≤ 1024) (h3 : 1 ≤ ep) (h4 : ep ≤ 64) : Calls Try.prog 7 #[.int .i64 (lim : Int), .int .i64 (ep : Int), sv] w fun e w' => e = .returned (.bool true) ∧ Below w.heap.size w w' := by
  have HG := hide (good_any w (lim : Int) (ep : Int))
  rw [decide_eq_true (by omega)] at HG
  have HM : Hid (∀ x, _) := hide fun x => made_any x lim ep h1 h2 h3 h4
  have HNM : Hid (∀ x z, _) := hide fun x z => num_any x z
  clear h1 h2 h3 h4
  obtain ⟨sa, sc, rfl, s1, s2, s3⟩ := hs
  unfold maxLen at s2
  have HOP : Hid (∀ i, i < os.length → _) := hide fun i (hi : i < os.length) => ops_at s3 hok hi
  clear s3 hok
  generalize os.length = n at *
  go_enter Try.func7, Try.ntmps7
  go_wp2_with (first
    | (go_at_call 9; refine HG.out.mono ?_; rintro e w1 ⟨rfl, h9⟩; have h9s := h9.symm; clear h9; subst h9s)
    | (go_at_call 10; refine (HM.out _).mono ?_; rintro e w2 ⟨p, bm, rfl, a2⟩; have HA2 := hide a2; clear a2))
  go_loopw [9, 10, 11] (fun iv wv x wr => ∃ (j : Nat) (v : Value) (S : LS), j ≤ n ∧ x = .int .i64 (j : Int) ∧ W2 w wr p bm v S j iv S.es wv (una S.ls)) (fun _ _ x _ => n - (intOf x).toNat)
  case atStart => exact ⟨0, _, newS lim ep, Nat.zero_le _, rfl, W2.nil HA2.out⟩
  case round =>
    clear HA2 HM HG
    obtain ⟨j, v, S, hj, rfl, hR⟩ := hrel
    by_cases hlt : j < n
    · obtain ⟨sb, so, s, rfl, hsok, hcell⟩ := HOP.out j hlt
      obtain ⟨⟨c0, c1⟩, c2, c3⟩ := hcell _ hR.r2.al.bel
      have HR3 := hide (W3.start hR s)
      clear hcell HOP
      obtain ⟨k, of, oa, ob⟩ := s
      have hka : i64ok oa := hsok.2.2.1
      have hjN : j ≤ 15000000000000 := by omega
      have hjN1 : j + 1 ≤ 15000000000000 := by omega
      simp only at c0 c1 c2 c3
      unfold OpV.row at HR3
      simp only at HR3
      obtain ⟨ia, ic, eiv, i1, i2, i3⟩ := hR.r2.lst.form
      subst eiv
      obtain ⟨wa, wc, ewv, u1, u2, -⟩ := hR.lst.form
      subst ewv
      have hel := hR.r2.al.ok.bd.es
      have hul := una_le S.ls
      rw [← LS.es_len] at hul
      unfold maxLen at i2 u2
      have HND := hide hR.r2.al.ok.bd.nd
      have HIA : Hid (S.es ≠ [] → ∃ ig io, ia = some ⟨ig, io, none⟩) := hide fun h => by
        obtain ⟨g9, o9, e9, -⟩ := i3 0 (List.length_pos_iff.2 h)
        exact ⟨g9, o9, e9⟩
      clear hR i3 hsok
      by_cases hk0 : k = 0
      · subst hk0
        by_cases hr : refE S oa ob = 0
        · skip
          as_aux_lemma =>
            have HAD := hide (HR3.out.r3.r2.al.add0 hjN oa ob hka hr)
            have HES := hide (addS_es S oa ob)
            have HUS := hide (una_add S oa ob)
            have HBN : Hid (S.es.length + 1 ≤ 4000000000000) := hide (by have := HR3.out.r3.r2.al.ok.bd.es; omega)
            have HBW : Hid ((una S.ls).length + 1 ≤ 4000000000000) := hide (by have := HR3.out.r3.r2.al.ok.bd.es; rw [LS.es_len] at this; have := una_le S.ls; omega)
            go_wp2_with (first
              | (go_at_call 11; refine HAD.out.mono ?_; rintro e w4 ⟨v4, rfl, a4, m4⟩; have HR4 := hide (HR3.out.move a4 m4); obtain ⟨⟨d0, d1⟩, ⟨d2, d3⟩, -⟩ := HR4.out.r3.c; simp only at d0 d1 d2 d3; have HE4 := hide (HR4.out.r3.r2.lst.below (below_alloc w4 (.cells #[.int .i64 oa, .int .i64 ob, .int .i64 (S.now : Int)] 36))); clear a4 m4 HR3 HAD)
              | (go_at_call 13; refine (HNM.out _ _).mono ?_; rintro e w9 ⟨rfl, h9⟩; have h9s := h9.symm; clear h9; subst h9s)
              | (at_builtin; refine wpList_appendE _ rfl (.tmp 66) (.tmp 73) rfl _ S.es rfl HE4.out ⟨w4.heap.size, 0, none⟩ 1 [(oa, ob, (S.now : Int))] (by simp) rfl (cells_new _ #[.int .i64 oa, .int .i64 ob, .int .i64 (S.now : Int)] _ _ rfl) HBN.out ?_; intro v6 w6 q1 q2; have HR5 := hide (HR4.out.appI (below_alloc w4 _) q2 q1); obtain ⟨a7, c7, e7, -, -, -⟩ := q1.form; rw [List.length_append, List.length_singleton] at e7; subst e7; clear q1 q2 HR4 HE4 d0 d1 d2 d3; obtain ⟨⟨d0, d1⟩, ⟨d2, d3⟩, -⟩ := HR5.out.r3.c; simp only at d0 d1 d2 d3; have HE5 := hide (HR5.out.lst.below (below_alloc w6 (.cells #[.int .i64 oa, .int .i64 ob, .int .i64 (S.now : Int)] 36))))
              | (at_builtin; refine wpList_appendE _ rfl (.tmp 75) (.tmp 82) rfl _ (una S.ls) rfl HE5.out ⟨w6.heap.size, 0, none⟩ 1 [(oa, ob, (S.now : Int))] (by simp) rfl (cells_new _ #[.int .i64 oa, .int .i64 ob, .int .i64 (S.now : Int)] _ _ rfl) HBW.out ?_; intro v7 w7 q1 q2; have HRZ := hide (HR5.out.appW (below_alloc w6 _) q2 q1); rw [← HES.out, ← HUS.out] at HRZ; obtain ⟨a8, c8, e8, -, -, -⟩ := q1.form; rw [List.length_append, List.length_singleton] at e8; subst e8; clear q1 q2 HR5 HE5 d0 d1 d2 d3)
              | (go_at_call 27; refine (HRZ.out.r3.r2.al.unacked hjN1).mono ?_; rintro e wu ⟨lv, rfl, q1, q2⟩; have HRY := hide (HRZ.out.below q2); have HSE := hide (sameEntries_any wu _ _ _ _ q1 HRY.out.lst); rw [decide_eq_true rfl] at HSE; obtain ⟨la, lc, el, -, -, -⟩ := q1.form; subst el; clear q1 q2 HRZ)
              | (go_at_call 22; refine HSE.out.mono ?_; rintro e w5 ⟨rfl, q5⟩; have HRX := hide (HRY.out.below q5); clear q5 HSE HRY))
            go_roundw
            case rel => exact ⟨j + 1, _, addS S oa ob, by omega, by go_num, HRX.out.w2⟩
            case measure => simp [intOf]; omega
        · skip
          as_aux_lemma =>
            have HAD := hide (HR3.out.r3.r2.al.addN oa ob hka hr)
            have hr0 : (refE S oa ob == 0) = false := by simpa using hr
            generalize refE S oa ob = R at *
            go_wp2_with (first
              | (go_at_call 11; refine HAD.out.mono ?_; rintro e w4 ⟨rfl, a4, m4⟩; have HRZ := hide ((HR3.out.move a4 m4).more (Nat.le_succ j)); clear a4 m4 HR3 HAD)
              | (go_at_call 13; refine (HNM.out _ _).mono ?_; rintro e w9 ⟨rfl, h9⟩; have h9s := h9.symm; clear h9; subst h9s)
              | (go_at_call 27; refine (HRZ.out.r3.r2.al.unacked hjN1).mono ?_; rintro e wu ⟨lv, rfl, q1, q2⟩; have HRY := hide (HRZ.out.below q2); have HSE := hide (sameEntries_any wu _ _ _ _ q1 HRY.out.lst); rw [decide_eq_true rfl] at HSE; obtain ⟨la, lc, el, -, -, -⟩ := q1.form; subst el; clear q1 q2 HRZ)
              | (go_at_call 22; refine HSE.out.mono ?_; rintro e w5 ⟨rfl, q5⟩; have HRX := hide (HRY.out.below q5); clear q5 HSE HRY))
            go_roundw
            case rel => exact ⟨j + 1, _, S, by omega, by go_num, HRX.out.w2⟩
            case measure => simp [intOf]; omega
      · have g0 : (k == 0) = false := by simpa using hk0
        by_cases hk1 : k = 1
        · subst hk1
          as_aux_lemma =>
            have HCL := hide (HR3.out.r3.r2.al.close hjN)
            have HES := hide (closeS_es S)
            have HUS := hide (una_close S)
            generalize decide (0 < joinN S) = bj at *
            generalize joinN S = jn at *
            go_wp2_with (first
              | (go_at_call 14; refine HCL.out.mono ?_; rintro e w4 ⟨rfl, a4, m4⟩; have HRZ := hide ((HR3.out.move a4 m4).cast HES.out.symm HUS.out.symm); clear a4 m4 HR3 HCL)
              | (go_at_call 27; refine (HRZ.out.r3.r2.al.unacked hjN1).mono ?_; rintro e wu ⟨lv, rfl, q1, q2⟩; have HRY := hide (HRZ.out.below q2); have HSE := hide (sameEntries_any wu _ _ _ _ q1 HRY.out.lst); rw [decide_eq_true rfl] at HSE; obtain ⟨la, lc, el, -, -, -⟩ := q1.form; subst el; clear q1 q2 HRZ)
              | (go_at_call 22; refine HSE.out.mono ?_; rintro e w5 ⟨rfl, q5⟩; have HRX := hide (HRY.out.below q5); clear q5 HSE HRY))
            go_roundw
            case rel => exact ⟨j + 1, _, closeS S, by omega, by go_num, HRX.out.w2⟩
            case measure => simp [intOf]; omega
        · have g1 : (k == 1) = false := by simpa using hk1
          by_cases hk2 : k = 2
          · subst hk2
            as_aux_lemma =>
              have HAK := hide (HR3.out.r3.r2.al.ack hjN oa hka)
              unfold enV at HAK
              go_wp2_with (first
                | (go_at_call 20; refine HAK.out.mono ?_; rintro e w4 ⟨S', z, r, hA, rfl, a4, m4⟩; have HR4 := hide ((HR3.out.move a4 m4).more (Nat.le_succ j)); have HA := hide hA; have HU := hide (ackR_una hA HND.out); clear a4 m4 HR3 HAK hA)
                | (go_at_call 13; refine (HNM.out _ _).mono ?_; rintro e w9 ⟨rfl, h9⟩; have h9s := h9.symm; clear h9; subst h9s))
              have HR5 := hide (HR4.out.below (below_alloc w4 (.cells #[.int .i64 z.1, .int .i64 z.2.1, .int .i64 z.2.2] 36)))
              have HX := hide (HR5.out.reads (zb := w4.heap.size) (z := z) (Go.heap_alloc_new _ _))
              have HZL : Hid (w4.heap.size < (w4.alloc (.cells #[.int .i64 z.1, .int .i64 z.2.1, .int .i64 z.2.2] 36)).heap.size) := hide (by simp)
              generalize w4.alloc (.cells #[.int .i64 z.1, .int .i64 z.2.1, .int .i64 z.2.2] 36) = x0 at *
              generalize w4.heap.size = zb at *
              generalize wr.heap.size = gb at *
              clear HR4
              have HWL : Hid ((una S.ls).length ≤ 2000) := hide (by omega)
              generalize hwl : una S.ls = wl at *
              generalize hwn : wl.length = wn at *
              have HWN := hide hwn
              have HWE := hide hwl
              clear hwl hwn
              go_loopw [18, 19, 20] (fun rv fv x y => ∃ k : Nat, k ≤ wn ∧ x = .int .i64 (k : Int) ∧ fv = .bool (hasB (wl.take k) oa) ∧ RI x0 y rv (wo (wl.take k) oa)) (fun _ _ x _ => wn - (intOf x).toNat)
              case atStart => exact ⟨0, Nat.zero_le _, rfl, rfl, RI.nil x0⟩
              case round =>
                obtain ⟨k, hk, rfl, rfl, hRI⟩ := hrel
                have HRI := hide hRI
                obtain ⟨ra, rc, erv, r1, r2, -⟩ := hRI.row.form
                subst erv
                obtain ⟨⟨⟨b0, b1⟩, b2, ba⟩, hw⟩ := HX.out wr hRI.bel
                simp only at ba
                unfold maxLen at r2
                clear hRI
                by_cases hlt2 : k < wn
                · obtain ⟨gw, ow, rfl, t0, t1, t2⟩ := hw k hlt2
                  clear hw
                  have hkw : k < wl.length := by rw [HWN.out]; exact hlt2
                  by_cases hyo : (wl.getD k e0).1 = oa
                  · obtain ⟨hr0, hyz⟩ := HU.out.2 _ (getD_mem hkw) hyo
                    subst hr0
                    rw [hyz] at t0 t1 t2 hyo
                    have HT1 : Hid (wo (wl.take (k + 1)) oa = wo (wl.take k) oa) := hide (by rw [wo_take hkw, hyz, if_pos hyo, List.append_nil])
                    have HT2 : Hid (hasB (wl.take (k + 1)) oa = true) := hide (by rw [hasB_take hkw, hyz, hyo]; simp)
                    have HSE := hide fun u => sameEntry_any u z z
                    rw [decide_eq_true rfl] at HSE
                    unfold enV at HSE
                    obtain ⟨z0, z1, z2⟩ := z
                    simp only at b0 b1 b2 t0 t1 t2 hyo HSE
                    subst hyo
                    have HYZ := hide hyz
                    clear hyz hkw
                    generalize (wo (wl.take k) z0).length = rn at *
                    generalize hasB (wl.take k) z0 = fb at *
                    go_wp2_with fail
                    go_quiet (fail)
                    go_wp2_with fail
                    have HR7 := hide (HRI.out.below (below_drew0 _ nq))
                    clear b0 b1 b2 ba t0 t1 t2
                    obtain ⟨⟨⟨b0, b1⟩, b2, -⟩, hw⟩ := HX.out _ HR7.out.bel
                    obtain ⟨gw', ow', egw, t0, t1, t2⟩ := hw k hlt2
                    simp only [Option.some.injEq, Addr.mk.injEq] at egw
                    obtain ⟨rfl, rfl, -⟩ := egw
                    rw [HYZ.out] at t0 t1 t2
                    simp only at b0 b1 b2 t0 t1 t2
                    clear hw
                    generalize wr.drewN nq = wq at *
                    have hii : 0 ≤ (k : Int) ∧ (k : Int) < (wn : Int) := ⟨by omega, by omega⟩
                    have hnot : ∀ (x : Bool) (w : World), (Op.unary .not (.bool x)).run Try.prog w = .ok (.bool (!x)) w := fun _ _ => rfl
                    go_region_held3 (fun u => ((u.cell? ⟨zb, 0, none⟩ = some (.int .i64 z0) ∧ u.cell? ⟨zb, 1, none⟩ = some (.int .i64 z1)) ∧ u.cell? ⟨zb, 2, none⟩ = some (.int .i64 z2)) ∧ (u.cell? ⟨gw, ow + k * 3, none⟩ = some (.int .i64 z0) ∧ u.cell? ⟨gw, ow + k * 3 + 1, none⟩ = some (.int .i64 z1)) ∧ u.cell? ⟨gw, ow + k * 3 + 2, none⟩ = some (.int .i64 z2)) (first | exact ⟨⟨⟨b0, b1⟩, b2⟩, ⟨t0, t1⟩, t2⟩ | exact ⟨⟨⟨d0, d1⟩, d2⟩, ⟨d3, d4⟩, d5⟩ | assumption)
                      (first
                        | (go_at_call 13; refine (HNM.out _ _).mono ?_; rintro e' w9 ⟨rfl, h9⟩; have h9s := h9.symm; clear h9; subst h9s)
                        | (go_at_call 26; refine (HSE.out _).mono ?_; rintro e' w8 ⟨rfl, q8⟩; have HR8 := hide (HR7.out.below (below_dr q8)); obtain ⟨⟨⟨d0, d1⟩, d2, -⟩, hw8⟩ := HX.out _ HR8.out.bel; obtain ⟨gw', ow', egw, d3, d4, d5⟩ := hw8 k hlt2; simp only [Option.some.injEq, Addr.mk.injEq] at egw; obtain ⟨rfl, rfl, -⟩ := egw; rw [HYZ.out] at d3 d4 d5; simp only at d0 d1 d2 d3 d4 d5; clear hw8 q8 HSE))
                    go_wp2_with fail
                    go_roundw
                    case rel => exact ⟨k + 1, by omega, by go_num, by rw [HT2.out], by rw [HT1.out]; exact HR8.out⟩
                    case measure => simp [intOf]; omega
                  · have HT1 : Hid (wo (wl.take (k + 1)) oa = wo (wl.take k) oa ++ [wl.getD k e0]) := hide (by rw [wo_take hkw, if_neg hyo])
                    have HT2 : Hid (hasB (wl.take (k + 1)) oa = hasB (wl.take k) oa) := hide (by rw [hasB_take hkw, show ((wl.getD k e0).1 == oa) = false by simpa using hyo]; simp)
                    have hyo2 : ((wl.getD k e0).1 == oa) = false := by simpa using hyo
                    have HBN : Hid ((wo (wl.take k) oa).length + 1 ≤ 4000000000000) := hide (by have := wo_len (wl.take k) oa; have := List.length_take_le k wl; omega)
                    generalize wl.getD k e0 = y at *
                    obtain ⟨y0, y1, y2⟩ := y
                    simp only at t0 t1 t2 hyo2
                    clear hyo hkw
                    generalize hrl : wo (wl.take k) oa = rl at *
                    generalize hrn : rl.length = rn at *
                    have HRN := hide hrn
                    clear hrl hrn
                    generalize hasB (wl.take k) oa = fb at *
                    go_wp2_with fail
                    go_quiet (fail)
                    go_wp2_with (first
                      | (at_builtin; refine wpList_appendE _ rfl (.tmp 123) (.tmp 128) rfl _ rl rfl ((HRI.out.below (below_drew0 _ nq)).row.below (below_alloc _ _)) ⟨wr.heap.size, 0, none⟩ 1 [(y0, y1, y2)] (by simp) rfl (cells_new _ #[.int .i64 y0, .int .i64 y1, .int .i64 y2] _ _ rfl) (by rw [HRN.out]; exact HBN.out) ?_; intro v6 w6 q1 q2; have HR8 := hide ((HRI.out.below (below_drew0 _ nq)).app (below_alloc _ _) q2 q1); clear q1 q2))
                    go_roundw
                    case rel => exact ⟨k + 1, by omega, by go_num, by rw [HT2.out], by rw [HT1.out]; exact HR8.out⟩
                    case measure => simp [intOf]; omega
                · have ek : k = wn := by omega
                  subst ek
                  have HTK : Hid (wl.take k = wl) := hide (List.take_of_length_le (by rw [HWN.out]; exact Nat.le_refl _))
                  rw [HTK.out] at HRI ⊢
                  have HR8 := hide ((HR5.out.rest HRI.out).cast HA.out.es.1.symm HU.out.1.symm)
                  have HHA := hide (has_any wr _ S.es oa (HR5.out.r3.r2.lst.below HRI.out.bel))
                  clear hw HX HRI HR5
                  have hrn1 : (wo (wl.take k) oa).length = (wo wl oa).length := by rw [HTK.out]
                  rw [hrn1] at *
                  clear hrn1
                  generalize hfb : hasB wl oa = fb at *
                  cases fb with
                  | true =>
                    clear hfb
                    generalize (wo wl oa).length = rn at *
                    have HRZ := HR8
                    clear HR8
                    go_wp2_with (first
                      | (go_at_call 12; refine HHA.out.mono ?_; rintro e w9 ⟨rfl, h9⟩; have h9s := h9.symm; clear h9; subst h9s)
                      | (go_at_call 13; refine (HNM.out _ _).mono ?_; rintro e w9 ⟨rfl, h9⟩; have h9s := h9.symm; clear h9; subst h9s)
                      | (go_at_call 27; refine (HRZ.out.r3.r2.al.unacked hjN1).mono ?_; rintro e wu ⟨lv, rfl, q1, q2⟩; have HRY := hide (HRZ.out.below q2); have HSE := hide (sameEntries_any wu _ _ _ _ q1 HRY.out.lst); rw [decide_eq_true rfl] at HSE; obtain ⟨la, lc, el, -, -, -⟩ := q1.form; subst el; clear q1 q2 HRZ)
                      | (go_at_call 22; refine HSE.out.mono ?_; rintro e w5 ⟨rfl, q5⟩; have HRX := hide (HRY.out.below q5); clear q5 HSE HRY))
                    go_roundw
                    case rel => exact ⟨j + 1, _, S', by omega, by go_num, HRX.out.w2⟩
                    case measure => simp [intOf]; omega
                  | false =>
                    have hnone : ∀ y ∈ wl, y.1 ≠ oa := fun y hy e => by
                      have : hasB wl oa = true := by unfold hasB; rw [List.any_eq_true]; exact ⟨y, hy, by simpa using e⟩
                      rw [hfb] at this
                      cases this
                    have hcs := ackR_has HA.out (by rw [HWE.out]; exact hnone)
                    clear hfb hnone
                    generalize (wo wl oa).length = rn at *
                    rcases hcs with ⟨rfl, hh⟩ | ⟨rfl, hh⟩
                    · rw [hh] at HHA
                      clear hh
                      have HRZ := HR8
                      clear HR8
                      go_wp2_with (first
                        | (go_at_call 12; refine HHA.out.mono ?_; rintro e w9 ⟨rfl, h9⟩; have h9s := h9.symm; clear h9; subst h9s)
                        | (go_at_call 13; refine (HNM.out _ _).mono ?_; rintro e w9 ⟨rfl, h9⟩; have h9s := h9.symm; clear h9; subst h9s)
                        | (go_at_call 27; refine (HRZ.out.r3.r2.al.unacked hjN1).mono ?_; rintro e wu ⟨lv, rfl, q1, q2⟩; have HRY := hide (HRZ.out.below q2); have HSE := hide (sameEntries_any wu _ _ _ _ q1 HRY.out.lst); rw [decide_eq_true rfl] at HSE; obtain ⟨la, lc, el, -, -, -⟩ := q1.form; subst el; clear q1 q2 HRZ)
                        | (go_at_call 22; refine HSE.out.mono ?_; rintro e w5 ⟨rfl, q5⟩; have HRX := hide (HRY.out.below q5); clear q5 HSE HRY))
                      go_roundw
                      case rel => exact ⟨j + 1, _, S', by omega, by go_num, HRX.out.w2⟩
                      case measure => simp [intOf]; omega
                    · rw [hh] at HHA
                      clear hh
                      have HRZ := HR8
                      clear HR8
                      go_wp2_with (first
                        | (go_at_call 12; refine HHA.out.mono ?_; rintro e w9 ⟨rfl, h9⟩; have h9s := h9.symm; clear h9; subst h9s)
                        | (go_at_call 13; refine (HNM.out _ _).mono ?_; rintro e w9 ⟨rfl, h9⟩; have h9s := h9.symm; clear h9; subst h9s)
                        | (go_at_call 27; refine (HRZ.out.r3.r2.al.unacked hjN1).mono ?_; rintro e wu ⟨lv, rfl, q1, q2⟩; have HRY := hide (HRZ.out.below q2); have HSE := hide (sameEntries_any wu _ _ _ _ q1 HRY.out.lst); rw [decide_eq_true rfl] at HSE; obtain ⟨la, lc, el, -, -, -⟩ := q1.form; subst el; clear q1 q2 HRZ)
                        | (go_at_call 22; refine HSE.out.mono ?_; rintro e w5 ⟨rfl, q5⟩; have HRX := hide (HRY.out.below q5); clear q5 HSE HRY))
                      go_roundw
                      case rel => exact ⟨j + 1, _, S', by omega, by go_num, HRX.out.w2⟩
                      case measure => simp [intOf]; omega
          · have g2 : (k == 2) = false := by simpa using hk2
            by_cases hk10 : k = 10
            · subst hk10
              by_cases hnil : S.es = []
              · have HOL := hide (lOldest_nil _ _ (HR3.out.r3.r2.lst.isNilA hnil))
                have HBAR : Hid (barB S 0 0 = false) := hide (bar_nilA hnil _ _)
                clear hnil
                as_aux_lemma =>
                  go_wp2_with (first
                    | (go_at_call 21; refine HOL.out.mono ?_; rintro e w4 ⟨rfl, m4, h4⟩; subst h4; have HR4 := hide (HR3.out.below (below_drew0 _ m4)); clear HOL HR3)
                    | (go_at_call 17; refine (HR4.out.r3.r2.al.barN hjN _ _ HBAR.out).mono ?_; rintro e w5 ⟨rfl, a5, m5⟩; have HRZ := hide ((HR4.out.move a5 m5).more (Nat.le_succ j)); clear a5 m5 HR4)
                    | (go_at_call 13; refine (HNM.out _ _).mono ?_; rintro e w9 ⟨rfl, h9⟩; have h9s := h9.symm; clear h9; subst h9s)
                    | (go_at_call 27; refine (HRZ.out.r3.r2.al.unacked hjN1).mono ?_; rintro e wu ⟨lv, rfl, q1, q2⟩; have HRY := hide (HRZ.out.below q2); have HSE := hide (sameEntries_any wu _ _ _ _ q1 HRY.out.lst); rw [decide_eq_true rfl] at HSE; obtain ⟨la, lc, el, -, -, -⟩ := q1.form; subst el; clear q1 q2 HRZ)
                    | (go_at_call 22; refine HSE.out.mono ?_; rintro e w5 ⟨rfl, q5⟩; have HRX := hide (HRY.out.below q5); clear q5 HSE HRY))
                  go_roundw
                  case rel => exact ⟨j + 1, _, S, by omega, by go_num, HRX.out.w2⟩
                  case measure => simp [intOf]; omega
              · have HOL := hide (lOldest_any _ _ _ HR3.out.r3.r2.lst hnil)
                rw [show cntE S.es (S.es.getD 0 e0).2.2 = frontN S by rw [front_count HR3.out.r3.r2.al.ok hnil, old_cons hnil]; rfl, ← old_cons hnil] at HOL
                cases hbar : barB S (oldE S) (frontN S : Int) with
                | false =>
                  have HBAR := hide hbar
                  clear hbar
                  as_aux_lemma =>
                    go_wp2_with (first
                      | (go_at_call 21; refine HOL.out.mono ?_; rintro e w4 ⟨rfl, m4, h4⟩; subst h4; have HR4 := hide (HR3.out.below (below_drew0 _ m4)); clear HOL HR3)
                      | (go_at_call 17; refine (HR4.out.r3.r2.al.barN hjN _ _ HBAR.out).mono ?_; rintro e w5 ⟨rfl, a5, m5⟩; have HRZ := hide ((HR4.out.move a5 m5).more (Nat.le_succ j)); clear a5 m5 HR4)
                      | (go_at_call 13; refine (HNM.out _ _).mono ?_; rintro e w9 ⟨rfl, h9⟩; have h9s := h9.symm; clear h9; subst h9s)
                      | (go_at_call 27; refine (HRZ.out.r3.r2.al.unacked hjN1).mono ?_; rintro e wu ⟨lv, rfl, q1, q2⟩; have HRY := hide (HRZ.out.below q2); have HSE := hide (sameEntries_any wu _ _ _ _ q1 HRY.out.lst); rw [decide_eq_true rfl] at HSE; obtain ⟨la, lc, el, -, -, -⟩ := q1.form; subst el; clear q1 q2 HRZ)
                      | (go_at_call 22; refine HSE.out.mono ?_; rintro e w5 ⟨rfl, q5⟩; have HRX := hide (HRY.out.below q5); clear q5 HSE HRY))
                    go_roundw
                    case rel => exact ⟨j + 1, _, S, by omega, by go_num, HRX.out.w2⟩
                    case measure => simp [intOf]; omega
                | true =>
                  have HBAR := hide hbar
                  obtain ⟨hb1, hb2, hb3⟩ := barB_true hbar
                  have HUL := hide (una_leave HR3.out.r3.r2.al.ok)
                  have hfl := frontN_le S
                  have HFL := hide hfl
                  have hob := HR3.out.r3.r2.al.ok.old
                  have hnb := HR3.out.r3.r2.al.nw
                  obtain ⟨ig, io, rfl⟩ := HIA.out hnil
                  clear hbar hnil hb2 hb3
                  have hwb : (una S.ls).length ≤ 2000 := by omega
                  by_cases hfc : frontN S < ic
                  · have HES : Hid ((leaveS S (frontN S)).es = S.es.drop (frontN S)) := hide (leaveS_es S (frontN S))
                    as_aux_lemma =>
                      go_wp2_with (first
                        | (go_at_call 21; refine HOL.out.mono ?_; rintro e w4 ⟨rfl, m4, h4⟩; subst h4; have HR4 := hide (HR3.out.below (below_drew0 _ m4)); clear HOL HR3)
                        | (go_at_call 17; refine (HR4.out.r3.r2.al.bar0 hjN _ _ HBAR.out).mono ?_; rintro e w5 ⟨lv, v5, rfl, q1, q2, a5, m5⟩; obtain ⟨la, lc, el, -, -, -⟩ := q1.form; subst el; have HR5 := hide ((HR4.out.move a5 m5).more (Nat.le_succ j)); have HTL := hide (HR5.out.r3.r2.lst.tail (k := frontN S) HFL.out); have HR6 := hide ((HR5.out.subI HTL.out (fun g e => e)).cast HES.out.symm rfl); clear a5 m5 HR4 q1 q2 HR5)
                        | (go_at_call 13; refine (HNM.out _ _).mono ?_; rintro e w9 ⟨rfl, h9⟩; have h9s := h9.symm; clear h9; subst h9s))
                      have HWT := hide HR6.out.waits
                      have HWL : Hid ((una S.ls).length ≤ 2000) := hide (by omega)
                      generalize hwl : una S.ls = wl at *
                      generalize hwn : wl.length = wn at *
                      have HWN := hide hwn
                      clear hwl hwn
                      generalize oldE S = oe at *
                      go_loopw [25, 26] (fun rv x y => ∃ k : Nat, k ≤ wn ∧ x = .int .i64 (k : Int) ∧ RI w5 y rv (woE (wl.take k) oe)) (fun _ x _ => wn - (intOf x).toNat)
                      case atStart => exact ⟨0, Nat.zero_le _, rfl, RI.nil w5⟩
                      case round =>
                        obtain ⟨k, hk, rfl, hRI⟩ := hrel
                        have HRI := hide hRI
                        obtain ⟨ra, rc, erv, r1, r2, -⟩ := hRI.row.form
                        subst erv
                        unfold maxLen at r2
                        by_cases hlt2 : k < wn
                        · have hkw : k < wl.length := by rw [HWN.out]; exact hlt2
                          obtain ⟨gw, ow, rfl, t0, t1, t2⟩ := HWT.out wr hRI.bel k hlt2
                          clear hRI
                          by_cases hyo : (wl.getD k e0).2.2 = oe
                          · have HT1 : Hid (woE (wl.take (k + 1)) oe = woE (wl.take k) oe) := hide (by rw [woE_take hkw, if_pos hyo, List.append_nil])
                            have hyo2 : ((wl.getD k e0).2.2 != oe) = false := by simpa using hyo
                            generalize wl.getD k e0 = y at *
                            obtain ⟨y0, y1, y2⟩ := y
                            simp only at t0 t1 t2 hyo2
                            clear hyo hkw
                            generalize hrl : woE (wl.take k) oe = rl at *
                            generalize rl.length = rn at *
                            go_wp2_with fail
                            go_roundw
                            case rel => exact ⟨k + 1, by omega, by go_num, by rw [HT1.out]; exact HRI.out⟩
                            case measure => simp [intOf]; omega
                          · have HT1 : Hid (woE (wl.take (k + 1)) oe = woE (wl.take k) oe ++ [wl.getD k e0]) := hide (by rw [woE_take hkw, if_neg hyo])
                            have hyo2 : ((wl.getD k e0).2.2 != oe) = true := by simpa using hyo
                            have HBN : Hid ((woE (wl.take k) oe).length + 1 ≤ 4000000000000) := hide (by have := woE_len (wl.take k) oe; have := List.length_take_le k wl; omega)
                            generalize wl.getD k e0 = y at *
                            obtain ⟨y0, y1, y2⟩ := y
                            simp only at t0 t1 t2 hyo2
                            clear hyo hkw
                            generalize hrl : woE (wl.take k) oe = rl at *
                            generalize hrn : rl.length = rn at *
                            have HRN := hide hrn
                            clear hrl hrn
                            go_wp2_with (first
                              | (at_builtin; refine wpList_appendE _ rfl (.tmp 186) (.tmp 191) rfl _ rl rfl (HRI.out.row.below (below_alloc _ _)) ⟨wr.heap.size, 0, none⟩ 1 [(y0, y1, y2)] (by simp) rfl (cells_new _ #[.int .i64 y0, .int .i64 y1, .int .i64 y2] _ _ rfl) (by rw [HRN.out]; exact HBN.out) ?_; intro v6 w6 q1 q2; have HR8 := hide (HRI.out.app (below_alloc _ _) q2 q1); clear q1 q2))
                            go_roundw
                            case rel => exact ⟨k + 1, by omega, by go_num, by rw [HT1.out]; exact HR8.out⟩
                            case measure => simp [intOf]; omega
                        · have ek : k = wn := by omega
                          subst ek
                          have HTK : Hid (wl.take k = wl) := hide (List.take_of_length_le (by rw [HWN.out]; exact Nat.le_refl _))
                          rw [HTK.out] at HRI ⊢
                          have HRZ := hide ((HR6.out.rest HRI.out).cast rfl HUL.out.symm)
                          clear hRI HWT HRI HR6
                          have hrn1 : (woE (wl.take k) oe).length = (woE wl oe).length := by rw [HTK.out]
                          rw [hrn1] at *
                          clear hrn1
                          generalize (woE wl oe).length = rn at *
                          go_wp2_with (first
                            | (go_at_call 27; refine (HRZ.out.r3.r2.al.unacked hjN1).mono ?_; rintro e wu ⟨lv, rfl, q1, q2⟩; have HRY := hide (HRZ.out.below q2); have HSE := hide (sameEntries_any wu _ _ _ _ q1 HRY.out.lst); rw [decide_eq_true rfl] at HSE; obtain ⟨la, lc, el, -, -, -⟩ := q1.form; subst el; clear q1 q2 HRZ)
                            | (go_at_call 22; refine HSE.out.mono ?_; rintro e w5 ⟨rfl, q5⟩; have HRX := hide (HRY.out.below q5); clear q5 HSE HRY))
                          go_roundw
                          case rel => exact ⟨j + 1, _, leaveS S (frontN S), by omega, by go_num, HRX.out.w2⟩
                          case measure => simp [intOf]; omega
                  · have hh1 : S.es.length = frontN S := by omega
                    have hh2 : ic = frontN S := by omega
                    subst hh2
                    have HES : Hid ((leaveS S (frontN S)).es = []) := hide (by rw [leaveS_es, List.drop_of_length_le (by omega)])
                    rw [hh1] at HOL hul ⊢
                    clear hh1 i1 hel hfc
                    have hfc : True := trivial
                    as_aux_lemma =>
                      go_wp2_with (first
                        | (go_at_call 21; refine HOL.out.mono ?_; rintro e w4 ⟨rfl, m4, h4⟩; subst h4; have HR4 := hide (HR3.out.below (below_drew0 _ m4)); clear HOL HR3)
                        | (go_at_call 17; refine (HR4.out.r3.r2.al.bar0 hjN _ _ HBAR.out).mono ?_; rintro e w5 ⟨lv, v5, rfl, q1, q2, a5, m5⟩; obtain ⟨la, lc, el, -, -, -⟩ := q1.form; subst el; have HR5 := hide ((HR4.out.move a5 m5).more (Nat.le_succ j)); have HTL := hide (HR5.out.r3.r2.lst.gone); have HR6 := hide ((HR5.out.subI HTL.out (fun g e => e)).cast HES.out.symm rfl); clear a5 m5 HR4 q1 q2 HR5)
                        | (go_at_call 13; refine (HNM.out _ _).mono ?_; rintro e w9 ⟨rfl, h9⟩; have h9s := h9.symm; clear h9; subst h9s))
                      have HWT := hide HR6.out.waits
                      have HWL : Hid ((una S.ls).length ≤ 2000) := hide (by omega)
                      generalize hwl : una S.ls = wl at *
                      generalize hwn : wl.length = wn at *
                      have HWN := hide hwn
                      clear hwl hwn
                      generalize oldE S = oe at *
                      go_loopw [25, 26] (fun rv x y => ∃ k : Nat, k ≤ wn ∧ x = .int .i64 (k : Int) ∧ RI w5 y rv (woE (wl.take k) oe)) (fun _ x _ => wn - (intOf x).toNat)
                      case atStart => exact ⟨0, Nat.zero_le _, rfl, RI.nil w5⟩
                      case round =>
                        obtain ⟨k, hk, rfl, hRI⟩ := hrel
                        have HRI := hide hRI
                        obtain ⟨ra, rc, erv, r1, r2, -⟩ := hRI.row.form
                        subst erv
                        unfold maxLen at r2
                        by_cases hlt2 : k < wn
                        · have hkw : k < wl.length := by rw [HWN.out]; exact hlt2
                          obtain ⟨gw, ow, rfl, t0, t1, t2⟩ := HWT.out wr hRI.bel k hlt2
                          clear hRI
                          by_cases hyo : (wl.getD k e0).2.2 = oe
                          · have HT1 : Hid (woE (wl.take (k + 1)) oe = woE (wl.take k) oe) := hide (by rw [woE_take hkw, if_pos hyo, List.append_nil])
                            have hyo2 : ((wl.getD k e0).2.2 != oe) = false := by simpa using hyo
                            generalize wl.getD k e0 = y at *
                            obtain ⟨y0, y1, y2⟩ := y
                            simp only at t0 t1 t2 hyo2
                            clear hyo hkw
                            generalize hrl : woE (wl.take k) oe = rl at *
                            generalize rl.length = rn at *
                            go_wp2_with fail
                            go_roundw
                            case rel => exact ⟨k + 1, by omega, by go_num, by rw [HT1.out]; exact HRI.out⟩
                            case measure => simp [intOf]; omega
                          · have HT1 : Hid (woE (wl.take (k + 1)) oe = woE (wl.take k) oe ++ [wl.getD k e0]) := hide (by rw [woE_take hkw, if_neg hyo])
                            have hyo2 : ((wl.getD k e0).2.2 != oe) = true := by simpa using hyo
                            have HBN : Hid ((woE (wl.take k) oe).length + 1 ≤ 4000000000000) := hide (by have := woE_len (wl.take k) oe; have := List.length_take_le k wl; omega)
                            generalize wl.getD k e0 = y at *
                            obtain ⟨y0, y1, y2⟩ := y
                            simp only at t0 t1 t2 hyo2
                            clear hyo hkw
                            generalize hrl : woE (wl.take k) oe = rl at *
                            generalize hrn : rl.length = rn at *
                            have HRN := hide hrn
                            clear hrl hrn
                            go_wp2_with (first
                              | (at_builtin; refine wpList_appendE _ rfl (.tmp 186) (.tmp 191) rfl _ rl rfl (HRI.out.row.below (below_alloc _ _)) ⟨wr.heap.size, 0, none⟩ 1 [(y0, y1, y2)] (by simp) rfl (cells_new _ #[.int .i64 y0, .int .i64 y1, .int .i64 y2] _ _ rfl) (by rw [HRN.out]; exact HBN.out) ?_; intro v6 w6 q1 q2; have HR8 := hide (HRI.out.app (below_alloc _ _) q2 q1); clear q1 q2))
                            go_roundw
                            case rel => exact ⟨k + 1, by omega, by go_num, by rw [HT1.out]; exact HR8.out⟩
                            case measure => simp [intOf]; omega
                        · have ek : k = wn := by omega
                          subst ek
                          have HTK : Hid (wl.take k = wl) := hide (List.take_of_length_le (by rw [HWN.out]; exact Nat.le_refl _))
                          rw [HTK.out] at HRI ⊢
                          have HRZ := hide ((HR6.out.rest HRI.out).cast rfl HUL.out.symm)
                          clear hRI HWT HRI HR6
                          have hrn1 : (woE (wl.take k) oe).length = (woE wl oe).length := by rw [HTK.out]
                          rw [hrn1] at *
                          clear hrn1
                          generalize (woE wl oe).length = rn at *
                          go_wp2_with (first
                            | (go_at_call 27; refine (HRZ.out.r3.r2.al.unacked hjN1).mono ?_; rintro e wu ⟨lv, rfl, q1, q2⟩; have HRY := hide (HRZ.out.below q2); have HSE := hide (sameEntries_any wu _ _ _ _ q1 HRY.out.lst); rw [decide_eq_true rfl] at HSE; obtain ⟨la, lc, el, -, -, -⟩ := q1.form; subst el; clear q1 q2 HRZ)
                            | (go_at_call 22; refine HSE.out.mono ?_; rintro e w5 ⟨rfl, q5⟩; have HRX := hide (HRY.out.below q5); clear q5 HSE HRY))
                          go_roundw
                          case rel => exact ⟨j + 1, _, leaveS S (frontN S), by omega, by go_num, HRX.out.w2⟩
                          case measure => simp [intOf]; omega
            · have g10 : (k == 10) = false := by simpa using hk10
              as_aux_lemma =>
                have HRZ := hide (HR3.out.more (Nat.le_succ j))
                clear HR3
                go_wp2_with (first
                  | (go_at_call 27; refine (HRZ.out.r3.r2.al.unacked hjN1).mono ?_; rintro e wu ⟨lv, rfl, q1, q2⟩; have HRY := hide (HRZ.out.below q2); have HSE := hide (sameEntries_any wu _ _ _ _ q1 HRY.out.lst); rw [decide_eq_true rfl] at HSE; obtain ⟨la, lc, el, -, -, -⟩ := q1.form; subst el; clear q1 q2 HRZ)
                  | (go_at_call 22; refine HSE.out.mono ?_; rintro e w5 ⟨rfl, q5⟩; have HRX := hide (HRY.out.below q5); clear q5 HSE HRY))
                go_roundw
                case rel => exact ⟨j + 1, _, S, by omega, by go_num, HRX.out.w2⟩
                case measure => simp [intOf]; omega
    · have ej : j = n := by omega
      subst ej
      have HB := hide hR.r2.al.bel
      obtain ⟨ia, ic, eiv, -, -, -⟩ := hR.r2.lst.form
      subst eiv
      obtain ⟨wa, wc, ewv, -, -, -⟩ := hR.lst.form
      subst ewv
      clear hR HOP
      go_wp2_with fail
      go_ret
      exact ⟨rfl, HB.out⟩
end Go.Proofs.Ytcdmkbjibcahcaa
