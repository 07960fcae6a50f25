import Derived.Test.YtlpmpicmpklaoaaDRef
namespace Go.Proofs.Ytlpmpicmpklaoaa
open Go.RowKit Go.Maps Go.Sort
set_option linter.unusedVariables false
set_option linter.unusedSimpArgs false
set_option maxRecDepth 20000

theorem OSl.below2 {w w' : World} {v : Value} {os : List OpV} (h : OSl w v os) (hb : Below w.heap.size w w') : OSl w' v os := by
  obtain ⟨a, cap, rfl, hl, hm, hall, hcell⟩ := h
  refine ⟨a, cap, rfl, hl, hm, fun p hp => ⟨(hall p hp).1.below hb, (hall p hp).2⟩, fun h0 => ?_⟩
  obtain ⟨b, off, rfl, hc⟩ := hcell h0
  refine ⟨b, off, rfl, fun i hi => ?_⟩
  obtain ⟨x0, x1, x2, x3⟩ := hc i hi
  exact ⟨by rw [hb.cell (World.block_lt_of_cell? w _ x0)]; exact x0, by rw [hb.cell (World.block_lt_of_cell? w _ x1)]; exact x1, by rw [hb.cell (World.block_lt_of_cell? w _ x2)]; exact x2, by rw [hb.cell (World.block_lt_of_cell? w _ x3)]; exact x3⟩

theorem ownsRow_keptIf3 {w w' : World} {base c : Nat} {e : TypeId} {v : Value} {n : Nat} {xs : List Value} (h : w.ownsRow base e c v n xs) (hk : ∀ g, v.ownBlock = some g → w'.heap[g]? = w.heap[g]?) : w'.ownsRow base e c v n xs := by
  refine ⟨h.1, ?_⟩
  rcases h.2 with h0 | ⟨g, cap, cur, rfl, h1, hg, r⟩
  · exact .inl h0
  · exact .inr ⟨g, cap, cur, rfl, h1, by rw [hk g rfl]; exact hg, r⟩
theorem ownsRow_form2 {w : World} {base c : Nat} {e : TypeId} {v : Value} {n : Nat} {xs : List Value} (h : w.ownsRow base e c v n xs) : ∃ a cap, v = .slice a n cap ∧ n ≤ cap ∧ cap ≤ maxLen := by
  rcases h.2 with ⟨rfl, rfl⟩ | ⟨g, cap, cur, rfl, _, _, h1, h2, _⟩
  · exact ⟨_, _, rfl, Nat.le_refl _, Nat.zero_le _⟩
  · exact ⟨_, _, rfl, h1, h2⟩

theorem ownsRow_cells2 {w : World} {base : Nat} {e : TypeId} {a : Option Addr} {n cap : Nat} {xs : List Value} (h : w.ownsRow base e 1 (.slice a n cap) n xs) (h0 : 0 < n) : ∃ g, a = some ⟨g, 0, none⟩ ∧ ∀ i u, xs[i]? = some u → w.cell? ⟨g, i, none⟩ = some u := by
  rcases h.2 with ⟨_, e⟩ | ⟨g, cap', cur, e, _, hh, _, _, _, ht⟩
  · omega
  · simp only [Value.slice.injEq] at e
    obtain ⟨rfl, -, -⟩ := e
    refine ⟨g, rfl, fun i u hu => ?_⟩
    rw [cell_of_row _ _ _ _ _ _ hh]
    rw [← ht, List.getElem?_take] at hu
    split at hu
    · rw [← Array.getElem?_toList]; exact hu
    · simp at hu

set_option maxHeartbeats 4000000 in
theorem refusedL_any (w : World) (n s : Int) (v1 v2 v4 v5 : Value) (os : List OpV) (ps : List PutV) (ls : List OpV) (p : List Nat) (h1 : OSl w v1 os) (h2 : PSl w v2 ps) (h4 : OSl w v4 ls) (h3 : BSl w v5 p)
    (ho : os.length ≤ 5864062014800) (hp : ps.length ≤ 5864062014800) (hls : ls.length ≤ 5864062014800) :
    Calls Try.prog 8 #[.int .i64 n, .int .i64 s, v1, v2, v4, v5] w fun e w' => e = .returned (.bool true) ∧ Below w.heap.size w w' := by
  have q0 := ptrEqNil
  cases hgg : goodGeo n s with
  | false =>
    go_enter Try.func8, Try.ntmps8
    go_wp2_with (go_at_call 9; refine (usable_any _ _ _).mono ?_; rintro e w' ⟨rfl, rfl⟩; rw [hgg])
    go_ret
    exact ⟨rfl, Below.refl _ _⟩
  | true =>
    have hgg' := of_decide_eq_true hgg
    obtain ⟨nb, rfl⟩ : ∃ nb : Nat, n = (nb : Int) := ⟨n.toNat, by omega⟩
    obtain ⟨sz, rfl⟩ : ∃ sz : Nat, s = (sz : Int) := ⟨s.toNat, by omega⟩
    have hn1 : 1 ≤ nb := by omega
    have hn2 : nb ≤ 8192 := by omega
    have hs : sz = 128 ∨ sz = 256 ∨ sz = 512 ∨ sz = 1024 := by omega
    obtain ⟨fc, fd, fn, fs⟩ := freshSt_calm nb sz os
    have HF := hide fun W (h : OSl W v1 os) => fresh_any W nb sz hn1 hn2 hs v1 os h ho
    have HS := hide hs
    have H1 := hide h1
    have H2 := hide h2
    have H3 := hide h3
    have H4 := hide h4
    have HFC := hide fc
    have HFD := hide fd
    have HFN := hide fn
    have HFS := hide fs
    clear h1 h2 h3 h4 fc fd fn fs hs hgg'
    go_enter Try.func8, Try.ntmps8
    go_wp2_with (go_at_call 9; refine (usable_any _ _ _).mono ?_; rintro e w' ⟨rfl, hw'⟩; cases hw'; rw [hgg])
    refine (HF.out _ H1.out).mono ?_
    rintro e w1 ⟨L, rfl, hD1⟩
    have HD1 := hide hD1
    clear hD1
    unfold PD
    go_wp2_with fail
    refine (HF.out _ (H1.out.below2 HD1.out.be)).mono ?_
    rintro e w2 ⟨L2, rfl, hD2⟩
    have HD2 := hide (Duo.mk' HD1.out hD2.rep hD2.be hD2.up)
    clear hD2 HD1 HF
    unfold PD
    -- the writes, on both
    go_wp2_with fail
    have HP := hide (puts_grow HD2.out.a HFC.out v2 ps H2.out hp HFD.out)
    rw [HFN.out, HFS.out] at HP
    unfold PD at HP
    refine HP.out.mono ?_
    rintro e w3 ⟨rfl, U, hD3, hG3⟩
    have HD3 := hide (HD2.out.growA hD3.rep hG3)
    clear hD3 hG3 HP HD2
    go_wp2_with fail
    have HP := hide (puts_grow HD3.out.b HFC.out v2 ps H2.out hp HFD.out)
    rw [HFN.out, HFS.out] at HP
    unfold PD at HP
    refine HP.out.mono ?_
    rintro e w4 ⟨rfl, U2, hD4, hG4⟩
    have HD4 := hide (HD3.out.growB hD4.rep hG4)
    clear hD4 hG4 HP HD3
    obtain ⟨pg, pc, pk⟩ := puts_all (freshSt nb sz os) ps
    have HPG := hide pg
    have HPK : Hid (∀ k, (((freshSt nb sz os).puts ps).cache k).length ≤ ps.length) := hide fun k => by
      have := pk k
      rw [HFD.out k] at this
      simp only [List.length_nil] at this
      omega
    clear pg pc pk
    generalize hT : (freshSt nb sz os).puts ps = T at *
    have HTN : Hid (T.nb = nb) := hide (by rw [HPG.out.1, HFN.out])
    have HTS : Hid (T.sz = sz) := hide (by rw [HPG.out.2, HFS.out])
    clear hT HFC HFD HFN HFS HPG
    generalize hL : ({ L with U := U } : Lay) = M at *
    generalize hL2 : ({ L2 with U := U2 } : Lay) = N at *
    have eP : L.p = M.p := by rw [← hL]
    have eP2 : L2.p = N.p := by rw [← hL2]
    rw [eP, eP2]
    clear hL eP hL2 eP2
    obtain ⟨a4, cap4, ev4, hl4, hm4, -, -⟩ := H4.out
    subst ev4
    unfold maxLen at hm4
    go_wp2
    go_loopw [18] (fun x wr => ∃ (i : Nat) (U' : Nat → Prop) (S : St), i ≤ ls.length ∧ x = .int .i64 (i : Int) ∧ Duo w wr { M with U := U' } S N T ∧ T.like S) (fun x _ => ls.length - (intOf x).toNat)
    case atStart => exact ⟨0, M.U, T, Nat.zero_le _, rfl, HD4.out, like_refl T⟩
    case round =>
      clear HD4
      obtain ⟨i, U', S, hi, rfl, hD, hLk⟩ := hrel
      have HD := hide hD
      have HLK := hide hLk
      clear hD hLk
      by_cases hlt : i < ls.length
      · obtain ⟨a, cap, ev4, -, -, hall, hcell⟩ := H4.out
        simp only [Value.slice.injEq] at ev4
        obtain ⟨rfl, -, rfl⟩ := ev4
        obtain ⟨bl, off, rfl, hc⟩ := hcell (by omega)
        obtain ⟨x0, x1, x2, x3⟩ := hc i hlt
        obtain ⟨hbs, hk, hb, hct⟩ := hall ls[i] (List.getElem_mem hlt)
        have hbe := HD.out.a.be
        have k0 : wr.cell? ⟨bl, off + i * 4, none⟩ = some (.int .i64 ls[i].kind) := by rw [hbe.cell (World.block_lt_of_cell? w _ x0)]; exact x0
        have k1 : wr.cell? ⟨bl, off + i * 4 + 1, none⟩ = some (.int .i64 ls[i].block) := by rw [hbe.cell (World.block_lt_of_cell? w _ x1)]; exact x1
        have k2 : wr.cell? ⟨bl, off + i * 4 + 2, none⟩ = some (.int .i64 ls[i].count) := by rw [hbe.cell (World.block_lt_of_cell? w _ x2)]; exact x2
        have k3 : wr.cell? ⟨bl, off + i * 4 + 3, none⟩ = some ls[i].dv := by rw [hbe.cell (World.block_lt_of_cell? w _ x3)]; exact x3
        have HRE := hide (refused_law HD.out.a.rep ls[i] ⟨HD.out.a.bsl hbs, hb, hct, fun hp g hg hu => by have := (hbs.old hp) g hg; have := HD.out.a.up g hu; omega⟩ (fun k => by
          rw [HLK.out.2.2.2.1]
          have := HPK.out k
          omega))
        rw [HLK.out.1, HLK.out.2.1, HTN.out, HTS.out] at HRE
        unfold OpV.val PD at HRE
        generalize ls[i].dv = dv at *
        generalize ls[i].kind = kd at *
        generalize ls[i].block = bk at *
        generalize ls[i].count = ct at *
        clear hall hcell hc x0 x1 x2 x3 hbs hk hb hct hbe
        go_wp2_with (go_at_call 32; refine HRE.out.mono ?_; rintro e w5 ⟨rfl, U5, S5, hR5, hG5, hL5⟩; have HD5 := hide (HD.out.growA hR5 hG5); have HLK5 := hide (like_trans HLK.out hL5); clear hR5 hG5 hL5)
        go_roundw
        case rel => exact ⟨i + 1, U5, S5, by omega, by go_num, HD5.out, HLK5.out⟩
        case measure => simp [intOf]; omega
      · have HPK2 := HPK
        clear HPK
        generalize hMU : ({ M with U := U' } : Lay) = M' at *
        have eP : M.p = M'.p := by rw [← hMU]
        rw [eP]
        clear hMU eP
        have HSN : Hid (S.nb = nb) := hide (HLK.out.1.trans HTN.out)
        have HSS : Hid (S.sz = sz) := hide (HLK.out.2.1.trans HTS.out)
        -- Cached, of both
        go_wp2_with fail
        have HC1 := hide (Cached_any HD.out.a.rep)
        unfold PD at HC1
        rw [keysI_like HLK.out] at HC1
        refine HC1.out.mono ?_
        rintro e w5 ⟨lv, rfl, hrow5, hnil5, hb5⟩
        have HD5 := hide (HD.out.below hb5)
        have HRW5 := hide hrow5
        have HNL5 := hide hnil5
        clear hrow5 hnil5 hb5 HC1 HD
        go_wp2_with fail
        have HC2 := hide (Cached_any HD5.out.b.rep)
        unfold PD at HC2
        refine HC2.out.mono ?_
        rintro e w6 ⟨kv, rfl, hrow6, hnil6, hb6⟩
        have HD6 := hide (HD5.out.below hb6)
        have HRW6 := hide (ownsRow_keptIf3 (w' := w6) HRW5.out fun g hg => hb6.block g (HRW5.out.lt g hg).2)
        have HRK6 := hide hrow6
        have HNK6 := hide hnil6
        clear hrow6 hnil6 hb6 HC2 HD5 HRW5
        have HKB : Hid (∀ x ∈ T.keysI, -9223372036854775808 ≤ x ∧ x ≤ 9223372036854775807) := hide fun x hx => by
          unfold St.keysI at hx
          obtain ⟨k, hk, rfl⟩ := List.mem_map.1 hx
          have := (mem_keysL.1 hk).1
          rw [HTN.out] at this
          omega
        generalize T.keysI = J at *
        obtain ⟨al, cl, el, hl1, hl2⟩ := ownsRow_form2 HRW6.out
        subst el
        unfold maxLen at hl2
        go_wp2
        have HWT : Hid (∀ x, -9223372036854775808 ≤ x ∧ x ≤ 9223372036854775807 → ∀ m, (Calls Try.prog 21 #[.pointer (some ⟨M'.p, 0, none⟩), .int .i64 x] (w6.drewN m) fun e w' => e = .returned (.int .i64 (T.wait x : Int)) ∧ w' = w6.drewN m) ∧ (Calls Try.prog 21 #[.pointer (some ⟨N.p, 0, none⟩), .int .i64 x] (w6.drewN m) fun e w' => e = .returned (.int .i64 (T.wait x : Int)) ∧ w' = w6.drewN m)) := hide fun x hx m => by
          have hd := HD6.out.below (below_drewN (Below.refl _ _) m)
          constructor
          · have := Waiting_any hd.a.rep x hx
            rw [like_wait HLK.out] at this
            exact this
          · exact Waiting_any hd.b.rep x hx
        go_loopw [22] (fun x wr => ∃ (j m : Nat), j ≤ J.length ∧ x = .int .i64 (j : Int) ∧ wr = w6.drewN m) (fun x _ => J.length - (intOf x).toNat)
        case atStart => exact ⟨0, 0, Nat.zero_le _, rfl, rfl⟩
        case round =>
          obtain ⟨j, m, hj, rfl, rfl⟩ := hrel
          by_cases hlj : j < J.length
          · obtain ⟨gl, eal, hcl⟩ := ownsRow_cells2 HRW6.out (by omega)
            subst eal
            have hx0 : (J.map encZ)[j]? = some (.int .i64 (J.getD j 0)) := by rw [List.getElem?_map, getD_get 0 hlj]; rfl
            have c0 := hcl j _ hx0
            have hxb := HKB.out (J.getD j 0) (by rw [List.getD, List.getElem?_eq_getElem hlj]; exact List.getElem_mem hlj)
            have HW := hide fun m => HWT.out (J.getD j 0) hxb m
            clear hx0 hcl hxb
            generalize J.getD j 0 = x at *
            generalize (T.wait x : Int) = wt at *
            have c1 : (w6.drewN (m + 1)).cell? ⟨gl, j, none⟩ = some (.int .i64 x) := c0
            go_wp2_with fail
            go_region_held3 (fun w' => w'.cell? ⟨gl, j, none⟩ = some (.int .i64 x)) (first | exact c1 | assumption)
              (first
                | (go_at_call 21; first | (with_reducible refine ((HW.out (m + 1)).1).mono ?_; rintro e w' ⟨rfl, rfl⟩) | (with_reducible refine ((HW.out (m + 1)).2).mono ?_; rintro e w' ⟨rfl, rfl⟩)))
            go_wp2
            go_roundw
            case rel => exact ⟨j + 1, m + 1, by omega, by go_num, rfl⟩
            case measure => simp [intOf]; omega
          · have HD7 := hide (HD6.out.below (below_drewN (Below.refl _ _) m))
            have HRW7 := hide (ownsRow_low (ownsRow_keptIf3 (w' := w6.drewN m) HRW6.out fun g hg => (below_drewN (Below.refl _ w6) m).block g (HRW6.out.lt g hg).2))
            have HRK7 := hide (ownsRow_low (ownsRow_keptIf3 (w' := w6.drewN m) HRK6.out fun g hg => (below_drewN (Below.refl _ w6) m).block g (HRK6.out.lt g hg).2))
            clear HD6 HRW6 HRK6 HWT HKB
            -- Image, of both
            go_wp2_with fail
            generalize w6.drewN m = w7 at *
            have HIM := hide (Image_any HD7.out.a.rep)
            unfold PD at HIM
            rw [HSN.out, HSS.out, like_img HLK.out] at HIM
            refine HIM.out.mono ?_
            rintro e w8 ⟨rfl, hP8, hb8⟩
            have HD8 := hide (HD7.out.below hb8)
            have HP8 := hide hP8
            have HRW8 := hide (ownsRow_keptIf3 HRW7.out fun g hg => hb8.block g (HRW7.out.lt g hg).2)
            have HRK8 := hide (ownsRow_keptIf3 HRK7.out fun g hg => hb8.block g (HRK7.out.lt g hg).2)
            clear hP8 hb8 HIM HRW7 HRK7 HD7
            go_wp2_with fail
            have HIM := hide (Image_any HD8.out.b.rep)
            unfold PD at HIM
            rw [HTN.out, HTS.out] at HIM
            refine HIM.out.mono ?_
            rintro e w9 ⟨rfl, hP9, hb9⟩
            have HD9 := hide (HD8.out.below hb9)
            have HQ9 := hide (HP8.out.kept (hb9.block _ HP8.out.lt))
            have HP9 := hide hP9
            have HRW9 := hide (ownsRow_keptIf3 HRW8.out fun g hg => hb9.block g (HRW8.out.lt g hg).2)
            have HRK9 := hide (ownsRow_keptIf3 HRK8.out fun g hg => hb9.block g (HRK8.out.lt g hg).2)
            have HIL : Hid ((T.img nb).length = nb * sz) := hide (by
              have := (HD8.out.b.rep.imgLen nb (by rw [HTN.out]; exact Nat.le_refl _)).1
              rw [HTS.out] at this
              exact this)
            clear hP9 hb9 HIM HRW8 HRK8 HD8 HP8
            -- the same
            go_wp2_with fail
            refine (sameInts_rows HRW9.out HRK9.out HNL5.out HNK6.out).mono ?_
            rintro e w10 ⟨rfl, m2, rfl⟩
            have HB10 := hide (below_drewN (Below.refl w9.heap.size w9) m2)
            have HD10 := hide (HD9.out.below HB10.out)
            have HSB : Hid (Calls Try.prog 18 #[sl w7.heap.size (nb * sz), sl w8.heap.size (nb * sz)] (w9.drewN m2) fun e w' => e = .returned (.bool true) ∧ Below (w9.drewN m2).heap.size (w9.drewN m2) w') := hide (by
              have y1 := (HQ9.out.bsl).below HB10.out
              have y2 := (HP9.out.bsl).below HB10.out
              rw [HIL.out] at y1 y2
              refine (same_any _ _ _ _ _ y1 y2).mono ?_
              rintro e w' ⟨rfl, i, rfl⟩
              exact ⟨by simp, below_drewN (Below.refl _ _) i⟩)
            clear HRW9 HRK9 HQ9 HP9 HD9 HIL
            go_wp2_with (go_at_call 18; refine HSB.out.mono ?_; rintro e w11 ⟨rfl, hb11⟩; have HD11 := hide (HD10.out.below hb11); clear hb11)
            clear HSB HD10 HB10
            -- seen, of both
            obtain ⟨V, hV⟩ : ∃ V : Nat → Prop, V = fun b => M'.U b ∨ N.U b := ⟨_, rfl⟩
            have HV : Hid (∀ b, V b → M'.U b ∨ N.U b) := hide fun b h => by rw [hV] at h; exact h
            have HVA : Hid (∀ b, M'.U b → V b) := hide fun b h => by rw [hV]; exact .inl h
            have HVB : Hid (∀ b, N.U b → V b) := hide fun b h => by rw [hV]; exact .inr h
            clear hV
            have HLR := hide (like_reads HLK.out)
            have HVL := hide (fun b (h : V b) => (HV.out b h).elim (HD11.out.a.rep.uLt b) (HD11.out.b.rep.uLt b))
            have HSE := hide (seen_wide (V := V) HD11.out.a HVL.out HVA.out)
            rw [HSN.out] at HSE
            unfold PD at HSE
            refine HSE.out.mono ?_
            rintro e w12 ⟨bv, ev, rfl, hDx, hSx, hGx⟩
            rw [HLR.out.1, HLR.out.2] at hSx
            have HDX := hide (HD11.out.growAS hDx.rep hGx)
            have HSX := hide hSx
            clear hDx hSx hGx HSE HD11 HVL 
            obtain ⟨x1, x2, x3, x4, x5, x6, ef1, ef2⟩ := HSX.out.form
            subst ef1 ef2
            have HVL := hide (fun b (h : V b) => (HV.out b h).elim (HDX.out.a.rep.uLt b) (HDX.out.b.rep.uLt b))
            have HA := hide (SeenIn.mkV HVL.out HSX.out)
            have hbx := (Below.refl w12.heap.size w12).alloc (Nat.le_refl _) (.cells #[.slice x1 x2 x3, .slice x4 x5 x6] 53)
            have HD12 := hide (HDX.out.below hbx)
            clear hbx HSX HDX HVL 
            go_wp2_with fail
            generalize hWW : w12.alloc (.cells #[.slice x1 x2 x3, .slice x4 x5 x6] 53) = w13 at *
            have HWsw13 := hide hWW
            clear hWW
            have HVL := hide (fun b (h : V b) => (HV.out b h).elim (HD12.out.a.rep.uLt b) (HD12.out.b.rep.uLt b))
            have HSE := hide (seen_wide (V := V) HD12.out.b HVL.out HVB.out)
            rw [HTN.out] at HSE
            unfold PD at HSE
            refine HSE.out.mono ?_
            rintro e w14 ⟨bv, ev, rfl, hDx, hSx, hGx⟩
            have HDX := hide (HD12.out.growBS hDx.rep hGx)
            have HAx := hide (HA.out.keptV hGx HVB.out)
            have HSX := hide hSx
            clear hDx hSx hGx HSE HD12 HVL HA
            obtain ⟨y1, y2, y3, y4, y5, y6, ef1, ef2⟩ := HSX.out.form
            subst ef1 ef2
            have HVL := hide (fun b (h : V b) => (HV.out b h).elim (HDX.out.a.rep.uLt b) (HDX.out.b.rep.uLt b))
            have HB := hide (SeenIn.mkV HVL.out HSX.out)
            have hbx := (Below.refl w14.heap.size w14).alloc (Nat.le_refl _) (.cells #[.slice y1 y2 y3, .slice y4 y5 y6] 53)
            have HD13 := hide (HDX.out.below hbx)
            have HA := hide (HAx.out.keptV (Grow.ofBelow (fun _ => False) hbx) (fun _ h => h.elim))
            clear hbx HSX HDX HVL HAx
            have HL1 := hide (like_trans (like_symm (reads_same T nb)) (like_trans HLK.out (reads_same S nb)))
            have HL2 := hide (like_crash2 HL1.out p)
            have HN1 : Hid (((S.reads nb).crash p).nb = nb) := hide ((reads_same S nb).1.trans HSN.out)
            have HN2 : Hid (((T.reads nb).crash p).nb = nb) := hide ((reads_same T nb).1.trans HTN.out)
            have HCL1 : Hid (∀ k, ((S.reads nb).cache k).length < 9223372036854775807) := hide fun k => by rw [(reads_same S nb).2.2.2.1, HLK.out.2.2.2.1]; have := HPK2.out k; omega
            have HCL2 : Hid (∀ k, ((T.reads nb).cache k).length < 9223372036854775807) := hide fun k => by rw [(reads_same T nb).2.2.2.1]; have := HPK2.out k; omega
            go_wp2_with fail
            generalize hWW : w14.alloc (.cells #[.slice y1 y2 y3, .slice y4 y5 y6] 53) = w15 at *
            have HWsw15 := hide hWW
            clear hWW
            have HCR := hide (Crash_any HD13.out.a.rep (HD13.out.a.bsl H3.out) (fun hpos g hg hu => by have := H3.out.old hpos g hg; have := HD13.out.a.up g hu; omega) HCL1.out)
            unfold PD at HCR
            refine HCR.out.mono ?_
            rintro e w16 ⟨rfl, hRx, hGx⟩
            have HD14 := hide (HD13.out.growAS hRx hGx)
            have HAx := hide (HA.out.keptV hGx HVA.out)
            have HBx := hide (HB.out.keptV hGx HVA.out)
            clear hRx hGx HCR HD13 HA HB
            have HA := HAx
            have HB := HBx
            clear HAx HBx
            go_wp2_with fail
            have HCR := hide (Crash_any HD14.out.b.rep (HD14.out.b.bsl H3.out) (fun hpos g hg hu => by have := H3.out.old hpos g hg; have := HD14.out.b.up g hu; omega) HCL2.out)
            unfold PD at HCR
            refine HCR.out.mono ?_
            rintro e w17 ⟨rfl, hRx, hGx⟩
            have HD15 := hide (HD14.out.growBS hRx hGx)
            have HAx := hide (HA.out.keptV hGx HVB.out)
            have HBx := hide (HB.out.keptV hGx HVB.out)
            clear hRx hGx HCR HD14 HA HB
            have HA := HAx
            have HB := HBx
            clear HAx HBx
            generalize (S.reads nb).crash p = S2 at *
            generalize (T.reads nb).crash p = T2 at *
            have HLR2 := hide (like_reads HL2.out)
            go_wp2_with fail
            have HVL := hide (fun b (h : V b) => (HV.out b h).elim (HD15.out.a.rep.uLt b) (HD15.out.b.rep.uLt b))
            have HSE := hide (seen_wide (V := V) HD15.out.a HVL.out HVA.out)
            rw [HN1.out] at HSE
            unfold PD at HSE
            refine HSE.out.mono ?_
            rintro e w18 ⟨bv, ev, rfl, hDx, hSx, hGx⟩
            rw [HLR2.out.1, HLR2.out.2] at hSx
            have HDX := hide (HD15.out.growAS hDx.rep hGx)
            have HAx := hide (HA.out.keptV hGx HVA.out)
            have HBx := hide (HB.out.keptV hGx HVA.out)
            have HSX := hide hSx
            clear hDx hSx hGx HSE HD15 HVL HA HB
            obtain ⟨z1, z2, z3, z4, z5, z6, ef1, ef2⟩ := HSX.out.form
            subst ef1 ef2
            have HVL := hide (fun b (h : V b) => (HV.out b h).elim (HDX.out.a.rep.uLt b) (HDX.out.b.rep.uLt b))
            have HC := hide (SeenIn.mkV HVL.out HSX.out)
            have hbx := (Below.refl w18.heap.size w18).alloc (Nat.le_refl _) (.cells #[.slice z1 z2 z3, .slice z4 z5 z6] 53)
            have HD16 := hide (HDX.out.below hbx)
            have HA := hide (HAx.out.keptV (Grow.ofBelow (fun _ => False) hbx) (fun _ h => h.elim))
            have HB := hide (HBx.out.keptV (Grow.ofBelow (fun _ => False) hbx) (fun _ h => h.elim))
            clear hbx HSX HDX HVL HAx HBx
            go_wp2_with fail
            generalize hWW : w18.alloc (.cells #[.slice z1 z2 z3, .slice z4 z5 z6] 53) = w19 at *
            have HWsw19 := hide hWW
            clear hWW
            have HVL := hide (fun b (h : V b) => (HV.out b h).elim (HD16.out.a.rep.uLt b) (HD16.out.b.rep.uLt b))
            have HSE := hide (seen_wide (V := V) HD16.out.b HVL.out HVB.out)
            rw [HN2.out] at HSE
            unfold PD at HSE
            refine HSE.out.mono ?_
            rintro e w20 ⟨bv, ev, rfl, hDx, hSx, hGx⟩
            have HDX := hide (HD16.out.growBS hDx.rep hGx)
            have HAx := hide (HA.out.keptV hGx HVB.out)
            have HBx := hide (HB.out.keptV hGx HVB.out)
            have HCx := hide (HC.out.keptV hGx HVB.out)
            have HSX := hide hSx
            clear hDx hSx hGx HSE HD16 HVL HA HB HC
            obtain ⟨t1, t2, t3, t4, t5, t6, ef1, ef2⟩ := HSX.out.form
            subst ef1 ef2
            have HVL := hide (fun b (h : V b) => (HV.out b h).elim (HDX.out.a.rep.uLt b) (HDX.out.b.rep.uLt b))
            have HE := hide (SeenIn.mkV HVL.out HSX.out)
            have hbx := (Below.refl w20.heap.size w20).alloc (Nat.le_refl _) (.cells #[.slice t1 t2 t3, .slice t4 t5 t6] 53)
            have HD17 := hide (HDX.out.below hbx)
            have HA := hide (HAx.out.keptV (Grow.ofBelow (fun _ => False) hbx) (fun _ h => h.elim))
            have HB := hide (HBx.out.keptV (Grow.ofBelow (fun _ => False) hbx) (fun _ h => h.elim))
            have HC := hide (HCx.out.keptV (Grow.ofBelow (fun _ => False) hbx) (fun _ h => h.elim))
            clear hbx HSX HDX HVL HAx HBx HCx
            generalize hW21 : w20.alloc (.cells #[.slice t1 t2 t3, .slice t4 t5 t6] 53) = w21 at *
            have hk1 : w21.cell? ⟨w12.heap.size, 0, none⟩ = some (.slice x1 x2 x3) := by rw [cell_of_row _ _ _ _ _ _ HA.out.at_]; rfl
            have hk2 : w21.cell? ⟨w12.heap.size, 1, none⟩ = some (.slice x4 x5 x6) := by rw [cell_of_row _ _ _ _ _ _ HA.out.at_]; rfl
            have hk3 : w21.cell? ⟨w14.heap.size, 0, none⟩ = some (.slice y1 y2 y3) := by rw [cell_of_row _ _ _ _ _ _ HB.out.at_]; rfl
            have hk4 : w21.cell? ⟨w14.heap.size, 1, none⟩ = some (.slice y4 y5 y6) := by rw [cell_of_row _ _ _ _ _ _ HB.out.at_]; rfl
            have hk5 : w21.cell? ⟨w18.heap.size, 0, none⟩ = some (.slice z1 z2 z3) := by rw [cell_of_row _ _ _ _ _ _ HC.out.at_]; rfl
            have hk6 : w21.cell? ⟨w18.heap.size, 1, none⟩ = some (.slice z4 z5 z6) := by rw [cell_of_row _ _ _ _ _ _ HC.out.at_]; rfl
            have hk7 : w21.cell? ⟨w20.heap.size, 0, none⟩ = some (.slice t1 t2 t3) := by rw [cell_of_row _ _ _ _ _ _ HE.out.at_]; rfl
            have hk8 : w21.cell? ⟨w20.heap.size, 1, none⟩ = some (.slice t4 t5 t6) := by rw [cell_of_row _ _ _ _ _ _ HE.out.at_]; rfl
            subst hW21
            go_wp2_with fail
            refine (sameSeen_eq (by simp; omega) HA.out.sa HB.out.sa).mono ?_
            rintro e w22 ⟨rfl, hb22⟩
            have HD18 := hide (HD17.out.below hb22)
            have HC2 := hide (HC.out.keptV (Grow.ofBelow (fun _ => False) hb22) (fun _ h => h.elim))
            have HE2 := hide (HE.out.keptV (Grow.ofBelow (fun _ => False) hb22) (fun _ h => h.elim))
            clear hb22 hk1 hk2 hk3 hk4 hk5 hk6 hk7 hk8
            have hk5 : w22.cell? ⟨w18.heap.size, 0, none⟩ = some (.slice z1 z2 z3) := by rw [cell_of_row _ _ _ _ _ _ HC2.out.at_]; rfl
            have hk6 : w22.cell? ⟨w18.heap.size, 1, none⟩ = some (.slice z4 z5 z6) := by rw [cell_of_row _ _ _ _ _ _ HC2.out.at_]; rfl
            have hk7 : w22.cell? ⟨w20.heap.size, 0, none⟩ = some (.slice t1 t2 t3) := by rw [cell_of_row _ _ _ _ _ _ HE2.out.at_]; rfl
            have hk8 : w22.cell? ⟨w20.heap.size, 1, none⟩ = some (.slice t4 t5 t6) := by rw [cell_of_row _ _ _ _ _ _ HE2.out.at_]; rfl
            go_wp2_with fail
            refine (sameSeen_eq (by simp; omega) HC2.out.sa HE2.out.sa).mono ?_
            rintro e w23 ⟨rfl, hb23⟩
            have HD19 := hide (HD18.out.below hb23)
            go_wp2
            go_ret
            exact ⟨rfl, HD19.out.a.be⟩
end Go.Proofs.Ytlpmpicmpklaoaa
