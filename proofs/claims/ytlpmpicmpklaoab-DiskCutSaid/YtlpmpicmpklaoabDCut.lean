import Derived.Test.YtlpmpicmpklaoabDRun
import Derived.Test.YtlpmpicmpklaoabDTwo
namespace Go.Proofs.Ytlpmpicmpklaoab
open Go.RowKit Go.Maps Go.Sort
set_option linter.unusedVariables false
set_option linter.unusedSimpArgs false
set_option maxRecDepth 20000

theorem OSl.below2 {w w' : World} {v : Value} {os : List OpV} (h : OSl w v os) (hb : Below w.heap.size w w') : OSl w' v os := by
  obtain ⟨a, cap, rfl, hl, hm, hall, hcell⟩ := h
  refine ⟨a, cap, rfl, hl, hm, fun p hp => ⟨(hall p hp).1.below hb, (hall p hp).2⟩, fun h0 => ?_⟩
  obtain ⟨b, off, rfl, hc⟩ := hcell h0
  refine ⟨b, off, rfl, fun i hi => ?_⟩
  obtain ⟨x0, x1, x2, x3⟩ := hc i hi
  exact ⟨by rw [hb.cell (World.block_lt_of_cell? w _ x0)]; exact x0, by rw [hb.cell (World.block_lt_of_cell? w _ x1)]; exact x1, by rw [hb.cell (World.block_lt_of_cell? w _ x2)]; exact x2, by rw [hb.cell (World.block_lt_of_cell? w _ x3)]; exact x3⟩
theorem SeenIn.keptV {w w' : World} {V X X' : Nat → Prop} {g : Nat} {bv ev : Value} {xs : List (Option (List Nat))} {es : List Int} (h : SeenIn w V g bv ev xs es) (hg : Grow w w' X X') (hX : ∀ b, X b → V b) : SeenIn w' V g bv ev xs es := by
  have hlt := (Array.getElem?_eq_some_iff.1 h.at_).1
  exact ⟨(hg.keep g hlt (fun hu => h.nu (hX g hu))).trans h.at_, h.nu, h.sa.kept fun b hb hu => ⟨hg.keep b hb (fun h' => hu (hX b h')), hu⟩⟩
theorem SeenIn.mkV {w : World} {V : Nat → Prop} (hV : ∀ b, V b → b < w.heap.size) {bv ev : Value} {xs : List (Option (List Nat))} {es : List Int} (h : SeenAt w V bv ev xs es) : SeenIn (w.alloc (.cells #[bv, ev] 40)) V w.heap.size bv ev xs es :=
  ⟨Go.heap_alloc_new w _, fun hu => by have := hV _ hu; omega, h.below ((Below.refl _ _).alloc (Nat.le_refl _) _)⟩
theorem RunV.ok.below {w w' : World} {r : RunV} (h : r.ok w) (hb : Below w.heap.size w w') : r.ok w' := ⟨h.kd, h.bl, h.ln, h.bs.below hb⟩

/-- the law's state ahead of the i-th run -/
structure CutInv (w wr : World) (M N : Lay) (UM UN : Nat → Prop) (S T : St) (nb sz i rest : Nat) (off : Bool) : Prop where
  duo : Duo w wr { M with U := UM } S { N with U := UN } T
  cut : Cut S T rest off
  nb : S.nb = nb
  sz : S.sz = sz
  ca : ∀ k, (S.cache k).length ≤ i

set_option maxHeartbeats 4000000 in
theorem cut_any (w : World) (n s st : Int) (v1 v2 v3 : Value) (os : List OpV) (rs : List RunV) (p : List Nat) (h1 : OSl w v1 os) (h2 : RSl w v2 rs) (h3 : BSl w v3 p) (hst : i64ok st)
    (ho : os.length ≤ 5864062014800) (hr : rs.length ≤ 3518437208780) :
    Calls Try.prog 3 #[.int .i64 n, .int .i64 s, v1, v2, .int .i64 st, v3] w fun e w' => e = .returned (.bool true) ∧ Below w.heap.size w w' := by
  have q0 := ptrEqNil
  obtain ⟨st1, st2⟩ := hst
  cases hgg : goodGeo n s with
  | false =>
    go_enter Try.func3, Try.ntmps3
    go_wp2_with (go_at_call 4; refine (usable_any _ _ _).mono ?_; rintro e w' ⟨rfl, rfl⟩; rw [hgg])
    go_ret
    exact ⟨rfl, Below.refl _ _⟩
  | true =>
    by_cases hneg : st < 0
    · go_enter Try.func3, Try.ntmps3
      go_wp2_with (go_at_call 4; refine (usable_any _ _ _).mono ?_; rintro e w' ⟨rfl, rfl⟩; rw [hgg])
      go_ret
      exact ⟨rfl, Below.refl _ _⟩
    have hgg' := of_decide_eq_true hgg
    obtain ⟨nb, rfl⟩ : ∃ nb : Nat, n = (nb : Int) := ⟨n.toNat, by omega⟩
    obtain ⟨sz, rfl⟩ : ∃ sz : Nat, s = (sz : Int) := ⟨s.toNat, by omega⟩
    obtain ⟨q, rfl⟩ : ∃ q : Nat, st = (q : Int) := ⟨st.toNat, by omega⟩
    have hn1 : 1 ≤ nb := by omega
    have hn2 : nb ≤ 8192 := by omega
    have hs : sz = 128 ∨ sz = 256 ∨ sz = 512 ∨ sz = 1024 := by omega
    obtain ⟨fc, fd, fn, fs⟩ := freshSt_calm nb sz os
    have HF := hide fun W (h : OSl W v1 os) => fresh_any W nb sz hn1 hn2 hs v1 os h ho
    have HS := hide hs
    have H1 := hide h1
    have H2 := hide h2
    have H3 := hide h3
    have HFC := hide fc
    have HFD := hide fd
    have HFN := hide fn
    have HFS := hide fs
    clear h1 h2 h3 fc fd fn fs hs hgg'
    go_enter Try.func3, Try.ntmps3
    go_wp2_with (go_at_call 4; refine (usable_any _ _ _).mono ?_; rintro e w' ⟨rfl, hw'⟩; cases hw'; rw [hgg])
    refine (HF.out _ H1.out).mono ?_
    rintro e w1 ⟨L, rfl, hD1⟩
    have HD1 := hide hD1
    clear hD1
    unfold PD
    go_wp2_with fail
    refine (HF.out _ (H1.out.below2 HD1.out.be)).mono ?_
    rintro e w2 ⟨L2, rfl, hD2⟩
    have HD2 := hide (Duo.mk' HD1.out hD2.rep hD2.be hD2.up)
    clear hD2 HD1 HF
    unfold PD
    -- the fuse
    go_wp2_with fail
    have HFU := hide (Fuse_any HD2.out.a.rep (q : Int) ⟨st1, st2⟩)
    unfold PD at HFU
    refine HFU.out.mono ?_
    rintro e w3 ⟨rfl, hR3, hG3, -⟩
    have HI0 : Hid (CutInv w w3 L L2 L.U L2.U ((freshSt nb sz os).fused q) (freshSt nb sz os) nb sz 0 q false) := hide
      ⟨HD2.out.growAS hR3 hG3, ⟨rfl, rfl, rfl, rfl, HFC.out, fun _ => ⟨HFC.out.1, by simp [St.fused] <;> omega⟩, fun e => by simp at e⟩, HFN.out, HFS.out, fun k => by rw [show ((freshSt nb sz os).fused (q : Int)).cache = (freshSt nb sz os).cache from rfl, HFD.out k]; simp⟩
    clear hR3 hG3 HFU HD2 HFC HFD HFN HFS H1
    generalize (freshSt nb sz os).fused (q : Int) = S0 at *
    generalize freshSt nb sz os = T0 at *
    obtain ⟨a2, cap2, ev2, hl2, hm2, -, -⟩ := H2.out
    subst ev2
    unfold maxLen at hm2
    go_wp2
    go_loopw [16, 17, 18] (fun x y z wr => ∃ (i rest : Nat) (off : Bool) (UM UN : Nat → Prop) (S T : St), i ≤ rs.length ∧ x = .int .i64 (rest : Int) ∧ y = .bool off ∧ z = .int .i64 (i : Int) ∧ (rest : Int) ≤ 9223372036854775807 ∧ CutInv w wr L L2 UM UN S T nb sz i rest off) (fun x y z _ => rs.length - (intOf z).toNat)
    case atStart => exact ⟨0, q, false, L.U, L2.U, S0, T0, Nat.zero_le _, rfl, rfl, rfl, st2, HI0.out⟩
    case round =>
      clear HI0
      obtain ⟨i, rest, off, UM, UN, S, T, hi, rfl, rfl, rfl, hrest, hI⟩ := hrel
      have HI := hide hI
      clear hI
      by_cases hlt : i < rs.length
      · obtain ⟨a, cap, ev4, -, -, hall, hcell⟩ := H2.out
        simp only [Value.slice.injEq] at ev4
        obtain ⟨rfl, -, rfl⟩ := ev4
        obtain ⟨bl, of_, rfl, hc⟩ := hcell (by omega)
        have HC := hide (hc i hlt)
        have HOK := hide (hall rs[i] (List.getElem_mem hlt))
        have HK : Hid (∀ wr, Below w.heap.size w wr → wr.cell? ⟨bl, of_ + i * 5, none⟩ = some (.int .i64 rs[i].kind) ∧ wr.cell? ⟨bl, of_ + i * 5 + 1, none⟩ = some (.int .i64 rs[i].put.block) ∧ wr.cell? ⟨bl, of_ + i * 5 + 2, none⟩ = some rs[i].put.tv ∧ wr.cell? ⟨bl, of_ + i * 5 + 3, none⟩ = some (.bool rs[i].put.past) ∧ wr.cell? ⟨bl, of_ + i * 5 + 4, none⟩ = some (.int .i64 rs[i].len)) := hide fun wr hb => by
          obtain ⟨x0, x1, x2, x3, x4⟩ := HC.out
          exact ⟨by rw [hb.cell (World.block_lt_of_cell? w _ x0)]; exact x0, by rw [hb.cell (World.block_lt_of_cell? w _ x1)]; exact x1, by rw [hb.cell (World.block_lt_of_cell? w _ x2)]; exact x2, by rw [hb.cell (World.block_lt_of_cell? w _ x3)]; exact x3, by rw [hb.cell (World.block_lt_of_cell? w _ x4)]; exact x4⟩
        clear hall hcell hc HC
        generalize rs[i] = R at *
        obtain ⟨k0, k1, k2, k3, k4⟩ := HK.out _ HI.out.duo.a.be
        have HSN := hide HI.out.nb
        have HTN : Hid (T.nb = nb) := hide (HI.out.cut.nb.trans HI.out.nb)
        have HTS : Hid (T.sz = sz) := hide (HI.out.cut.sz.trans HI.out.sz)
        have HST := hide (steps_run wr R nb hn1 hn2 HOK.out.kd HOK.out.bl HOK.out.ln)
        have HSL : Hid (R.steps nb ≤ 8192) := hide (by
          unfold RunV.steps
          split
          · have := zs_le R hn1
            omega
          · omega)
        have hrun := HI.out.cut.run (by rw [HI.out.nb]; exact hn1) R
        rw [HI.out.nb] at hrun
        have HRUN := hide hrun
        clear hrun
        generalize hSt : R.steps nb = stp at *
        clear hSt
        have hstp := HSL.out
        unfold RunV.val at HST
        -- how many steps
        go_wp2_with fail
        refine HST.out.mono ?_
        rintro e w4 ⟨rfl, hb4⟩
        have HD4 := hide (HI.out.duo.below hb4)
        clear hb4 HST k0 k1 k2 k3 k4
        obtain ⟨k0, k1, k2, k3, k4⟩ := HK.out _ HD4.out.a.be
        -- the other disk
        go_wp2_with fail
        have HCB : Hid (∀ k, (S.cache k).length + 1 ≤ 9382499223500) := hide fun k => by have := HI.out.ca k; omega
        have HRN := hide (run_any HD4.out.b.rep R (HOK.out.below HD4.out.b.be) rest hrest (by rw [HI.out.cut.cache]; exact HCB.out))
        rw [HRUN.out.1, HTN.out, HTS.out] at HRN
        unfold RunV.val PD at HRN
        refine HRN.out.mono ?_
        rintro e w5 ⟨rfl, UN', hR5, hG5⟩
        have HD5 := hide (HD4.out.growB hR5 hG5)
        clear hR5 hG5 HRN HD4 k0 k1 k2 k3 k4
        obtain ⟨k0, k1, k2, k3, k4⟩ := HK.out _ HD5.out.a.be
        -- the disk with the fuse
        go_wp2_with fail
        have HRN := hide (run_any HD5.out.a.rep R (HOK.out.below HD5.out.a.be) stp (by omega) HCB.out)
        rw [HI.out.nb, HI.out.sz] at HRN
        unfold RunV.val PD at HRN
        refine HRN.out.mono ?_
        rintro e w6 ⟨rfl, UM', hR6, hG6⟩
        have HD6 := hide (HD5.out.growA hR6 hG6)
        clear hR6 hG6 HRN HD5 k0 k1 k2 k3 k4
        have HCA : Hid (∀ k, ((S.runSt R stp).cache k).length ≤ i + 1) := hide fun k => by have := cache_run S R stp k; have := HI.out.ca k; omega
        have HGN : Hid ((S.runSt R stp).nb = nb ∧ (S.runSt R stp).sz = sz) := hide ⟨(geo_run S R stp).1.trans HI.out.nb, (geo_run S R stp).2.trans HI.out.sz⟩
        have HRU := HRUN
        clear HRUN HK HOK HI
        generalize S.runSt R stp = S' at *
        generalize T.runSt R rest = T' at *
        have HON := hide fun (o : Bool) (ho : S'.off = o) => (On_any HD6.out.a.rep).mono fun e w' (h : e = .returned (.bool (!S'.off)) ∧ w' = w6) => (show e = .returned (.bool (!o)) ∧ w' = w6 from ho ▸ h)
        unfold PD at HON
        by_cases hcut : off = true ∨ rest < stp
        · obtain ⟨ce, hcu⟩ := HRU.out.2.1 hcut
          rw [ce]
          have HCU := hide hcu
          have HO2 := hide (HON.out true (hcu.cut rfl).1)
          clear ce hcu HRU HON
          cases off with
          | true =>
            go_wp2_with (go_at_call 9; refine HO2.out.mono ?_; rintro e w' ⟨rfl, hw'⟩; cases hw')
            go_roundw
            case rel => exact ⟨i + 1, 0, true, UM', UN', S', T', by omega, rfl, rfl, by go_num, by omega, HD6.out, HCU.out, HGN.out.1, HGN.out.2, HCA.out⟩
            case measure => simp [intOf]; omega
          | false =>
            have hcut2 : (rest : Int) < (stp : Int) := by have := hcut.resolve_left (by simp); omega
            clear hcut
            go_wp2_with (go_at_call 9; refine HO2.out.mono ?_; rintro e w' ⟨rfl, hw'⟩; cases hw')
            go_roundw
            case rel => exact ⟨i + 1, 0, true, UM', UN', S', T', by omega, rfl, rfl, by go_num, by omega, HD6.out, HCU.out, HGN.out.1, HGN.out.2, HCA.out⟩
            case measure => simp [intOf]; omega
        · have hoff : off = false := by cases off; rfl; exact absurd (.inl rfl) hcut
          subst hoff
          have hle : stp ≤ rest := by omega
          obtain ⟨ce, hcu⟩ := HRU.out.2.2 rfl hle
          rw [ce]
          have HCU := hide hcu
          have HO2 := hide (HON.out false (hcu.on rfl).1)
          have hle2 : ¬ (rest : Int) < (stp : Int) := by omega
          have hsub : (rest : Int) - (stp : Int) = ((rest - stp : Nat) : Int) := by omega
          have HSUB := hide hsub
          clear ce hcu HRU HON hcut hsub
          go_wp2_with (go_at_call 9; refine HO2.out.mono ?_; rintro e w' ⟨rfl, hw'⟩; cases hw')
          go_roundw
          case rel => exact ⟨i + 1, rest - stp, false, UM', UN', S', T', by omega, by rw [← HSUB.out], rfl, by go_num, by omega, HD6.out, HCU.out, HGN.out.1, HGN.out.2, HCA.out⟩
          case measure => simp [intOf]; omega
      · have HCK : Hid (∀ k, (S.cache k).length < 9223372036854775807) := hide fun k => by have := HI.out.ca k; omega
        have HCK2 : Hid (∀ k, (T.cache k).length < 9223372036854775807) := hide fun k => by rw [HI.out.cut.cache]; exact HCK.out k
        have HL2 := hide (HI.out.cut.crash p)
        have HN1 : Hid ((S.crash p).nb = nb) := hide HI.out.nb
        have HN2 : Hid ((T.crash p).nb = nb) := hide (HI.out.cut.nb.trans HI.out.nb)
        have HZ1 : Hid ((S.crash p).sz = sz) := hide HI.out.sz
        have HZ2 : Hid ((T.crash p).sz = sz) := hide (HI.out.cut.sz.trans HI.out.sz)
        have HO1 : Hid ((S.crash p).off = false) := hide rfl
        have HD13 := hide HI.out.duo
        clear HI
        generalize hMU : ({ L with U := UM } : Lay) = M' at *
        have eP : L.p = M'.p := by rw [← hMU]
        generalize hNU : ({ L2 with U := UN } : Lay) = N at *
        have eP2 : L2.p = N.p := by rw [← hNU]
        rw [eP, eP2]
        clear hMU eP hNU eP2
        -- both crash
        go_wp2_with fail
        have HCR := hide (Crash_any HD13.out.a.rep (HD13.out.a.bsl H3.out) (fun hpos g hg hu => by have := H3.out.old hpos g hg; have := HD13.out.a.up g hu; omega) HCK.out)
        unfold PD at HCR
        refine HCR.out.mono ?_
        rintro e w16 ⟨rfl, hRx, hGx⟩
        have HD14 := hide (HD13.out.growAS hRx hGx)
        clear hRx hGx HCR HD13
        go_wp2_with fail
        have HCR := hide (Crash_any HD14.out.b.rep (HD14.out.b.bsl H3.out) (fun hpos g hg hu => by have := H3.out.old hpos g hg; have := HD14.out.b.up g hu; omega) HCK2.out)
        unfold PD at HCR
        refine HCR.out.mono ?_
        rintro e w17 ⟨rfl, hRx, hGx⟩
        have HD15 := hide (HD14.out.growBS hRx hGx)
        clear hRx hGx HCR HD14
        generalize S.crash p = S2 at *
        generalize T.crash p = T2 at *
        have HLR2 := hide (like_reads HL2.out)
        -- seen, of both
        obtain ⟨V, hV⟩ : ∃ V : Nat → Prop, V = fun b => M'.U b ∨ N.U b := ⟨_, rfl⟩
        have HV : Hid (∀ b, V b → M'.U b ∨ N.U b) := hide fun b h => by rw [hV] at h; exact h
        have HVA : Hid (∀ b, M'.U b → V b) := hide fun b h => by rw [hV]; exact .inl h
        have HVB : Hid (∀ b, N.U b → V b) := hide fun b h => by rw [hV]; exact .inr h
        clear hV
        go_wp2_with fail
        have HVL := hide (fun b (h : V b) => (HV.out b h).elim (HD15.out.a.rep.uLt b) (HD15.out.b.rep.uLt b))
        have HSE := hide (seen_wide (V := V) HD15.out.a HVL.out HVA.out)
        rw [HN1.out] at HSE
        unfold PD at HSE
        refine HSE.out.mono ?_
        rintro e w18 ⟨bv, ev, rfl, hDx, hSx, hGx⟩
        have HDX := hide (HD15.out.growAS hDx.rep hGx)
        have HSX := hide hSx
        clear hDx hSx hGx HSE HD15 HVL
        obtain ⟨z1, z2, z3, z4, z5, z6, ef1, ef2⟩ := HSX.out.form
        subst ef1 ef2
        have HVL := hide (fun b (h : V b) => (HV.out b h).elim (HDX.out.a.rep.uLt b) (HDX.out.b.rep.uLt b))
        have HC := hide (SeenIn.mkV HVL.out HSX.out)
        have hbx := (Below.refl w18.heap.size w18).alloc (Nat.le_refl _) (.cells #[.slice z1 z2 z3, .slice z4 z5 z6] 40)
        have HD16 := hide (HDX.out.below hbx)
        clear hbx HSX HDX HVL
        go_wp2_with fail
        generalize hWW : w18.alloc (.cells #[.slice z1 z2 z3, .slice z4 z5 z6] 40) = w19 at *
        have HWsw19 := hide hWW
        clear hWW
        have HVL := hide (fun b (h : V b) => (HV.out b h).elim (HD16.out.a.rep.uLt b) (HD16.out.b.rep.uLt b))
        have HSE := hide (seen_wide (V := V) HD16.out.b HVL.out HVB.out)
        rw [HN2.out] at HSE
        unfold PD at HSE
        refine HSE.out.mono ?_
        rintro e w20 ⟨bv, ev, rfl, hDx, hSx, hGx⟩
        rw [HLR2.out.1, HLR2.out.2] at hSx
        have HDX := hide (HD16.out.growBS hDx.rep hGx)
        have HCx := hide (HC.out.keptV hGx HVB.out)
        have HSX := hide hSx
        clear hDx hSx hGx HSE HD16 HVL HC
        obtain ⟨t1, t2, t3, t4, t5, t6, ef1, ef2⟩ := HSX.out.form
        subst ef1 ef2
        have HVL := hide (fun b (h : V b) => (HV.out b h).elim (HDX.out.a.rep.uLt b) (HDX.out.b.rep.uLt b))
        have HE := hide (SeenIn.mkV HVL.out HSX.out)
        have hbx := (Below.refl w20.heap.size w20).alloc (Nat.le_refl _) (.cells #[.slice t1 t2 t3, .slice t4 t5 t6] 40)
        have HD17 := hide (HDX.out.below hbx)
        have HC := hide (HCx.out.keptV (Grow.ofBelow (fun _ => False) hbx) (fun _ h => h.elim))
        clear hbx HSX HDX HVL HCx
        generalize hW21 : w20.alloc (.cells #[.slice t1 t2 t3, .slice t4 t5 t6] 40) = w21 at *
        have hk5 : w21.cell? ⟨w18.heap.size, 0, none⟩ = some (.slice z1 z2 z3) := by rw [cell_of_row _ _ _ _ _ _ HC.out.at_]; rfl
        have hk6 : w21.cell? ⟨w18.heap.size, 1, none⟩ = some (.slice z4 z5 z6) := by rw [cell_of_row _ _ _ _ _ _ HC.out.at_]; rfl
        have hk7 : w21.cell? ⟨w20.heap.size, 0, none⟩ = some (.slice t1 t2 t3) := by rw [cell_of_row _ _ _ _ _ _ HE.out.at_]; rfl
        have hk8 : w21.cell? ⟨w20.heap.size, 1, none⟩ = some (.slice t4 t5 t6) := by rw [cell_of_row _ _ _ _ _ _ HE.out.at_]; rfl
        subst hW21
        go_wp2_with fail
        refine (sameSeen_eq (by simp; omega) HC.out.sa HE.out.sa).mono ?_
        rintro e w22 ⟨rfl, hb22⟩
        have HD18 := hide (HD17.out.below hb22)
        clear hb22 hk5 hk6 hk7 hk8 HC HE HD17
        -- the images
        have HR1 := hide (reads_same S2 nb)
        have HR2 := hide (reads_same T2 nb)
        generalize S2.reads nb = S3 at *
        generalize T2.reads nb = T3 at *
        have HO3 : Hid (S3.off = false) := hide (HR1.out.2.2.2.2.1.trans HO1.out)
        have HN3 : Hid (S3.nb = nb) := hide (HR1.out.1.trans HN1.out)
        have HZ3 : Hid (S3.sz = sz) := hide (HR1.out.2.1.trans HZ1.out)
        have HN4 : Hid (T3.nb = nb) := hide (HR2.out.1.trans HN2.out)
        have HZ4 : Hid (T3.sz = sz) := hide (HR2.out.2.1.trans HZ2.out)
        have HIM0 : Hid (T3.img nb = S3.img nb) := hide (by rw [like_img HR2.out, like_img HR1.out, like_img HL2.out])
        clear HL2 HLR2 HR1 HR2 HN1 HN2 HZ1 HZ2 HO1
        go_wp2_with fail
        have HIM := hide (Image_any HD18.out.a.rep)
        unfold PD at HIM
        rw [HN3.out, HZ3.out] at HIM
        refine HIM.out.mono ?_
        rintro e w23 ⟨rfl, hP23, hb23⟩
        have HD23 := hide (HD18.out.below hb23)
        have HP23 := hide hP23
        clear hP23 hb23 HIM HD18
        go_wp2_with fail
        have HIM := hide (Image_any HD23.out.b.rep)
        unfold PD at HIM
        rw [HN4.out, HZ4.out, HIM0.out] at HIM
        refine HIM.out.mono ?_
        rintro e w24 ⟨rfl, hP24, hb24⟩
        have HD24 := hide (HD23.out.below hb24)
        have HQ24 := hide (HP23.out.kept (hb24.block _ HP23.out.lt))
        have HP24 := hide hP24
        have HIL : Hid ((S3.img nb).length = nb * sz) := hide (by
          have := (HD23.out.a.rep.imgLen nb (by rw [HN3.out]; exact Nat.le_refl _)).1
          rw [HZ3.out] at this
          exact this)
        clear hP24 hb24 HIM HD23 HP23
        have HSB : Hid (Calls Try.prog 13 #[sl w22.heap.size (nb * sz), sl w23.heap.size (nb * sz)] w24 fun e w' => e = .returned (.bool true) ∧ Below w24.heap.size w24 w') := hide (by
          have y1 := HQ24.out.bsl
          have y2 := HP24.out.bsl
          rw [HIL.out] at y1 y2
          refine (same_any _ _ _ _ _ y1 y2).mono ?_
          rintro e w' ⟨rfl, i, rfl⟩
          exact ⟨by simp, below_drewN (Below.refl _ _) i⟩)
        clear HQ24 HP24 HIL
        go_wp2_with fail
        refine HSB.out.mono ?_
        rintro e w25 ⟨rfl, hb25⟩
        have HD25 := hide (HD24.out.below hb25)
        clear hb25 HSB HD24
        go_wp2_with fail
        have HON := hide ((On_any HD25.out.a.rep).mono fun e w' (h : e = .returned (.bool (!S3.off)) ∧ w' = w25) => (show e = .returned (.bool true) ∧ w' = w25 from by rw [HO3.out] at h; exact h))
        unfold PD at HON
        refine HON.out.mono ?_
        rintro e w26 ⟨rfl, hw26⟩
        cases hw26
        go_wp2
        go_ret
        exact ⟨rfl, HD25.out.a.be⟩
end Go.Proofs.Ytlpmpicmpklaoab
