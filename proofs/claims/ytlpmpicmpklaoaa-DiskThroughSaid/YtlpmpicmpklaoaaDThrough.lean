import Derived.Test.YtlpmpicmpklaoaaDThrM
namespace Go.Proofs.Ytlpmpicmpklaoaa
open Go.RowKit Go.Maps Go.Sort
set_option linter.unusedVariables false
set_option linter.unusedSimpArgs false
set_option maxRecDepth 20000

theorem ErrIs.zero' {w w' : World} {U : Nat → Prop} {v : Value} {b : Int} (h : ErrIs w w' U v b 0) : v = .nilIface := by
  rcases h with ⟨_, e⟩ | ⟨e, _⟩
  · exact e
  · exact absurd rfl e

theorem OSl.below {w w' : World} {v : Value} {os : List OpV} (h : OSl w v os) (hb : Below w.heap.size w w') : OSl w' v os := by
  obtain ⟨a, cap, rfl, hl, hm, hall, hcell⟩ := h
  refine ⟨a, cap, rfl, hl, hm, fun p hp => ⟨(hall p hp).1.below hb, (hall p hp).2⟩, fun h0 => ?_⟩
  obtain ⟨b, off, rfl, hc⟩ := hcell h0
  refine ⟨b, off, rfl, fun i hi => ?_⟩
  obtain ⟨x0, x1, x2, x3⟩ := hc i hi
  exact ⟨by rw [hb.cell (World.block_lt_of_cell? w _ x0)]; exact x0, by rw [hb.cell (World.block_lt_of_cell? w _ x1)]; exact x1, by rw [hb.cell (World.block_lt_of_cell? w _ x2)]; exact x2, by rw [hb.cell (World.block_lt_of_cell? w _ x3)]; exact x3⟩
theorem PSl.below' {w w' : World} {v : Value} {ps : List PutV} (h : PSl w v ps) (hb : Below w.heap.size w w') : PSl w' v ps := by
  obtain ⟨a, cap, rfl, hl, hm, hall, hcell⟩ := h
  refine ⟨a, cap, rfl, hl, hm, fun p hp => ⟨(hall p hp).1.below hb, (hall p hp).2⟩, fun h0 => ?_⟩
  obtain ⟨b, off, rfl, hc⟩ := hcell h0
  refine ⟨b, off, rfl, fun i hi => ?_⟩
  obtain ⟨x0, x1, x2⟩ := hc i hi
  exact ⟨by rw [hb.cell (World.block_lt_of_cell? w _ x0)]; exact x0, by rw [hb.cell (World.block_lt_of_cell? w _ x1)]; exact x1, by rw [hb.cell (World.block_lt_of_cell? w _ x2)]; exact x2⟩

set_option maxHeartbeats 4000000 in
theorem through_law (w0 : World) (n s : Int) (v1 v2 : Value) (P : PutV) (v4 v5 : Value) (os : List OpV) (ps : List PutV) (ls : List OpV) (p : List Nat) (h1 : OSl w0 v1 os) (h2 : PSl w0 v2 ps) (hP : BSl w0 P.tv P.tl ∧ i64ok P.block) (h4 : OSl w0 v4 ls) (h3 : BSl w0 v5 p)
    (ho : os.length ≤ 5864062014800) (hp : ps.length ≤ 3518437208780) (hls : ls.length ≤ 2932031007320) :
    Calls Try.prog 3 #[.int .i64 n, .int .i64 s, v1, v2, .agg #[.int .i64 P.block, P.tv, .bool P.past], v4, v5] w0 fun e w' => e = .returned (.bool true) ∧ Below w0.heap.size w0 w' := by
  have q0 := ptrEqNil
  have q1 := nilNe
  have hB0 : Below w0.heap.size w0 (w0.alloc (.cells #[.int .i64 P.block, P.tv, .bool P.past] 26)) := (Below.refl _ _).alloc (Nat.le_refl _) _
  have hbx := Go.heap_alloc_new w0 (.cells #[.int .i64 P.block, P.tv, .bool P.past] 26)
  cases hgg : goodGeo n s with
  | false =>
    clear hbx
    go_enter Try.func3, Try.ntmps3
    go_wp2_with (go_at_call 9; refine (usable_any _ _ _).mono ?_; rintro e w' ⟨rfl, rfl⟩; rw [hgg])
    go_ret
    exact ⟨rfl, hB0⟩
  | true =>
    have hgg' := of_decide_eq_true hgg
    obtain ⟨nb, rfl⟩ : ∃ nb : Nat, n = (nb : Int) := ⟨n.toNat, by omega⟩
    obtain ⟨sz, rfl⟩ : ∃ sz : Nat, s = (sz : Int) := ⟨s.toNat, by omega⟩
    have hn1 : 1 ≤ nb := by omega
    have hn2 : nb ≤ 8192 := by omega
    have hs : sz = 128 ∨ sz = 256 ∨ sz = 512 ∨ sz = 1024 := by omega
    obtain ⟨fc, fd, fn, fs⟩ := freshSt_calm nb sz os
    have HF := hide (fresh_any _ nb sz hn1 hn2 hs v1 os (h1.below hB0) ho)
    have HS := hide hs
    have H2 := hide (h2.below' hB0)
    have H3 := hide (h3.below hB0)
    have H4 := hide (h4.below hB0)
    have HPB : Hid (BSl _ P.tv P.tl ∧ i64ok P.block) := hide ⟨hP.1.below hB0, hP.2⟩
    have HFC := hide fc
    have HFD := hide fd
    have HFN := hide fn
    have HFS := hide fs
    have HB0 := hide hB0
    have HBX : Hid (∀ wr, Below (w0.alloc (.cells #[.int .i64 P.block, P.tv, .bool P.past] 26)).heap.size (w0.alloc (.cells #[.int .i64 P.block, P.tv, .bool P.past] 26)) wr → wr.cell? ⟨w0.heap.size, 0, none⟩ = some (.int .i64 P.block) ∧ wr.cell? ⟨w0.heap.size, 1, none⟩ = some P.tv ∧ wr.cell? ⟨w0.heap.size, 2, none⟩ = some (.bool P.past)) := hide fun wr hb => by
      have hh := (hb.block w0.heap.size (by simp)).trans hbx
      exact ⟨by rw [cell_of_row _ _ _ _ _ _ hh]; rfl, by rw [cell_of_row _ _ _ _ _ _ hh]; rfl, by rw [cell_of_row _ _ _ _ _ _ hh]; rfl⟩
    clear h1 h2 h3 h4 hP fc fd fn fs hs hgg' hB0 hbx
    go_enter Try.func3, Try.ntmps3
    go_wp2_with (first
      | (go_at_call 9; refine (usable_any _ _ _).mono ?_; rintro e w' ⟨rfl, hw'⟩; cases hw'; rw [hgg])
      | (go_at_call 10; refine HF.out.mono ?_; rintro e w1 ⟨L, rfl, hD1⟩; have HD1 := hide hD1; clear hD1; unfold PD))
    generalize hW0 : w0.alloc (.cells #[.int .i64 P.block, P.tv, .bool P.past] 26) = w at *
    clear hW0
    have HP := hide (puts_any HD1.out HFC.out v2 ps H2.out (by omega) HFD.out)
    rw [HFN.out, HFS.out] at HP
    unfold PD at HP
    refine HP.out.mono ?_
    rintro e w2 ⟨rfl, U, hD2⟩
    have HD2 := hide hD2
    clear hD2 HP
    obtain ⟨pg, pc, pk⟩ := puts_all (freshSt nb sz os) ps
    have HPG := hide pg
    have HPC := hide (pc HFC.out (by rw [HFN.out]; exact hn1))
    have HPK : Hid (∀ k, (((freshSt nb sz os).puts ps).cache k).length ≤ ps.length) := hide fun k => by
      have := pk k
      rw [HFD.out k] at this
      simp only [List.length_nil] at this
      omega
    clear pg pc pk
    generalize hT : (freshSt nb sz os).puts ps = T at *
    have HTN : Hid (T.nb = nb) := hide (by rw [HPG.out.1, HFN.out])
    have HTS : Hid (T.sz = sz) := hide (by rw [HPG.out.2, HFS.out])
    clear hT HFC HFD HFN HFS HPG
    generalize hL : ({ L with U := U } : Lay) = M at *
    have eP : L.p = M.p := by rw [← hL]
    rw [eP]
    clear hL eP HD1
    -- Through
    have HBG := hide (block_gen nb hn1 hn2)
    have HKE : Hid (blk P.block nb = P.at_ nb) := hide rfl
    have hKlt : P.at_ nb < nb := P.at_lt hn1
    have HBY : Hid (∀ wr, Below w.heap.size w wr → Calls Try.prog 13 #[.agg #[.int .i64 P.block, P.tv, .bool P.past], .int .i64 (sz : Int)] wr fun e w' => ∃ g, e = .returned (sl g sz) ∧ wr.heap.size ≤ g ∧ PieceAt w' g (P.bs sz) ∧ Below wr.heap.size wr w') := hide fun wr hb =>
      bytes_any wr P sz HS.out (HPB.out.1.below hb)
    have HBL : Hid ((P.bs sz).length = sz) := hide (bs_len _ _)
    obtain ⟨bx0, bx1, bx2⟩ := HBX.out _ HD2.out.be
    go_wp2_with (first
      | (go_at_call 12; refine (HBG.out _ _ _ _ HPB.out.2).mono ?_; rintro e wa ⟨rfl, hba⟩; rw [HKE.out]; have HD3 := hide (HD2.out.below hba); obtain ⟨by0, by1, by2⟩ := HBX.out _ HD3.out.be; clear hba)
      | (go_at_call 13; refine (HBY.out _ HD3.out.be).mono ?_; rintro e wb ⟨gp, rfl, -, hpc, hbb⟩; have HD4 := hide (HD3.out.below hbb); have HPC4 := hide hpc; clear hbb hpc))
    generalize P.at_ nb = K at *
    generalize P.bs sz = BB at *
    have HTH := hide (through_calm HD4.out.rep HPC.out (k := K) (by rw [HTN.out]; exact hKlt) HPC4.out (by rw [HBL.out, HTS.out]) HTS.out.symm)
    have HST := hide (through_stands HPC.out (k := K) (l := BB) (by rw [HTN.out]; exact hKlt) (by rw [HBL.out, HTS.out]))
    have HGE : Hid ((T.through (K : Nat) BB).nb = nb ∧ (T.through (K : Nat) BB).sz = sz ∧ ∀ k, ((T.through (K : Nat) BB).cache k).length ≤ ps.length) := hide (by
      rw [calm_through HPC.out (by rw [HTN.out]; exact hKlt) (by rw [HBL.out, HTS.out])]
      refine ⟨HTN.out, HTS.out, fun k => ?_⟩
      show (updF T.cache K [] k).length ≤ _
      by_cases e : k = K
      · rw [e, updF_same]; simp
      · rw [updF_other _ _ e]; exact HPK.out k)
    unfold PD at HTH
    refine HTH.out.mono ?_
    rintro e w5 ⟨rfl, U5, hR5, hG5⟩
    have HD5 := hide (HD4.out.grow hR5 hG5)
    clear hR5 hG5 HTH HPC4 HD2 HD3 HD4 HPC HPK HTN HTS
    generalize T.through (K : Nat) BB = T5 at *
    obtain ⟨a4, cap4, ev4, hl4, hm4, -, -⟩ := H4.out
    subst ev4
    unfold maxLen at hm4
    go_wp2
    go_loopw [20] (fun x wr => ∃ (i : Nat) (U' : Nat → Prop) (S : St), i ≤ ls.length ∧ x = .int .i64 (i : Int) ∧ Dk w wr { M with U := U' } S ∧ S.stands K BB ∧ S.nb = nb ∧ S.sz = sz ∧ ∀ k, (S.cache k).length ≤ ps.length + i) (fun x _ => ls.length - (intOf x).toNat)
    case atStart => exact ⟨0, U5, T5, Nat.zero_le _, rfl, HD5.out, HST.out, HGE.out.1, HGE.out.2.1, HGE.out.2.2⟩
    case round =>
      clear HD5 HST HGE
      obtain ⟨i, U', S, hi, rfl, hD, hSt, hSn, hSs, hSc⟩ := hrel
      have HD := hide hD
      have HST := hide hSt
      have HSN := hide hSn
      have HSS := hide hSs
      have HSC := hide hSc
      clear hD hSt hSn hSs hSc
      obtain ⟨bx0, bx1, bx2⟩ := HBX.out _ HD.out.be
      by_cases hlt : i < ls.length
      · obtain ⟨a, cap, ev4, -, -, hall, hcell⟩ := H4.out
        simp only [Value.slice.injEq] at ev4
        obtain ⟨rfl, -, rfl⟩ := ev4
        obtain ⟨bl, off, rfl, hc⟩ := hcell (by omega)
        obtain ⟨x0, x1, x2, x3⟩ := hc i hlt
        obtain ⟨hbs, hk, hb, hct⟩ := hall ls[i] (List.getElem_mem hlt)
        have HX : Hid (∀ wr, Below w.heap.size w wr → wr.cell? ⟨bl, off + i * 4, none⟩ = some (.int .i64 ls[i].kind) ∧ wr.cell? ⟨bl, off + i * 4 + 1, none⟩ = some (.int .i64 ls[i].block) ∧ wr.cell? ⟨bl, off + i * 4 + 2, none⟩ = some (.int .i64 ls[i].count) ∧ wr.cell? ⟨bl, off + i * 4 + 3, none⟩ = some ls[i].dv) := hide fun wr hbe =>
          ⟨by rw [hbe.cell (World.block_lt_of_cell? w _ x0)]; exact x0, by rw [hbe.cell (World.block_lt_of_cell? w _ x1)]; exact x1, by rw [hbe.cell (World.block_lt_of_cell? w _ x2)]; exact x2, by rw [hbe.cell (World.block_lt_of_cell? w _ x3)]; exact x3⟩
        have HOK : Hid (∀ wr, Dk w wr { M with U := U' } S → ls[i].ok wr { M with U := U' }) := hide fun wr hd => ⟨hd.bsl hbs, hb, hct, fun hp g hg hu => by have := (hbs.old hp) g hg; have := hd.up g hu; omega⟩
        have HCC : Hid (∀ k, (S.cache k).length + 1 ≤ 9382499223500) := hide fun k => by have := HSC.out k; omega
        generalize ls[i] = o at *
        obtain ⟨k0, k1, k2, k3⟩ := HX.out _ HD.out.be
        have HTO := hide fun wr => touches_any wr o K
        unfold OpV.val at HTO
        clear hall hcell hc x0 x1 x2 x3 hbs hk hb hct
        cases hto : o.touches K with
        | true =>
          rw [hto] at HTO
          have HSC2 : Hid (∀ k, (S.cache k).length ≤ ps.length + (i + 1)) := hide fun k => by have := HSC.out k; omega
          go_wp2_with (go_at_call 15; refine (HTO.out _).mono ?_; rintro e wa ⟨rfl, hba⟩; have HD2 := hide (HD.out.below hba); clear hba)
          have hde : S.durErr (K : Int) = 0 := stands_dur HST.out (by rw [HSN.out]; exact hKlt)
          have HDU := hide (Durable_any HD2.out.rep (K : Int))
          rw [hde, Int.toNat_natCast, HST.out.1] at HDU
          unfold PD at HDU
          go_wp2_with fail
          refine HDU.out.mono ?_
          rintro e w5 ⟨v, u, rfl, hE, hV0, -, hR5, hG5⟩
          obtain rfl := hE.zero'
          obtain ⟨l, hl, gl, rfl, -, hpl, -⟩ := hV0 rfl
          have el : BB = l := Option.some.inj hl
          subst el
          have HPL := hide hpl
          have HD5 := hide (HD2.out.grow hR5 hG5)
          clear hV0 hR5 hG5 hl hpl HDU hde
          obtain ⟨bx0, bx1, bx2⟩ := HBX.out _ HD5.out.be
          have HSB : Hid (∀ wr gp, BSl wr (sl gl BB.length) BB → PieceAt wr gp BB → Calls Try.prog 18 #[sl gl BB.length, sl gp sz] wr fun e w' => e = .returned (.bool true) ∧ Below wr.heap.size wr w') := hide fun wr gp y1 hpc => by
            have y2 := hpc.bsl
            rw [HBL.out] at y2
            refine (same_any _ _ _ _ wr y1 y2).mono ?_
            rintro e w' ⟨rfl, j, rfl⟩
            exact ⟨by simp, below_drewN (Below.refl _ _) j⟩
          go_wp2_with (first
            | (go_at_call 13; refine (HBY.out _ HD5.out.be).mono ?_; rintro e wb ⟨gp, rfl, -, hpc, hbb⟩; have HD6 := hide (HD5.out.below hbb); have HPC := hide hpc; have HPL6 := hide (HPL.out.bsl.below hbb); clear hbb hpc)
            | (go_at_call 18; refine (HSB.out _ _ HPL6.out HPC.out).mono ?_; rintro e wc ⟨rfl, hbc⟩; have HD7 := hide (HD6.out.below hbc); clear hbc))
          go_roundw
          case rel => exact ⟨i + 1, U', S, by omega, by go_num, HD7.out, HST.out, HSN.out, HSS.out, fun k => HSC2.out k⟩
          case measure => simp [intOf]; omega
        | false =>
          rw [hto] at HTO
          go_wp2_with (first
            | (go_at_call 15; refine (HTO.out _).mono ?_; rintro e wa ⟨rfl, hba⟩; have HD2 := hide (HD.out.below hba); obtain ⟨m0, m1, m2, m3⟩ := HX.out _ HD2.out.be; clear hba))
          have HCA := hide (call_any HD2.out.rep o (HOK.out _ HD2.out) HCC.out)
          unfold OpV.val PD at HCA
          refine HCA.out.mono ?_
          rintro e w3 ⟨rfl, U3, hR3, hG3⟩
          have HD3 := hide (HD2.out.grow hR3 hG3)
          have HST3 := hide (call_stands HST.out o hto)
          have HSN3 : Hid ((S.call o).nb = nb) := hide ((geo_call S o).1.trans HSN.out)
          have HSS3 : Hid ((S.call o).sz = sz) := hide ((geo_call S o).2.trans HSS.out)
          have HSC3 : Hid (∀ k, ((S.call o).cache k).length ≤ ps.length + (i + 1)) := hide fun k => by
            have := HSC.out k
            have := cache_call S o k
            omega
          clear hR3 hG3 HCA HD2 m0 m1 m2 m3 k0 k1 k2 k3
          generalize S.call o = V at *
          have hde : V.durErr (K : Int) = 0 := stands_dur HST3.out (by rw [HSN3.out]; exact hKlt)
          have HDU := hide (Durable_any HD3.out.rep (K : Int))
          rw [hde, Int.toNat_natCast, HST3.out.1] at HDU
          unfold PD at HDU
          go_wp2_with fail
          refine HDU.out.mono ?_
          rintro e w5 ⟨v, u, rfl, hE, hV0, -, hR5, hG5⟩
          obtain rfl := hE.zero'
          obtain ⟨l, hl, gl, rfl, -, hpl, -⟩ := hV0 rfl
          have el : BB = l := Option.some.inj hl
          subst el
          have HPL := hide hpl
          have HD5 := hide (HD3.out.grow hR5 hG5)
          clear hV0 hR5 hG5 hl hpl HDU hde
          obtain ⟨bx0, bx1, bx2⟩ := HBX.out _ HD5.out.be
          have HSB : Hid (∀ wr gp, BSl wr (sl gl BB.length) BB → PieceAt wr gp BB → Calls Try.prog 18 #[sl gl BB.length, sl gp sz] wr fun e w' => e = .returned (.bool true) ∧ Below wr.heap.size wr w') := hide fun wr gp y1 hpc => by
            have y2 := hpc.bsl
            rw [HBL.out] at y2
            refine (same_any _ _ _ _ wr y1 y2).mono ?_
            rintro e w' ⟨rfl, j, rfl⟩
            exact ⟨by simp, below_drewN (Below.refl _ _) j⟩
          go_wp2_with (first
            | (go_at_call 13; refine (HBY.out _ HD5.out.be).mono ?_; rintro e wb ⟨gp, rfl, -, hpc, hbb⟩; have HD6 := hide (HD5.out.below hbb); have HPC := hide hpc; have HPL6 := hide (HPL.out.bsl.below hbb); clear hbb hpc)
            | (go_at_call 18; refine (HSB.out _ _ HPL6.out HPC.out).mono ?_; rintro e wc ⟨rfl, hbc⟩; have HD7 := hide (HD6.out.below hbc); clear hbc))
          go_roundw
          case rel => exact ⟨i + 1, U3, V, by omega, by go_num, HD7.out, HST3.out, HSN3.out, HSS3.out, fun k => HSC3.out k⟩
          case measure => simp [intOf]; omega
      · -- the crash
        go_wp2_with fail
        have HC3 := hide (Crash_any HD.out.rep (HD.out.bsl H3.out) (fun hpos g hg hu => by have := H3.out.old hpos g hg; have := HD.out.up g hu; omega) (fun k => by have := HSC.out k; omega))
        unfold PD at HC3
        refine HC3.out.mono ?_
        rintro e w8 ⟨rfl, hR8, hG8⟩
        have HD8 := hide (HD.out.growS hR8 hG8)
        have HSA := hide (crash_stands HST.out p)
        have hof : (S.crash p).off = false := rfl
        have HRE := hide (stands_read HSA.out (by show K < S.nb; rw [HSN.out]; exact hKlt) hof)
        clear hR8 hG8 HC3 hof
        generalize S.crash p = V at *
        go_wp2_with fail
        have HRD := hide (Read_any HD8.out.rep (K : Int))
        rw [HRE.out.1, Int.toNat_natCast, HRE.out.2] at HRD
        unfold PD at HRD
        refine HRD.out.mono ?_
        rintro e w9 ⟨v, u, rfl, hE, hV0, -, hR9, hG9⟩
        obtain rfl := hE.zero'
        obtain ⟨l, hl, gl, rfl, -, hpl, -⟩ := hV0 rfl
        have el : BB = l := Option.some.inj hl
        subst el
        have HPL := hide hpl
        have HD9 := hide (HD8.out.growS hR9 hG9)
        obtain ⟨bz0, bz1, bz2⟩ := HBX.out _ HD9.out.be
        have q2 := nilEq
        have hwt : (V.read (K : Int)).wait (K : Int) = 0 := by
          unfold St.wait
          split
          · rw [Int.toNat_natCast, (read_like V K).2.2.2.1, HSA.out.2]; rfl
          · rfl
        have HWT := hide hwt
        have HSB : Hid (∀ wr gp, BSl wr (sl gl BB.length) BB → PieceAt wr gp BB → Calls Try.prog 18 #[sl gl BB.length, sl gp sz] wr fun e w' => e = .returned (.bool true) ∧ Below wr.heap.size wr w') := hide fun wr gp y1 hpc => by
          have y2 := hpc.bsl
          rw [HBL.out] at y2
          refine (same_any _ _ _ _ wr y1 y2).mono ?_
          rintro e w' ⟨rfl, j, rfl⟩
          exact ⟨by simp, below_drewN (Below.refl _ _) j⟩
        clear hV0 hR9 hG9 hl hpl HRD HD8 hwt
        go_wp2_with (first
          | (go_at_call 13; refine (HBY.out _ HD9.out.be).mono ?_; rintro e wb ⟨gq, rfl, -, hpc, hbb⟩; have HD10 := hide (HD9.out.below hbb); have HPC := hide hpc; have HPL10 := hide (HPL.out.bsl.below hbb); clear hbb hpc)
          | (go_at_call 18; refine (HSB.out _ _ HPL10.out HPC.out).mono ?_; rintro e wc ⟨rfl, hbc⟩; have HD11 := hide (HD10.out.below hbc); clear hbc))
        have HWA := hide (Waiting_any HD11.out.rep (K : Int) (by omega))
        rw [HWT.out] at HWA
        unfold PD at HWA
        refine HWA.out.mono ?_
        rintro e w12 ⟨rfl, hw12⟩
        cases hw12
        go_wp2
        go_ret
        exact ⟨rfl, HB0.out.trans (HD11.out.be.mono HB0.out.size)⟩
end Go.Proofs.Ytlpmpicmpklaoaa
