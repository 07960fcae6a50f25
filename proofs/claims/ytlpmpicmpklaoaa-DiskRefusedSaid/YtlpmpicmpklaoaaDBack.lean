import Derived.Test.YtlpmpicmpklaoaaDTwo
namespace Go.Proofs.Ytlpmpicmpklaoaa
open Go.RowKit Go.Maps Go.Sort
set_option linter.unusedVariables false
set_option linter.unusedSimpArgs false
set_option maxRecDepth 20000

theorem ErrIs.nil0 {w w' : World} {U : Nat → Prop} {v : Value} {b : Int} (h : ErrIs w w' U v b 0) : v = .nilIface := by
  rcases h with ⟨_, e⟩ | ⟨e, _⟩
  · exact e
  · exact absurd rfl e
theorem ErrIs.some' {w w' : World} {U : Nat → Prop} {v : Value} {b n : Int} (h : ErrIs w w' U v b n) (hn : n ≠ 0) : ∃ g, v = errV g := by
  rcases h with ⟨e, _⟩ | ⟨_, g, e, _⟩
  · exact absurd e hn
  · exact ⟨g, e⟩
/-- a disk that reads f, whole -/
structure Full (T : St) (nb sz : Nat) (f : Nat → List Nat) : Prop where
  nb : T.nb = nb
  sz : T.sz = sz
  med : ∀ i, T.med i = some (f i)
  cache : ∀ i, T.cache i = []
  off : T.off = false
theorem Full.durErr {T : St} {nb sz : Nat} {f : Nat → List Nat} (h : Full T nb sz f) {i : Nat} (hi : i < nb) : T.durErr i = 0 := by
  unfold St.durErr
  rw [if_neg (by rw [h.nb]; omega), Int.toNat_natCast, h.med]
  simp
theorem Full.val {T : St} {nb sz : Nat} {f : Nat → List Nat} (h : Full T nb sz f) (i : Nat) : T.val i = some (f i) := by
  unfold St.val
  rw [h.cache]; exact h.med i
theorem Full.readErr {T : St} {nb sz : Nat} {f : Nat → List Nat} (h : Full T nb sz f) {i : Nat} (hi : i < nb) : T.readErr i = 0 := by
  unfold St.readErr
  rw [if_neg (by rw [h.nb]; omega), if_neg (by rw [h.off]; simp), Int.toNat_natCast, h.val]
  simp
theorem Full.like {T V : St} {nb sz : Nat} {f : Nat → List Nat} (h : Full T nb sz f) (k : T.like V) : Full V nb sz f := by
  obtain ⟨h1, h2, h3, h4, h5, h6⟩ := k
  exact ⟨h1.trans h.nb, h2.trans h.sz, fun i => by rw [h3]; exact h.med i, fun i => by rw [h4]; exact h.cache i, h5.trans h.off⟩
theorem Full.img {T V : St} {nb sz : Nat} {f : Nat → List Nat} (h : Full T nb sz f) (hf : ∀ i, i < nb → f i = V.dur i) : T.img nb = V.img nb :=
  img_congr nb fun i hi => by rw [← hf i hi]; unfold St.dur; rw [h.med]; rfl

set_option maxHeartbeats 4000000 in
theorem back_any (w : World) (n s : Int) (v1 v2 : Value) (os : List OpV) (ps : List PutV) (h1 : OSl w v1 os) (h2 : PSl w v2 ps) (ho : os.length ≤ 5864062014800) (hp : ps.length ≤ 5864062014800) :
    Calls Try.prog 4 #[.int .i64 n, .int .i64 s, v1, v2] w fun e w' => e = .returned (.bool true) ∧ Below w.heap.size w w' := by
  have q0 := ptrEqNil
  have q1 := nilNe
  have q2 := ifaceNe
  cases hgg : goodGeo n s with
  | false =>
    go_enter Try.func4, Try.ntmps4
    go_wp2_with (go_at_call 9; refine (usable_any _ _ _).mono ?_; rintro e w' ⟨rfl, rfl⟩; rw [hgg])
    go_ret
    exact ⟨rfl, Below.refl _ _⟩
  | true =>
    have hgg' := of_decide_eq_true hgg
    obtain ⟨nb, rfl⟩ : ∃ nb : Nat, n = (nb : Int) := ⟨n.toNat, by omega⟩
    obtain ⟨sz, rfl⟩ : ∃ sz : Nat, s = (sz : Int) := ⟨s.toNat, by omega⟩
    have hn1 : 1 ≤ nb := by omega
    have hn2 : nb ≤ 8192 := by omega
    have hs : sz = 128 ∨ sz = 256 ∨ sz = 512 ∨ sz = 1024 := by omega
    have hs1 : sz ≤ 281474976710656 := by omega
    obtain ⟨fc, fd, fn, fs⟩ := freshSt_calm nb sz os
    have HF := hide (fresh_any w nb sz hn1 hn2 hs v1 os h1 ho)
    have HS := hide hs
    have H2 := hide h2
    have HFC := hide fc
    have HFD := hide fd
    have HFN := hide fn
    have HFS := hide fs
    clear h1 h2 fc fd fn fs hs hgg'
    go_enter Try.func4, Try.ntmps4
    go_wp2_with (first
      | (go_at_call 9; refine (usable_any _ _ _).mono ?_; rintro e w' ⟨rfl, hw'⟩; cases hw'; rw [hgg])
      | (go_at_call 10; refine HF.out.mono ?_; rintro e w1 ⟨L, rfl, hD1⟩; have HD1 := hide hD1; clear hD1; unfold PD))
    have HP := hide (puts_any HD1.out HFC.out v2 ps H2.out hp HFD.out)
    rw [HFN.out, HFS.out] at HP
    unfold PD at HP
    refine HP.out.mono ?_
    rintro e w2 ⟨rfl, U, hD2⟩
    have HD2 := hide hD2
    clear hD2 HP
    obtain ⟨pg, pc, pk⟩ := puts_all (freshSt nb sz os) ps
    have HPG := hide pg
    clear pg pc pk
    generalize hT : (freshSt nb sz os).puts ps = T at *
    have HTN : Hid (T.nb = nb) := hide (by rw [HPG.out.1, HFN.out])
    have HTS : Hid (T.sz = sz) := hide (by rw [HPG.out.2, HFS.out])
    clear hT HFC HFD HFN HFS HPG
    generalize hL : ({ L with U := U } : Lay) = M at *
    have eP : L.p = M.p := by rw [← hL]
    rw [eP]
    clear hL eP HD1
    -- Image
    go_wp2_with fail
    have HIM := hide (Image_any HD2.out.rep)
    unfold PD at HIM
    rw [HTN.out, HTS.out] at HIM
    refine HIM.out.mono ?_
    rintro e w3 ⟨rfl, hP3, hb3⟩
    have HD3 := hide (HD2.out.below hb3)
    have hdl : ∀ i, i < nb → (T.dur i).length = sz := fun i hi => by
      have := (HD2.out.rep.durLen (k := i) (by rw [HTN.out]; exact hi)).1
      rw [this, HTS.out]
    have HDL := hide hdl
    have HIL := hide (img_len nb hdl)
    have HCU := hide (img_cut nb hdl)
    have HBI := hide hP3.bsl
    rw [HIL.out] at HBI
    clear hb3 hP3 HIM hdl HD2
    -- Load
    go_wp2_with fail
    have HLO := hide (Load_any w3 nb sz _ _ HBI.out HIL.out hn1 hn2 HS.out)
    refine HLO.out.mono ?_
    rintro e w4 ⟨N, rfl, hR4, hb4, hU4⟩
    have HD4 := hide (Duo.mk' HD3.out hR4 hb4 hU4)
    have HFU : Hid (Full (St.fresh nb sz (cutOf (T.img nb) sz)) nb sz (cutOf (T.img nb) sz)) := hide ⟨rfl, rfl, fun _ => rfl, fun _ => rfl, rfl⟩
    clear hR4 hb4 hU4 HLO HD3
    generalize St.fresh nb sz (cutOf (T.img nb) sz) = V at *
    unfold PD
    go_wp2
    go_loopw [15] (fun x wr => ∃ (j : Nat) (V' : St), j ≤ nb ∧ x = .int .i64 (j : Int) ∧ Duo w wr M T N V' ∧ Full V' nb sz (cutOf (T.img nb) sz)) (fun x _ => nb - (intOf x).toNat)
    case atStart => exact ⟨0, V, Nat.zero_le _, rfl, HD4.out, HFU.out⟩
    case round =>
      clear HD4 HFU HBI
      obtain ⟨j, V', hj, rfl, hD, hF⟩ := hrel
      have HD := hide hD
      have HFU := hide hF
      clear hD hF
      by_cases hlt : j < nb
      · have HDU := hide (Durable_any HD.out.a.rep (j : Int))
        rw [Int.toNat_natCast] at HDU
        unfold PD at HDU
        go_wp2_with fail
        refine HDU.out.mono ?_
        rintro e w5 ⟨lv, le, rfl, hE, hV0, hV1, hR5, hG5⟩
        have HD5 := hide (HD.out.growAS hR5 hG5)
        have HDB := HD
        clear hR5 hG5 HDU HD
        have HLV : Hid ((∃ g, lv = sl g sz ∧ le = .nilIface ∧ PieceAt w5 g (T.dur j) ∧ ¬ N.U g) ∨ (lv = nilS ∧ (∃ g, le = errV g) ∧ T.dur j = zeros sz)) := hide (by
          have hdj := HDL.out j hlt
          cases hq : T.med j with
          | none =>
            have hd : T.durErr (j : Int) = 21 := by unfold St.durErr; rw [if_neg (by rw [HTN.out]; omega), Int.toNat_natCast, hq]; rfl
            rw [hd] at hE hV1
            exact .inr ⟨hV1 (by decide), hE.some' (by decide), by unfold St.dur; rw [hq, HTS.out]; rfl⟩
          | some l =>
            have hd : T.durErr (j : Int) = 0 := by unfold St.durErr; rw [if_neg (by rw [HTN.out]; omega), Int.toNat_natCast, hq]; rfl
            rw [hd] at hE hV0
            obtain ⟨l', hl', g, e, hge, hp, hu⟩ := hV0 rfl
            rw [hq] at hl'
            have : l = l' := Option.some.inj hl'
            subst this
            have e2 : T.dur j = l := by unfold St.dur; rw [hq]; rfl
            rw [e2] at hdj ⊢
            rw [hdj] at e
            exact .inl ⟨g, e, hE.nil0, hp, fun hu' => by have := HDB.out.b.rep.uLt g hu'; omega⟩)
        clear hE hV0 hV1 HDB
        have HCC := hide (HCU.out j hlt)
        -- Durable of the second
        have HDU2 := hide (Durable_any HD5.out.b.rep (j : Int))
        rw [HFU.out.durErr hlt, Int.toNat_natCast, HFU.out.med, HCC.out] at HDU2
        unfold PD at HDU2
        go_wp2_with fail
        refine HDU2.out.mono ?_
        rintro e w6 ⟨kv, ke, rfl, hE, hV0, -, hR6, hG6⟩
        obtain rfl := hE.nil0
        obtain ⟨l, hl, gk, rfl, -, hpk, huk⟩ := hV0 rfl
        have el : T.dur j = l := Option.some.inj hl
        subst el
        rw [HDL.out j hlt]
        have HD6 := hide (HD5.out.growBS hR6 hG6)
        have HG6 := hide hG6
        have HPK := hide hpk
        have HUK := hide huk
        clear hE hV0 hR6 hG6 hl hpk huk HDU2 HD5
        -- Read of the second
        have HRD := hide (Read_any HD6.out.b.rep (j : Int))
        rw [HFU.out.readErr hlt, Int.toNat_natCast, HFU.out.val, HCC.out] at HRD
        unfold PD at HRD
        go_wp2_with fail
        refine HRD.out.mono ?_
        rintro e w7 ⟨rv, re, rfl, hE, hV0, -, hR7, hG7⟩
        obtain rfl := hE.nil0
        obtain ⟨l, hl, gr, rfl, -, hpr, -⟩ := hV0 rfl
        have el : T.dur j = l := Option.some.inj hl
        subst el
        rw [HDL.out j hlt]
        have HD7 := hide (HD6.out.growBS hR7 hG7)
        have HFU7 := hide (HFU.out.like (read_like V' (j : Int)))
        have HPK7 := hide (HPK.out.kept (hG7.keep gk HPK.out.lt HUK.out))
        have HPR := hide hpr
        have HLV7 : Hid ((∃ g, lv = sl g sz ∧ le = .nilIface ∧ PieceAt w7 g (T.dur j)) ∨ (lv = nilS ∧ (∃ g, le = errV g) ∧ T.dur j = zeros sz)) := hide (by
          rcases HLV.out with ⟨g, e1, e2, hp, hu⟩ | h
          · have hp6 := hp.kept (HG6.out.keep g hp.lt hu)
            exact .inl ⟨g, e1, e2, hp6.kept (hG7.keep g hp6.lt hu)⟩
          · exact .inr h)
        clear hE hV0 hR7 hG7 hl hpr HRD HD6 HPK HUK HLV HG6 HFU
        generalize V'.read (j : Int) = V2 at *
        have HSB1 : Hid (Calls Try.prog 18 #[sl gk sz, sl gr sz] w7 fun e w' => e = .returned (.bool true) ∧ Below w7.heap.size w7 w') := hide (by
          have y1 := HPK7.out.bsl
          have y2 := HPR.out.bsl
          rw [HDL.out j hlt] at y1 y2
          refine (same_any _ _ _ _ w7 y1 y2).mono ?_
          rintro e w' ⟨rfl, i, rfl⟩
          exact ⟨by simp, below_drewN (Below.refl _ _) i⟩)
        have HSB2 : Hid (∀ wr g, PieceAt wr g (T.dur j) → PieceAt wr gk (T.dur j) → Calls Try.prog 18 #[sl g sz, sl gk sz] wr fun e w' => e = .returned (.bool true) ∧ Below wr.heap.size wr w') := hide fun wr g p1 p2 => by
          have y1 := p1.bsl
          have y2 := p2.bsl
          rw [HDL.out j hlt] at y1 y2
          refine (same_any _ _ _ _ wr y1 y2).mono ?_
          rintro e w' ⟨rfl, i, rfl⟩
          exact ⟨by simp, below_drewN (Below.refl _ _) i⟩
        rcases HLV7.out with ⟨gl, rfl, rfl, hpl⟩ | ⟨rfl, ⟨ge, rfl⟩, hz⟩
        · have HPL := hide hpl
          clear hpl
          go_wp2_with (go_at_call 18; first
            | (with_reducible refine HSB1.out.mono ?_; rintro e w8 ⟨rfl, hb8⟩; have HD8 := hide (HD7.out.below hb8); have HPK8 := hide (HPK7.out.kept (hb8.block _ HPK7.out.lt)); have HPL8 := hide (HPL.out.kept (hb8.block _ HPL.out.lt)); clear hb8)
            | (with_reducible refine (HSB2.out _ gl HPL8.out HPK8.out).mono ?_; rintro e w9 ⟨rfl, hb9⟩; have HD9 := hide (HD8.out.below hb9); clear hb9))
          go_roundw
          case rel => exact ⟨j + 1, V2, by omega, by go_num, HD9.out, HFU7.out⟩
          case measure => simp [intOf]; omega
        · have HZ2 := hide hz
          clear hz
          obtain ⟨Z, hZ⟩ : ∃ Z, ((zeros sz).map byteV).toArray = Z := ⟨_, rfl⟩
          have HZ := hide hZ
          clear hZ
          have HNP : Hid (∀ wr : World, PieceAt (wr.alloc (.cells Z 5)) wr.heap.size (T.dur j)) := hide fun wr => by
            rw [HZ2.out, ← HZ.out]
            have hs := HS.out
            exact ⟨Go.heap_alloc_new wr _, zeros_lt _, by rw [zeros_len]; unfold maxLen; omega, by rw [zeros_len]; omega⟩
          go_wp2_with (first
            | (go_at_call 18; first
              | (with_reducible refine HSB1.out.mono ?_; rintro e w8 ⟨rfl, hb8⟩; have HD8 := hide ((HD7.out.below hb8).below ((Below.refl _ _).alloc (Nat.le_refl _) (.cells Z 5))); have HPK8 : Hid (PieceAt (w8.alloc (.cells Z 5)) gk (T.dur j)) := hide ((HPK7.out.kept (hb8.block _ HPK7.out.lt)).kept (Below.heap_alloc _ _ _ (Nat.lt_of_lt_of_le HPK7.out.lt hb8.size))); clear hb8)
              | (with_reducible refine (HSB2.out _ _ (HNP.out _) HPK8.out).mono ?_; rintro e w9 ⟨rfl, hb9⟩; have HD9 := hide (HD8.out.below hb9); clear hb9))
            | (at_make; refine wpList_zeros rfl _ _ rfl _ sz rfl rfl rfl hs1 Z HZ ?_))
          go_roundw
          case rel => exact ⟨j + 1, V2, by omega, by go_num, HD9.out, HFU7.out⟩
          case measure => simp [intOf]; omega
      · have HIE : Hid (V'.img nb = T.img nb) := hide (HFU.out.img fun i hi => HCU.out i hi)
        have HVN := hide HFU.out.nb
        go_wp2_with fail
        have HIM := hide (Image_any HD.out.b.rep)
        rw [HFU.out.nb, HFU.out.sz, HIE.out] at HIM
        unfold PD at HIM
        refine HIM.out.mono ?_
        rintro e w5 ⟨rfl, hP5, hb5⟩
        have HD5 := hide (HD.out.below hb5)
        have HP5 := hide hP5
        clear hP5 hb5 HIM HD
        go_wp2_with fail
        have HIM2 := hide (Image_any HD5.out.a.rep)
        rw [HTN.out, HTS.out] at HIM2
        unfold PD at HIM2
        refine HIM2.out.mono ?_
        rintro e w6 ⟨rfl, hP6, hb6⟩
        have HD6 := hide (HD5.out.below hb6)
        have HP56 := hide (HP5.out.kept (hb6.block _ HP5.out.lt))
        have HP6 := hide hP6
        clear hP6 hb6 HIM2 HD5
        have HSB : Hid (Calls Try.prog 18 #[sl wr.heap.size (nb * sz), sl w5.heap.size (nb * sz)] w6 fun e w' => e = .returned (.bool true) ∧ Below w6.heap.size w6 w') := hide (by
          have y1 := HP56.out.bsl
          have y2 := HP6.out.bsl
          rw [HIL.out] at y1 y2
          refine (same_any _ _ _ _ w6 y1 y2).mono ?_
          rintro e w' ⟨rfl, i, rfl⟩
          exact ⟨by simp, below_drewN (Below.refl _ _) i⟩)
        go_wp2_with (go_at_call 18; refine HSB.out.mono ?_; rintro e w7 ⟨rfl, hb7⟩; have HD7 := hide (HD6.out.below hb7); clear hb7)
        go_ret
        exact ⟨rfl, HD7.out.a.be⟩
end Go.Proofs.Ytlpmpicmpklaoaa
