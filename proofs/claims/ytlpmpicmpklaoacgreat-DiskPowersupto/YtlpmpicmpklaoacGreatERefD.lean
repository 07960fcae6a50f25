import Derived.Test.YtlpmpicmpklaoacGreatERefC
namespace Go.Proofs.YtlpmpicmpklaoacGreat
open Go.RowKit Go.Maps Go.Sort
set_option linter.unusedVariables false
set_option linter.unusedSimpArgs false
set_option maxRecDepth 20000

theorem Load_bad (w : World) (n s : Int) (v : Value) (h : goodGeo n s = false) :
    Calls Tryz.prog 14 #[.int .i64 n, .int .i64 s, v] w fun e w' => e = .returned (.tuple #[.pointer none, .int .i64 1]) ∧ w' = w := by
  go_enter Tryz.func14, Tryz.ntmps14
  go_wp2_with (go_at_call 37; refine (geo_any _ _ _).mono ?_; rintro e w' ⟨rfl, rfl⟩; rw [h])
  go_ret2
  exact ⟨rfl, rfl⟩
theorem Load_size (w : World) (nb sz : Nat) (v : Value) (m : List Nat) (hv : BSl w v m) (hm : ¬ m.length = nb * sz) (h1 : 1 ≤ nb) (h2 : nb ≤ 8192) (hs : sz = 128 ∨ sz = 256 ∨ sz = 512 ∨ sz = 1024) :
    Calls Tryz.prog 14 #[.int .i64 (nb : Int), .int .i64 (sz : Int), v] w fun e w' => e = .returned (.tuple #[.pointer none, .int .i64 3]) ∧ w' = w := by
  have h : goodGeo nb sz = true := decide_eq_true (by omega)
  obtain ⟨a, cap, rfl, hl, hml, -⟩ := hv
  unfold maxLen at hml
  obtain ⟨N, hN⟩ : ∃ N, nb * sz = N := ⟨_, rfl⟩
  have hN2 : N ≤ 8388608 := by rw [← hN]; exact Nat.mul_le_mul h2 (show sz ≤ 1024 by omega)
  rw [hN] at hm
  have hne : ¬ (m.length : Int) = (N : Int) := by omega
  have hw1 : wrap64 ((nb : Int) * (sz : Int)) = (N : Int) := by
    rw [← Int.natCast_mul, hN]; simp [wrap64]; omega
  clear hs hN
  go_enter Tryz.func14, Tryz.ntmps14
  go_wp2_with (go_at_call 37; refine (geo_any _ _ _).mono ?_; rintro e w0 ⟨rfl, e0⟩; rw [h]; cases e0)
  go_ret2
  exact ⟨rfl, rfl⟩

structure LdInv (w wr : World) (nb sz i : Nat) (m : List Nat) (L : RLay) (Q : RSt) : Prop where
  hi : i ≤ nb
  be : Below w.heap.size w wr
  rep : RRep wr { L with U := fun b => w.heap.size ≤ b ∧ b < wr.heap.size } Q
  med : ∀ k, k < nb → (Q.med k).l = if k < i then cutOf m sz k else zeros sz
  eq : Q = { (⟨nb, sz, Q.med, fun _ => false, [], true, -1, 0, 0, 0, 0, -1⟩ : RSt) with med := Q.med }
theorem LdInv.done {w wr : World} {nb sz : Nat} {m : List Nat} {L : RLay} {Q : RSt} (h : LdInv w wr nb sz nb m L Q) : RD wr { L with U := fun b => w.heap.size ≤ b ∧ b < wr.heap.size } (St.fresh nb sz (cutOf m sz)) (-1) := by
  have e := h.eq
  have en : Q.nb = nb := by rw [e]
  have hr := h.rep
  refine ⟨⟨nb, sz, fun k => if k < nb then Q.med k else ⟨0, cutOf m sz k⟩, fun _ => false, [], true, -1, 0, 0, 0, 0, -1⟩, ?_, ⟨rfl, rfl, rfl, rfl, rfl, rfl, rfl, rfl, fun k => rfl, fun k => ?_⟩, rfl⟩
  · rw [e] at hr
    obtain ⟨ms, m1, m2, m3⟩ := hr.hm
    exact ⟨hr.nb1, hr.nb2, hr.szs, hr.lf, hr.hp, ⟨ms, m1, m2, fun i hi => by have := m3 i hi; simp only at hi ⊢; rw [if_pos hi]; exact this⟩, hr.mc, hr.hs, hr.sc, fun i hi => by have := hr.pm i hi; simp only at hi ⊢; rw [if_pos hi]; exact this, hr.hc, hr.uc, hr.pi, hr.uP, hr.uM, hr.uS, hr.uLt⟩
  · show some (cutOf m sz k) = some _
    congr 1
    by_cases hk : k < nb
    · simp only [if_pos hk]
      rw [h.med k hk, if_pos hk]
    · simp only [if_neg hk]

theorem fresh_eq {nb sz : Nat} {f : Nat → List Nat} {R : RSt} (h : Sim (St.fresh nb sz f) R) (hw : R.wh = -1) : R = ⟨nb, sz, R.med, fun _ => false, [], true, -1, 0, 0, 0, 0, -1⟩ ∧ ∀ k, (R.med k).l = f k := by
  have hsp : ∀ k, R.sp k = false ∧ (R.med k).l = f k := fun k => by
    have := h.med k
    simp only [St.fresh] at this
    cases hq : R.sp k with
    | true => rw [hq] at this; simp at this
    | false => rw [hq] at this; simp at this; exact ⟨rfl, this.symm⟩
  have hit : R.items = [] := by
    cases hq : R.items with
    | nil => rfl
    | cons x r =>
      have := h.cache x.1
      simp only [St.fresh, hq, List.filter_cons, beq_self_eq_true, if_true, List.map_cons] at this
      exact absurd this (by simp)
  have hspf : R.sp = fun _ => false := funext fun k => (hsp k).1
  refine ⟨?_, fun k => (hsp k).2⟩
  have e1 := h.nb
  have e2 := h.sz
  have e3 := h.on
  have e4 := h.left
  have e5 := h.rd
  have e6 := h.wr
  have e7 := h.th
  have e8 := h.fl
  simp only [St.fresh] at e1 e2 e3 e4 e5 e6 e7 e8
  cases R
  simp_all

set_option maxHeartbeats 1000000 in
theorem rLoad (w : World) (n s : Int) (hn : i64ok n) (hs : i64ok s) (v : Value) (m : List Nat) (hv : BSl w v m) :
    Calls Tryz.prog 16 #[.int .i64 n, .int .i64 s, v] w fun e w' => (goodGeo n s = false → e = .returned (.tuple #[.pointer none, .int .i64 1]) ∧ w' = w) ∧
      (goodGeo n s = true → ¬ m.length = n.toNat * s.toNat → e = .returned (.tuple #[.pointer none, .int .i64 3]) ∧ w' = w) ∧
      (goodGeo n s = true → m.length = n.toNat * s.toNat → ∃ L : RLay, e = .returned (.tuple #[PR L, .int .i64 0]) ∧ RD w' L (St.fresh n.toNat s.toNat (cutOf m s.toNat)) (-1) ∧ Below w.heap.size w w' ∧ ∀ b, L.U b → w.heap.size ≤ b) := by
  have HSI := hide (fun w => sizes_any w s hs)
  have HNW := hide (rNew w n s hn hs)
  obtain ⟨n1, n2⟩ := hn
  obtain ⟨s1, s2⟩ := hs
  have HV := hide hv
  obtain ⟨a, cap, rfl, hl, hml, -⟩ := hv
  unfold maxLen at hml
  cases hgg : goodGeo n s with
  | false =>
    have hbad : ¬ (1 ≤ n ∧ n ≤ 8192 ∧ (s = 128 ∨ s = 256 ∨ s = 512 ∨ s = 1024)) := of_decide_eq_false hgg
    by_cases g1 : n < 1
    · go_enter Tryz.func16, Tryz.ntmps16
      go_wp2_with (go_at_call 40; refine (HSI.out _).mono ?_; rintro e w' ⟨rfl, hw⟩; cases hw)
      go_ret2
      exact ⟨fun _ => ⟨rfl, rfl⟩, fun h => by simp at h, fun h => by simp at h⟩
    · by_cases g2 : 8192 < n
      · go_enter Tryz.func16, Tryz.ntmps16
        go_wp2_with (go_at_call 40; refine (HSI.out _).mono ?_; rintro e w' ⟨rfl, hw⟩; cases hw)
        go_ret2
        exact ⟨fun _ => ⟨rfl, rfl⟩, fun h => by simp at h, fun h => by simp at h⟩
      · have hd : decide (s = 128 ∨ s = 256 ∨ s = 512 ∨ s = 1024) = false := decide_eq_false fun h => hbad ⟨by omega, by omega, h⟩
        rw [hd] at HSI
        clear hbad
        go_enter Tryz.func16, Tryz.ntmps16
        go_wp2_with (go_at_call 40; refine (HSI.out _).mono ?_; rintro e w' ⟨rfl, hw⟩; cases hw)
        go_ret2
        exact ⟨fun _ => ⟨rfl, rfl⟩, fun h => by simp at h, fun h => by simp at h⟩
  | true =>
    have hgg' := of_decide_eq_true hgg
    obtain ⟨nb, rfl⟩ : ∃ nb : Nat, n = (nb : Int) := ⟨n.toNat, by omega⟩
    obtain ⟨sz, rfl⟩ : ∃ sz : Nat, s = (sz : Int) := ⟨s.toNat, by omega⟩
    have hn1 : 1 ≤ nb := by omega
    have hn2 : nb ≤ 8192 := by omega
    have hd : decide ((sz : Int) = 128 ∨ (sz : Int) = 256 ∨ (sz : Int) = 512 ∨ (sz : Int) = 1024) = true := decide_eq_true (by omega)
    rw [hd] at HSI
    have hs0 : sz ≤ 1024 := by omega
    have hs1 : 128 ≤ sz := by omega
    obtain ⟨N, hN⟩ : ∃ N, nb * sz = N := ⟨_, rfl⟩
    have hN2 : N ≤ 8388608 := by rw [← hN]; exact Nat.mul_le_mul hn2 hs0
    have hw1 : wrap64 ((nb : Int) * (sz : Int)) = (N : Int) := by
      rw [← Int.natCast_mul, hN]; simp [wrap64]; omega
    have HN := hide hN
    have hNW := hide (HNW.out.mono fun e w' h => h.2 hgg)
    have HGT : Hid (goodGeo (nb : Int) (sz : Int) = true) := hide hgg
    simp only [Int.toNat_natCast] at hNW
    have HQ : Hid (∀ e w', ((true = false → e = Ending.returned (.tuple #[.pointer none, .int .i64 1]) ∧ w' = w) ∧ (true = true → ¬ m.length = (nb : Int).toNat * (sz : Int).toNat → e = .returned (.tuple #[.pointer none, .int .i64 3]) ∧ w' = w) ∧ (true = true → m.length = (nb : Int).toNat * (sz : Int).toNat → ∃ L : RLay, e = .returned (.tuple #[PR L, .int .i64 0]) ∧ RD w' L (St.fresh (nb : Int).toNat (sz : Int).toNat (cutOf m (sz : Int).toNat)) (-1) ∧ Below w.heap.size w w' ∧ ∀ b, L.U b → w.heap.size ≤ b)) ↔ ((¬ m.length = N → e = .returned (.tuple #[.pointer none, .int .i64 3]) ∧ w' = w) ∧ (m.length = N → ∃ L : RLay, e = .returned (.tuple #[PR L, .int .i64 0]) ∧ RD w' L (St.fresh nb sz (cutOf m sz)) (-1) ∧ Below w.heap.size w w' ∧ ∀ b, L.U b → w.heap.size ≤ b))) := hide fun e w' => by
      simp only [Int.toNat_natCast, hN]
      simp
    refine Calls.mono ?_ fun e w' h => (HQ.out e w').2 h
    clear hN hgg hgg' HQ HNW hd
    by_cases hmN : m.length = N
    · have hmi : (m.length : Int) = (N : Int) := by omega
      rw [hmN] at HV ⊢
      have HM : Hid (m.length = nb * sz) := hide (hmN.trans HN.out.symm)
      have HMN := hide hmN
      clear hmN
      go_enter Tryz.func16, Tryz.ntmps16
      go_wp2_with (first
        | (go_at_call 40; refine (HSI.out _).mono ?_; rintro e w' ⟨rfl, hw⟩; cases hw)
        | (go_at_call 19; refine hNW.out.mono ?_; rintro e w1 ⟨L, rfl, hD1, hb1, hU1⟩; obtain ⟨R, r1, r2, r3⟩ := hD1; have HR1 := hide r1; have HFE := hide (fresh_eq r2 r3); have HB1 := hide hb1; have HU1 := hide hU1; clear r1 r2 r3 hb1 hU1; unfold PR))
      have START : Hid (LdInv w w1 nb sz 0 m L R) := hide ⟨Nat.zero_le _, HB1.out, HR1.out.wider (fun b hb => ⟨HU1.out b hb, HR1.out.uLt b hb⟩) (fun b hb => hb.2), fun k _ => by rw [HFE.out.2 k, if_neg (Nat.not_lt_zero _)], HFE.out.1⟩
      obtain ⟨mc1, mc2⟩ := HR1.out.mc
      rw [show R.nb = nb by rw [HFE.out.1]] at mc1
      unfold maxLen at mc2
      clear hNW
      go_loopw [11] (fun x wr => ∃ (i : Nat) (Q : RSt), x = .int .i64 (i : Int) ∧ LdInv w wr nb sz i m L Q) (fun x _ => nb - (intOf x).toNat)
      case atStart => exact ⟨0, R, rfl, START.out⟩
      case round =>
        clear START
        obtain ⟨i, Q, rfl, hI⟩ := hrel
        have HI := hide hI
        have hin := hI.hi
        clear hI
        have hQn : Q.nb = nb := by rw [HI.out.eq]
        have hQs : Q.sz = sz := by rw [HI.out.eq]
        by_cases hlt : i < nb
        · have hbe := HI.out.be
          obtain ⟨b, off, rfl, -, hc1, hc2, hcut⟩ := (HV.out.below hbe).cut HM.out hlt (by omega)
          unfold maxLen at hc2
          obtain ⟨M, hM⟩ : ∃ M, i * sz = M := ⟨_, rfl⟩
          have hMN : M + sz ≤ N := by
            rw [← hM, ← HN.out, ← Nat.succ_mul]
            exact Nat.mul_le_mul_right _ hlt
          have hw3 : IntKind.i64.wrap ((i : Int) * (sz : Int)) = (M : Int) := by
            rw [← Int.natCast_mul, hM]; simp [IntKind.wrap, IntKind.bits, IntKind.signed]; omega
          obtain ⟨H, hH⟩ : ∃ H, M + sz = H := ⟨_, rfl⟩
          have hw4 : IntKind.i64.wrap (((i : Int) + 1) * (sz : Int)) = (H : Int) := by
            have e : ((i : Int) + 1) * (sz : Int) = (H : Int) := by
              rw [Int.add_mul, Int.one_mul, ← Int.natCast_mul, hM]; omega
            rw [e]; simp [IntKind.wrap, IntKind.bits, IntKind.signed]; omega
          have hw5 : IntKind.i64.wrap ((i : Int) + 1) = (i : Int) + 1 := by simp [IntKind.wrap, IntKind.bits, IntKind.signed]; omega
          have hb1 : (0 : Int) ≤ (M : Int) := by omega
          have hb2 : (M : Int) ≤ (H : Int) := by omega
          have hb3 : (H : Int) ≤ (cap : Int) := by omega
          have hb4 : (0 : Int) ≤ (H : Int) := by omega
          have hHM : H - M = sz := by omega
          have hcm : ¬ cap = M := by omega
          rw [hM] at hcut
          have hcl := cut_len HM.out hlt
          have HCP0 := rCopy_any _ _ wr.drew (hcut.below (Below.drew (Below.refl _ _))) (by rw [hcl]; omega) (by rw [hcl]; omega)
          rw [hcl] at HCP0
          have HCP : Hid (Calls Tryz.prog 41 #[.slice (some ⟨b, off + M, none⟩) sz (cap - M)] wr.drew fun e w' => e = .returned (sl wr.heap.size sz) ∧ PieceAt w' wr.heap.size (cutOf m sz i) ∧ Below wr.heap.size wr.drew w' ∧ w'.heap.size = wr.heap.size + 1) := hide HCP0
          have HCL := hide hcl
          have HR0 := hide (HI.out.rep.below (Below.drew (Below.refl _ _)))
          have k0 : wr.drew.cell? ⟨L.p, 2, none⟩ = some (.slice (some ⟨L.mb, 0, none⟩) nb L.mc) := by have := HR0.out.cell 2; simp only [refRow, hQn] at this; exact this
          clear HCP0 hcl hcut hM hH hMN
          have hii : (i : Int) < (nb : Int) := by omega
          have HQN := hide hQn
          have HQS := hide hQs
          clear hQn hQs
          go_wp2_with fail
          go_region_held3 (fun w' => w'.cell? ⟨L.p, 2, none⟩ = some (.slice (some ⟨L.mb, 0, none⟩) nb L.mc)) (first | exact k0 | assumption)
            (first
              | (go_at_call 41; refine HCP.out.mono ?_; rintro e w4 ⟨rfl, hp4, hb4, hz4⟩; have HR4 := hide (HR0.out.below hb4); have k4 : w4.cell? ⟨L.p, 2, none⟩ = some (.slice (some ⟨L.mb, 0, none⟩) nb L.mc) := (by have := HR4.out.cell 2; simp only [refRow, HQN.out] at this; exact this); obtain ⟨n4, f4⟩ := HR4.out.medAt (k := i) (by rw [HQN.out]; exact hlt); have hq4 := HR4.out.wider (U' := fun b => w.heap.size ≤ b ∧ b < w4.heap.size) (fun b hb => ⟨hb.1, by omega⟩) (fun b hb => hb.2); have hx4 : Pc.ok w4 (fun b => w.heap.size ≤ b ∧ b < w4.heap.size) Q.sz ⟨wr.heap.size, cutOf m sz i⟩ := ⟨hp4, HCL.out.trans HQS.out.symm, hbe.size, by show wr.heap.size < w4.heap.size; omega⟩; obtain ⟨t1, t2, t3⟩ := hq4.setMed (k := i) (by rw [HQN.out]; exact hlt) ⟨wr.heap.size, cutOf m sz i⟩ hx4; rw [HQS.out] at t1 t2 t3; have k5 : (w4.setCell ⟨L.mb, i, none⟩ (sl wr.heap.size sz)).cell? ⟨L.p, 2, none⟩ = some (.slice (some ⟨L.mb, 0, none⟩) nb L.mc) := (by have := t1.cell 2; simp only [refRow, HQN.out] at this; exact this); have HT1 := hide t1; have HT3 := hide t3; have HZ4 := hide hz4; have HB4 := hide hb4; clear hz4 hb4 hp4 hq4 hx4 t1 t2 t3))
          have HNX : Hid (LdInv w (w4.setCell ⟨L.mb, i, none⟩ (sl wr.heap.size sz)) nb sz (i + 1) m L { Q with med := updF Q.med i ⟨wr.heap.size, cutOf m sz i⟩ }) := hide
            ⟨by omega, ⟨HB4.out.os.trans hbe.os, HB4.out.tape.trans hbe.tape, HB4.out.output.trans hbe.output, by rw [HT3.out]; have := HZ4.out; have := hbe.size; omega, fun x hx => by
              have hne : x ≠ L.mb := by have h9 : w.heap.size ≤ L.mb := HR4.out.uM.1; omega
              rw [Go.heap_setCell_other _ _ _ _ hne, HB4.out.block x (by have := hbe.size; omega)]
              exact hbe.block x hx⟩, by rw [HT3.out]; simpa only [HQS.out] using HT1.out, fun k hk => by
              show (updF Q.med i ⟨wr.heap.size, cutOf m sz i⟩ k).l = _
              by_cases e : k = i
              · subst e
                rw [updF_same, if_pos (Nat.lt_succ_self _)]
              · rw [updF_other _ _ e, HI.out.med k hk]
                by_cases hki : k < i
                · rw [if_pos hki, if_pos (by omega)]
                · rw [if_neg hki, if_neg (by omega)], by have := HI.out.eq; simp only at this ⊢; rw [this]⟩
          go_wp2
          go_roundw
          case rel => exact ⟨i + 1, _, by go_num, HNX.out⟩
          case measure => simp [intOf]; omega
        · have e : i = nb := by omega
          subst e
          have HDN := hide HI.out.done
          have HBE := hide HI.out.be
          go_wp2
          go_ret2
          refine ⟨fun h => absurd (by first | exact HMN.out | trivial) h, fun _ => ⟨{ L with U := fun b => w.heap.size ≤ b ∧ b < wr.heap.size }, by unfold PR; rfl, HDN.out, HBE.out, fun b hb => hb.1⟩⟩
    · have hne : ¬ (m.length : Int) = (N : Int) := by omega
      go_enter Tryz.func16, Tryz.ntmps16
      go_wp2_with (go_at_call 40; refine (HSI.out _).mono ?_; rintro e w' ⟨rfl, hw⟩; cases hw)
      go_ret2
      exact ⟨fun _ => ⟨rfl, rfl⟩, fun h => absurd h hmN⟩
end Go.Proofs.YtlpmpicmpklaoacGreat
