import Derived.Test.YtcjilmafdpnfeaaDoorWRnum
import Derived.Laws.BitsAllLaws
namespace Go.Proofs.YtcjilmafdpnfeaaDoor
open Go.RowKit
set_option linter.unusedVariables false
set_option linter.unusedSimpArgs false
set_option maxRecDepth 20000

theorem or_add {a b i : Nat} (h : b < 2 ^ i) : 2 ^ i * a ||| b = 2 ^ i * a + b := (Nat.two_pow_add_eq_or_of_lt h a).symm
theorem wrap_u64 {n : Nat} (h : n < 18446744073709551616) : IntKind.u64.wrap (n : Int) = (n : Int) := by
  simp [IntKind.wrap, IntKind.bits, IntKind.signed]; omega
theorem rn_num {y x k width : Nat} (hk : k < width) (hw : width ≤ 8) (hy : y < 256 ^ k) (hx : x < 256) : ∃ z lo p pm hi : Nat, z = y * 256 + x ∧ lo = z * 256 ^ (width - k - 1) ∧ hi = lo + (256 ^ (width - k - 1) - 1) ∧ z < 256 ^ (k + 1) ∧ z < 18446744073709551616 ∧ lo < 18446744073709551616 ∧ hi < 18446744073709551616 ∧
    IntKind.u64.wrap ((y : Int) * 256) = (y : Int) * 256 ∧ bits BinOp.or IntKind.u64 ((y : Int) * 256) (x : Int) = (z : Int) ∧ IntKind.u64.wrap ((z : Int) * 2 ^ (8 * (width - 1 - k))) = (lo : Int) ∧ IntKind.u64.wrap (2 ^ (8 * (width - 1 - k))) = (p : Int) ∧ IntKind.u64.wrap ((p : Int) - 1) = (pm : Int) ∧ bits BinOp.or IntKind.u64 (lo : Int) (pm : Int) = (hi : Int) := by
  have e1 : width - 1 - k = width - k - 1 := by omega
  rw [e1]
  obtain ⟨m, hm⟩ : ∃ m, m = width - k - 1 := ⟨_, rfl⟩
  rw [← hm]
  have hz : y * 256 + x < 256 ^ (k + 1) := by rw [Nat.pow_succ]; omega
  have hp : 0 < 256 ^ m := Nat.pow_pos (by decide)
  have htop : 256 ^ (k + 1) * 256 ^ m ≤ 18446744073709551616 := by
    rw [← Nat.pow_add]
    exact Nat.le_trans (Nat.pow_le_pow_right (by decide) (show k + 1 + m ≤ 8 by omega)) (by decide)
  have h1 : (y * 256 + x + 1) * 256 ^ m ≤ 18446744073709551616 := Nat.le_trans (Nat.mul_le_mul_right _ hz) htop
  have h2 : (y * 256 + x + 1) * 256 ^ m = (y * 256 + x) * 256 ^ m + 256 ^ m := by rw [Nat.add_mul, Nat.one_mul]
  have h3 : 256 ^ m = 2 ^ (8 * m) := by rw [Nat.pow_mul]
  have hpt : 256 ^ m < 18446744073709551616 := Nat.lt_of_le_of_lt (Nat.pow_le_pow_right (by decide) (show m ≤ 7 by omega)) (by decide)
  have hz2 : y * 256 + x ≤ (y * 256 + x) * 256 ^ m := Nat.le_mul_of_pos_right _ hp
  refine ⟨y * 256 + x, (y * 256 + x) * 256 ^ m, 256 ^ m, 256 ^ m - 1, (y * 256 + x) * 256 ^ m + (256 ^ m - 1), rfl, rfl, rfl, hz, by omega, by omega, by omega, ?_, ?_, ?_, ?_, ?_, ?_⟩
  · have := wrap_u64 (n := y * 256) (by omega)
    simpa using this
  · have := u64_or_nat (y * 256) x (by omega) (by omega)
    rw [show y * 256 ||| x = y * 256 + x by rw [show y * 256 = 2 ^ 8 * y by omega]; exact or_add (by omega)] at this
    simpa using this
  · have := wrap_u64 (n := (y * 256 + x) * 256 ^ m) (by omega)
    rw [h3] at this
    rw [h3]
    simpa using this
  · have := wrap_u64 (n := 256 ^ m) (by omega)
    rw [h3] at this
    rw [h3]
    simpa using this
  · have := wrap_u64 (n := 256 ^ m - 1) (by omega)
    rw [← this]
    congr 1
    omega
  · have := u64_or_nat ((y * 256 + x) * 256 ^ m) (256 ^ m - 1) (by omega) (by omega)
    rw [show (y * 256 + x) * 256 ^ m ||| (256 ^ m - 1) = (y * 256 + x) * 256 ^ m + (256 ^ m - 1) by
      rw [Nat.mul_comm, h3]; exact or_add (by rw [← h3]; omega)] at this
    exact this

set_option maxHeartbeats 1000000 in
theorem number_any (w : World) (rb b off cap at' width : Nat) (l : List Nat) (L : List (Nat × Nat)) (v : Value) (h : Rd w rb b off cap l at' false) (hs : SpL w v L) (hne : v.ownBlock ≠ some rb) (hw : width ≤ 8) (ha : at' ≤ l.length) :
    Calls Tryd.prog 12 #[.pointer (some ⟨rb, 0, none⟩), .int .i64 (width : Int), v] w fun e' w' => e' = .returned (.int .u64 ((rdN l L width 0 at').1 : Nat)) ∧ Rd w' rb b off cap l (rdN l L width 0 at').2.1 (rdN l L width 0 at').2.2 ∧ Oth rb w w' := by
  have HR := hide h
  have HSL := hide fun x (ho : Oth rb w x) => hs.oth ho hne
  have hcap := h.h2
  have hlc := h.h1
  unfold maxLen at hcap
  obtain ⟨sb, soff, scap, rfl, _, _, _, _⟩ := id hs
  have HBY := hide h.hb
  clear h hs hne
  rename_i dead1 dead2 dead3 dead4
  clear dead1 dead2 dead3 dead4
  go_enter Tryd.func12, Tryd.ntmps12
  go_wp2_with fail
  go_loopw [7, 12] (fun u i wr => ∃ k y : Nat, k ≤ width ∧ i = .int .i64 k ∧ u = .int .u64 (y : Int) ∧ y < 256 ^ k ∧ at' + k ≤ l.length ∧ Hid (rdN l L width 0 at' = rdN l L (width - k) y (at' + k)) ∧ Rd wr rb b off cap l (at' + k) false ∧ Oth rb w wr) (fun _ i _ => width - (intOf i).toNat)
  case atStart => exact ⟨0, 0, Nat.zero_le _, rfl, rfl, by decide, ha, hide rfl, HR.out, Oth.refl _ _⟩
  case round =>
    clear HR
    obtain ⟨k, y, hk, rfl, rfl, hy, hal, heq, hrd, hoth⟩ := hrel
    have HRD := hide hrd
    have HOT := hide hoth
    obtain ⟨c0, c1, c2, f1, f2⟩ := hrd.cells
    by_cases hlt : k < width
    · by_cases hend : at' + k = l.length
      · have HF : Hid (rdN l L width 0 at' = (0, at' + k, true)) := hide (by rw [heq.out, show width - k = (width - k - 1) + 1 by omega, rdN, if_pos (by omega)])
        have HFS := hide hrd.stop
        have HOS := hide (hoth.set 2 (.bool true))
        have b1 : (((at' + k : Nat) : Int) == (l.length : Int)) = true := by simp only [beq_iff_eq]; omega
        clear hrd hoth heq
        generalize at' + k = q at *
        go_wp2_with fail
        go_quiet (fail)
        go_wp2_with fail
        go_ret
        exact ⟨by rw [HF.out]; rfl, by rw [HF.out]; exact (HRD.out.same rfl rfl : Rd (wr.drewN nq) rb b off cap l q false).stop, (HOT.out.drewN nq).set 2 _⟩
      · have hx : l.getD (at' + k) 0 < 256 := HBY.out _ (by simp [List.getD, show at' + k < l.length by omega])
        have cb := hrd.dat (at' + k) (by omega)
        have b1 : (((at' + k : Nat) : Int) == (l.length : Int)) = false := by simp only [beq_eq_false_iff_ne]; omega
        have hql : at' + k < l.length := by omega
        obtain ⟨z, lo, p, pm, hi, ez, elo, ehi, z1, z2, z3, z4, q1, q2, q3, q4, q5, q6⟩ := rn_num hlt hw hy hx
        have HST : Hid (rdN l L width 0 at' = if meets L lo hi then rdN l L (width - (k + 1)) z (at' + (k + 1)) else (0, at' + k, true)) := hide (by
          rw [heq.out, show width - k = (width - k - 1) + 1 by omega, rdN, if_neg (by omega), ← ez, ← elo, ← ehi, show width - (k + 1) = width - k - 1 by omega, show at' + (k + 1) = at' + k + 1 by omega])
        have HME := hide fun x (ho : Oth rb w x) => meet_any x _ L lo hi (HSL.out x ho) z3 z4
        clear hrd hoth heq ez elo ehi
        generalize l.getD (at' + k) 0 = x at *
        have hq : at' + k + 1 = at' + (k + 1) := by omega
        have HQ := hide hq
        have hql2 : at' + (k + 1) ≤ l.length := by omega
        have HQL := hide hql2
        clear hq hql2
        generalize at' + k = q at *
        cases hm : meets L lo hi with
        | true =>
          rw [hm] at HME
          have HS2 : Hid (rdN l L width 0 at' = rdN l L (width - (k + 1)) z (at' + (k + 1))) := hide (by rw [HST.out, hm]; rfl)
          clear hm HST
          go_wp2_with fail
          go_quiet (fail)
          go_wp2_with fail
          go_quiet (fail)
          go_wp2_with (go_at_call 19; refine (HME.out _ (HOT.out.drewN _)).mono ?_; rintro e' w2 ⟨rfl, hb2⟩; have HR2 : Hid (Rd w2 rb b off cap l q false) := hide ((HRD.out.same rfl rfl : Rd (wr.drewN _) rb b off cap l q false).below hb2); have HO2 := hide ((HOT.out.drewN _).below hb2); obtain ⟨g0, g1, g2, g3, g4⟩ := HR2.out.cells; clear hb2)
          go_roundw
          case rel => exact ⟨k + 1, z, by omega, by go_num, rfl, z1, HQL.out, HS2, by rw [← HQ.out]; have := HR2.out.go (q + 1); simpa using this, HO2.out.set 1 _⟩
          case measure => simp [intOf]; omega
        | false =>
          rw [hm] at HME
          have HS2 : Hid (rdN l L width 0 at' = (0, q, true)) := hide (by rw [HST.out, hm]; rfl)
          clear hm HST
          go_wp2_with fail
          go_quiet (fail)
          go_wp2_with fail
          go_quiet (fail)
          go_wp2_with (go_at_call 19; refine (HME.out _ (HOT.out.drewN _)).mono ?_; rintro e' w2 ⟨rfl, hb2⟩; have HR2 : Hid (Rd w2 rb b off cap l q false) := hide ((HRD.out.same rfl rfl : Rd (wr.drewN _) rb b off cap l q false).below hb2); have HO2 := hide ((HOT.out.drewN _).below hb2); obtain ⟨g0, g1, g2, g3, g4⟩ := HR2.out.cells; clear hb2)
          go_ret
          exact ⟨by rw [HS2.out]; rfl, by rw [HS2.out]; exact HR2.out.stop, HO2.out.set 2 _⟩
    · obtain rfl : k = width := by omega
      have HF : Hid (rdN l L k 0 at' = (y, at' + k, false)) := hide (by rw [heq.out, Nat.sub_self, rdN])
      clear hrd hoth heq
      go_wp2_with fail
      go_ret
      exact ⟨by rw [HF.out]; rfl, by rw [HF.out]; exact HRD.out, HOT.out⟩
end Go.Proofs.YtcjilmafdpnfeaaDoor
