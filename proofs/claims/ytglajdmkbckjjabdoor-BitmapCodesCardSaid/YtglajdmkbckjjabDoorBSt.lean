import Derived.Test.YtglajdmkbckjjabDoorBRd
namespace Go.Proofs.YtglajdmkbckjjabDoor
open Go.RowKit
set_option linter.unusedVariables false
set_option linter.unusedSimpArgs false
set_option maxRecDepth 20000

/-- behind k zeros -/
def stK (most k : Nat) : Rd Nat := bndR (zerR most (20 - k) k) fun j _ => loR most j (2 ^ j)
theorem stK_zero (most : Nat) : stK most 0 = stR most := rfl
theorem stK_nil {most k : Nat} (hk : k < 20) : stK most k [] = (1, none) := by
  unfold stK
  rw [show 20 - k = (19 - k) + 1 by omega]
  rfl
theorem stK_one {most k : Nat} (hk : k < 20) (l : List Bool) : stK most k (true :: l) = (1 + (loR most k (2 ^ k) l).1, (loR most k (2 ^ k) l).2) := by
  have hz : zerR most (20 - k) k (true :: l) = (1, some k) := by
    rw [show 20 - k = (19 - k) + 1 by omega]
    show bndR dgR _ (true :: l) = _
    rw [bndR_some (c := 1) (a := true) rfl, if_pos rfl]
    rfl
  unfold stK
  rw [bndR_some hz]
  rfl
theorem stK_bad {most k : Nat} (hk : k < 20) (l : List Bool) (h : most < 2 ^ (k + 1)) : stK most k (false :: l) = (1, none) := by
  have hz : zerR most (20 - k) k (false :: l) = (1, none) := by
    rw [show 20 - k = (19 - k) + 1 by omega]
    show bndR dgR _ (false :: l) = _
    rw [bndR_some (c := 1) (a := false) rfl, if_neg (by simp), if_pos h]
    rfl
  unfold stK
  rw [bndR_none hz]
theorem stK_go {most k : Nat} (hk : k < 20) (l : List Bool) (h : ¬ most < 2 ^ (k + 1)) : stK most k (false :: l) = (1 + (stK most (k + 1) l).1, (stK most (k + 1) l).2) := by
  have hz : zerR most (20 - k) k (false :: l) = (1 + (zerR most (20 - (k + 1)) (k + 1) l).1, (zerR most (20 - (k + 1)) (k + 1) l).2) := by
    rw [show 20 - k = (20 - (k + 1)) + 1 by omega]
    conv => lhs; unfold zerR
    rw [bndR_some (c := 1) (a := false) rfl, if_neg (by simp), if_neg h]
    rfl
  unfold stK
  cases e : zerR most (20 - (k + 1)) (k + 1) l with
  | mk c o =>
    rw [e] at hz
    cases o with
    | none => rw [bndR_none hz, bndR_none e]
    | some j =>
      rw [bndR_some hz, bndR_some e]
      have : List.drop (1 + c) (false :: l) = List.drop c l := by rw [Nat.add_comm]; rfl
      rw [this]
      simp [Nat.add_assoc]
theorem lo_nil {most k x : Nat} : loR most (k + 1) x [] = (1, none) := rfl
theorem lo_bad {most k x : Nat} {d : Bool} (l : List Bool) (h : most < x + d.toNat * 2 ^ k) : loR most (k + 1) x (d :: l) = (1, none) := by
  unfold loR
  rw [bndR_some (c := 1) (a := d) rfl, if_pos h]
  rfl
theorem lo_go {most k x : Nat} {d : Bool} (l : List Bool) (h : ¬ most < x + d.toNat * 2 ^ k) : loR most (k + 1) x (d :: l) = (1 + (loR most k (x + d.toNat * 2 ^ k) l).1, (loR most k (x + d.toNat * 2 ^ k) l).2) := by
  conv => lhs; unfold loR
  rw [bndR_some (c := 1) (a := d) rfl, if_neg h]
  rfl
theorem pow_small {k most : Nat} (h : 2 ^ k ≤ most) (hm : most ≤ 65536) : k ≤ 16 := by
  have e : 2 ^ 16 = 65536 := by decide
  exact (Nat.pow_le_pow_iff_right (by decide : 1 < 2)).1 (by rw [e]; omega)
theorem or_nat (a b : Nat) (ha : a < 4611686018427387904) (hb : b < 4611686018427387904) : bits .or .i64 (a : Int) (b : Int) = ((a ||| b : Nat) : Int) := by
  have e : ∀ x : Nat, x < 4611686018427387904 → (BitVec.ofInt 64 (x : Int)).toNat = x := fun x hx => by
    rw [BitVec.toNat_ofInt]
    omega
  have key : (BitVec.ofInt 64 (a : Int) ||| BitVec.ofInt 64 (b : Int)).toNat = a ||| b := by rw [BitVec.toNat_or, e a ha, e b hb]
  show IntKind.i64.wrap ((BitVec.ofInt 64 (a : Int) ||| BitVec.ofInt 64 (b : Int)).toNat : Nat) = _
  have hl : a ||| b < 2 ^ 62 := Nat.or_lt_two_pow (by exact ha) (by exact hb)
  rw [key, IntKind.wrap_i64]
  have : (2 : Nat) ^ 62 = 4611686018427387904 := by decide
  omega
/-- what has come of a reader so far, and what is left -/
def Lft (R : Nat × Option Nat) (k : Nat) (F : Nat × Option Nat) : Prop := R = (k + F.1, F.2)
theorem digs_cases (c : List Nat) (T : Nat) : ((digs c).drop T = [] ) ∨ ∃ d, (digs c).drop T = d :: (digs c).drop (T + 1) := by
  by_cases hin : T / 8 < c.length
  · exact .inr ⟨_, digs_drop_get hin⟩
  · exact .inl (digs_drop_end hin)
set_option maxHeartbeats 2000000 in
theorem stretch_any {w0 w : World} {p T : Nat} {cv : Value} {c : List Nat} (h : RS w0 w p cv c T) (hT : T < 4611686018427300000) (most : Nat) (h1 : 1 ≤ most) (h2 : most ≤ 65536) :
    Calls Tryd.prog 60 #[.pointer (some ⟨p, 0, none⟩), .int .i64 (most : Int)] w fun e w' => e = .returned (.tuple #[.int .i64 (((stR most ((digs c).drop T)).2.getD 0 : Nat) : Int), .bool (stR most ((digs c).drop T)).2.isSome]) ∧ RS w0 w' p cv c (T + (stR most ((digs c).drop T)).1) := by
  obtain ⟨R, hR⟩ : ∃ R, stR most ((digs c).drop T) = R := ⟨_, rfl⟩
  rw [hR]
  have HR := hide hR
  have HS := hide h
  clear hR h
  go_enter Tryd.func60, Tryd.ntmps60
  go_wp2_with fail
  go_loopw [6, 7] (fun z y wr => ∃ k t : Nat, y = .int .i64 (k : Int) ∧ z = .int .i64 (t : Int) ∧ t ≤ most ∧ Hid (t = 2 ^ k) ∧ Hid (RS w0 wr p cv c (T + k)) ∧ Hid (Lft R k (stK most k ((digs c).drop (T + k))))) (fun _ y _ => 20 - (intOf y).toNat)
  case atStart => exact ⟨0, 1, rfl, rfl, h1, hide rfl, hide HS.out, hide (by unfold Lft; rw [stK_zero, Nat.add_zero, ← HR.out]; simp)⟩
  case round =>
    obtain ⟨k, t, rfl, rfl, ht, HTK, HRS, HL⟩ := hrel
    clear HS HR
    have hk : k ≤ 16 := pow_small (by rw [← HTK.out]; exact ht) h2
    have HD := hide (HRS.out.digit (by omega))
    rcases digs_cases c (T + k) with hnil | ⟨d, hcons⟩
    · rw [hnil] at HD HL
      have HL2 : Hid (R = (k + 1, none)) := hide (by have := HL.out; unfold Lft at this; rw [stK_nil (by omega)] at this; exact this)
      clear hnil HL
      simp only [dgR, Option.getD, Option.isSome, Bool.toNat_false] at HD
      go_wp2_with (go_at_call 59; refine HD.out.mono ?_; clear HD; rintro e w' ⟨rfl, h8⟩; have H8 := hide h8; clear h8)
      refine bodyPost_ret (results_tmp2 rfl _ _ _) rfl ?_
      rw [HL2.out]
      exact ⟨rfl, by rw [← Nat.add_assoc]; exact H8.out⟩
    · rw [hcons] at HD HL
      simp only [dgR, Option.getD, Option.isSome] at HD
      cases d with
      | true =>
        have HL2 : Hid (Lft R (k + 1) (loR most k t ((digs c).drop (T + k + 1)))) := hide (by have := HL.out; unfold Lft at this ⊢; rw [this, stK_one (by omega), HTK.out]; exact Prod.ext (by show k + (1 + _) = k + 1 + _; omega) rfl)
        clear hcons HL
        simp only [Bool.toNat_true] at HD
        go_wp2_with (go_at_call 59; refine HD.out.mono ?_; clear HD; rintro e w' ⟨rfl, h8⟩; have H8 := hide h8; clear h8)
        have HDV : Hid (2 ^ k ∣ t) := hide (by rw [HTK.out]; exact Nat.dvd_refl _)
        have HT1 : Hid (t ≤ most) := hide ht
        go_loopw [6, 10] (fun z y wr => ∃ j x n : Nat, y = .int .i64 ((j : Int) - 1) ∧ z = .int .i64 (x : Int) ∧ x ≤ most ∧ j ≤ 16 ∧ n + j ≤ 33 ∧ Hid (2 ^ j ∣ x) ∧ Hid (RS w0 wr p cv c (T + n)) ∧ Hid (Lft R n (loR most j x ((digs c).drop (T + n))))) (fun _ y _ => (intOf y + 1).toNat)
        case atStart => exact ⟨k, t, k + 1, rfl, rfl, HT1.out, hk, by omega, HDV, hide (by rw [← Nat.add_assoc]; exact H8.out), hide (by rw [← Nat.add_assoc]; exact HL2.out)⟩
        case round =>
          clear HL2 H8 HRS HDV HT1 HTK ht hk
          obtain ⟨j, x, n, rfl, rfl, hx, hj, hn, HDV, HRS, HL⟩ := hrel
          cases j with
          | zero =>
            have hge : ¬ (0 : Int) ≤ ((0 : Nat) : Int) - 1 := by omega
            have HL2 : Hid (R = (n, some x)) := hide HL.out
            clear HL
            go_wp2_with fail
            refine bodyPost_ret (results_tmp2 rfl _ _ _) rfl ?_
            rw [HL2.out]
            exact ⟨rfl, HRS.out⟩
          | succ j =>
            have ej : (((j + 1 : Nat) : Int) - 1) = (j : Int) := by omega
            rw [ej]
            have HD := hide (HRS.out.digit (by omega))
            rcases digs_cases c (T + n) with hnil | ⟨d, hcons⟩
            · rw [hnil] at HD HL
              have HL2 : Hid (R = (n + 1, none)) := hide HL.out
              clear hnil HL
              simp only [dgR, Option.getD, Option.isSome, Bool.toNat_false] at HD
              go_wp2_with (go_at_call 59; refine HD.out.mono ?_; clear HD; rintro e w' ⟨rfl, h8⟩; have H8 := hide h8; clear h8)
              refine bodyPost_ret (results_tmp2 rfl _ _ _) rfl ?_
              rw [HL2.out]
              exact ⟨rfl, by rw [← Nat.add_assoc]; exact H8.out⟩
            · rw [hcons] at HD HL
              simp only [dgR, Option.getD, Option.isSome] at HD
              have HDW : Hid (2 ^ j ∣ x) := hide (Nat.dvd_trans ⟨2, by rw [Nat.pow_succ]⟩ HDV.out)
              cases d with
              | false =>
                have hor : bits .or .i64 (x : Int) 0 = (x : Int) := by
                  have := or_nat x 0 (by omega) (by decide)
                  simpa using this
                have hnb : ¬ most < x := by omega
                have HL2 : Hid (Lft R (n + 1) (loR most j x ((digs c).drop (T + (n + 1))))) := hide (by
                  have := HL.out
                  unfold Lft at this ⊢
                  rw [this, lo_go _ (by simp; omega)]
                  simp only [Bool.toNat_false, Nat.zero_mul, Nat.add_zero]
                  exact Prod.ext (by show n + (1 + _) = n + 1 + _; rw [← Nat.add_assoc, ← Nat.add_assoc]) rfl)
                clear hcons HL
                simp only [Bool.toNat_false] at HD
                go_wp2_with (go_at_call 59; refine HD.out.mono ?_; clear HD; rintro e w' ⟨rfl, h8⟩; have H8 := hide h8; clear h8)
                go_roundw
                case rel => exact ⟨j, x, n + 1, rfl, rfl, hx, by omega, by omega, HDW, hide (by rw [← Nat.add_assoc]; exact H8.out), HL2⟩
                case measure => simp [intOf] <;> omega
              | true =>
                simp only [Bool.toNat_true] at HD
                have hj16 : 2 ^ j ≤ 65536 := by
                  have e : 2 ^ 16 = 65536 := by decide
                  rw [← e]
                  exact Nat.pow_le_pow_right (by decide) (by omega)
                have hw : wrap64 (2 ^ j) = ((2 ^ j : Nat) : Int) := by
                  have e : ((2 : Int) ^ j) = ((2 ^ j : Nat) : Int) := by simp
                  rw [e]
                  generalize 2 ^ j = q at *
                  unfold wrap64
                  omega
                have hor : bits .or .i64 (x : Int) (wrap64 (2 ^ j)) = ((x + 2 ^ j : Nat) : Int) := by
                  rw [hw, or_nat x (2 ^ j) (by omega) (by omega), nat_join (j + 1) x (2 ^ j) (Nat.mod_eq_zero_of_dvd HDV.out) (Nat.pow_lt_pow_right (by decide) (by omega))]
                have HDX : Hid (2 ^ j ∣ x + 2 ^ j) := hide (Nat.dvd_add HDW.out (Nat.dvd_refl _))
                have HGO : Hid (¬ most < x + 2 ^ j → Lft R (n + 1) (loR most j (x + 2 ^ j) ((digs c).drop (T + (n + 1))))) := hide fun hnb => by
                  have := HL.out
                  unfold Lft at this ⊢
                  rw [this, lo_go _ (by simpa using hnb)]
                  simp only [Bool.toNat_true, Nat.one_mul]
                  exact Prod.ext (by show n + (1 + _) = n + 1 + _; rw [← Nat.add_assoc, ← Nat.add_assoc]) rfl
                have HNO : Hid (most < x + 2 ^ j → R = (n + 1, none)) := hide fun hnb => by
                  have := HL.out
                  unfold Lft at this
                  rw [this, lo_bad _ (by simpa using hnb)]
                clear hcons HL hw
                generalize x + 2 ^ j = y at *
                by_cases hb : most < y
                · have HL2 := hide (HNO.out hb)
                  have hbi : (most : Int) < (y : Int) := by omega
                  go_wp2_with (go_at_call 59; refine HD.out.mono ?_; clear HD; rintro e w' ⟨rfl, h8⟩; have H8 := hide h8; clear h8)
                  refine bodyPost_ret (results_tmp2 rfl _ _ _) rfl ?_
                  rw [HL2.out]
                  exact ⟨rfl, by rw [← Nat.add_assoc]; exact H8.out⟩
                · have HL2 := hide (HGO.out hb)
                  have hbi : ¬ (most : Int) < (y : Int) := by omega
                  go_wp2_with (go_at_call 59; refine HD.out.mono ?_; clear HD; rintro e w' ⟨rfl, h8⟩; have H8 := hide h8; clear h8)
                  go_roundw
                  case rel => exact ⟨j, y, n + 1, rfl, rfl, by omega, by omega, by omega, HDX, hide (by rw [← Nat.add_assoc]; exact H8.out), HL2⟩
                  case measure => simp [intOf] <;> omega
      | false =>
        simp only [Bool.toNat_false] at HD
        by_cases hb : most < t * 2
        · have HL2 : Hid (R = (k + 1, none)) := hide (by have := HL.out; unfold Lft at this; rw [stK_bad (by omega) _ (by rw [Nat.pow_succ, ← HTK.out]; exact hb)] at this; exact this)
          have hbi : (most : Int) < (t : Int) * 2 := by omega
          clear hcons HL
          go_wp2_with (go_at_call 59; refine HD.out.mono ?_; clear HD; rintro e w' ⟨rfl, h8⟩; have H8 := hide h8; clear h8)
          refine bodyPost_ret (results_tmp2 rfl _ _ _) rfl ?_
          rw [HL2.out]
          exact ⟨rfl, by rw [← Nat.add_assoc]; exact H8.out⟩
        · have HL2 : Hid (Lft R (k + 1) (stK most (k + 1) ((digs c).drop (T + (k + 1))))) := hide (by have := HL.out; unfold Lft at this ⊢; rw [this, stK_go (by omega) _ (by rw [Nat.pow_succ, ← HTK.out]; exact hb)]; exact Prod.ext (by show k + (1 + _) = k + 1 + _; rw [← Nat.add_assoc, ← Nat.add_assoc]) rfl)
          have hbi : ¬ (most : Int) < (t : Int) * 2 := by omega
          clear hcons HL
          go_wp2_with (go_at_call 59; refine HD.out.mono ?_; clear HD; rintro e w' ⟨rfl, h8⟩; have H8 := hide h8; clear h8)
          go_roundw
          case rel => exact ⟨k + 1, t * 2, by go_num, by go_num, by omega, hide (by rw [Nat.pow_succ, ← HTK.out]), hide (by rw [← Nat.add_assoc]; exact H8.out), HL2⟩
          case measure => simp [intOf] <;> omega
end Go.Proofs.YtglajdmkbckjjabDoor
