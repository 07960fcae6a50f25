import Derived.Test.YtglajdmkbckjjabBIntact
namespace Go.Proofs.Ytglajdmkbckjjab
open Go.RowKit Go.Shelf
set_option linter.unusedVariables false
set_option linter.unusedSimpArgs false
set_option maxRecDepth 20000

/-- the bits from a on, ahead of b, become 'to' -/
def putR (to : Bool) (B a b : Nat) : Nat := if to then setR B a b else clrR B a b
theorem testBit_putR (to : Bool) (B a b i : Nat) : (putR to B a b).testBit i = if a ≤ i ∧ i < b then to else B.testBit i := by
  cases to
  · simp only [putR, if_neg Bool.false_ne_true, testBit_clrR]
    by_cases h : a ≤ i ∧ i < b
    · simp [h.1, h.2]
    · rw [if_neg h]
      by_cases h1 : a ≤ i
      · have h2 : ¬ i < b := fun h2 => h ⟨h1, h2⟩
        simp [h1, h2]
      · simp [h1]
  · simp only [putR, if_true, testBit_setR]
    by_cases h : a ≤ i ∧ i < b
    · simp [h.1, h.2]
    · rw [if_neg h]
      by_cases h1 : a ≤ i
      · have h2 : ¬ i < b := fun h2 => h ⟨h1, h2⟩
        simp [h1, h2]
      · simp [h1]
theorem putR_lt {to : Bool} {B a b n : Nat} (hB : B < 2 ^ n) (hb : b ≤ n) : putR to B a b < 2 ^ n := lt_of_bits fun j hj => by
  rw [testBit_putR, if_neg (by omega)]
  exact Nat.testBit_lt_two_pow (Nat.lt_of_lt_of_le hB (Nat.pow_le_pow_right (by decide) hj))
theorem putR_nil (to : Bool) (B a : Nat) : putR to B a a = B := Nat.eq_of_testBit_eq fun i => by rw [testBit_putR, if_neg (by omega)]
theorem RRep.bits {w : World} {R : RL} {n B B' : Nat} (h : RRep w R n B) (e : B = B') : RRep w R n B' := e ▸ h

set_option maxHeartbeats 1000000 in
theorem rPutRange_any {w : World} {R : RL} {n B a c : Nat} (h : RRep w R n B) (to : Bool) (hac : a + c ≤ n) :
    Calls Try.prog 20 #[PR R, .int .i64 (a : Int), .int .i64 (c : Int), .bool to] w fun e w' => e = .returned (.tuple #[.int .i64 ((cnt (fun j => B.testBit (a + j) != to) c : Nat) : Int), .int .i64 0]) ∧ RRep w' R n (putR to B a (a + c)) ∧ Chg R.U w w' := by
  have hrg := ranged_any h (a : Int) (c : Int)
  rw [show rgErr n (a : Int) (c : Int) = 0 from by unfold rgErr; rw [if_neg (by omega), if_neg (by omega)]] at hrg
  have HRG := hide hrg
  have HH := hide h
  have hn := h.n2
  have HF := hide (fun k => cnt_succ (fun j => B.testBit (a + j) != to) k)
  have HLE := hide (cnt_le (fun j => B.testBit (a + j) != to))
  have HZ : Hid (cnt (fun j => B.testBit (a + j) != to) 0 = 0) := hide rfl
  clear h hrg
  unfold PR
  generalize cnt (fun j => B.testBit (a + j) != to) = F at *
  go_enter Try.func20, Try.ntmps20
  go_wp2_with (go_at_call 30; refine HRG.out.mono ?_; rintro e w' ⟨rfl, hw'⟩; cases hw')
  go_loopw [11, 12] (fun x i wr => ∃ k : Nat, k ≤ c ∧ i = .int .i64 ((a + k : Nat) : Int) ∧ x = .int .i64 ((F k : Nat) : Int) ∧ RRep wr R n (putR to B a (a + k)) ∧ Chg R.U w wr) (fun _ i _ => a + c - (intOf i).toNat)
  case atStart => exact ⟨0, Nat.zero_le _, rfl, by rw [HZ.out]; rfl, HH.out.bits (putR_nil _ _ _).symm, Chg.refl _ _⟩
  case round =>
    obtain ⟨k, hk, rfl, rfl, hR, hC⟩ := hrel
    have HR := hide hR
    have HC := hide hC
    have hle := HLE.out k
    clear hC HRG
    by_cases hltk : k < c
    · have hcb := hR.cb (i := a + k) (by omega)
      have hc0 := hR.c0
      have hfb := hR.fb (a + k)
      rw [testBit_putR, if_neg (by omega)] at hcb
      have hf := HF.out k
      have HS := hide (hR.set (B' := putR to B a (a + (k + 1))) (x := to) (i := a + k) (by omega) (by rw [testBit_putR, if_pos ⟨by omega, by omega⟩]) (fun j _ hj => by
        rw [testBit_putR, testBit_putR]
        by_cases hx : a ≤ j ∧ j < a + k
        · rw [if_pos hx, if_pos ⟨hx.1, by omega⟩]
        · rw [if_neg hx, if_neg (by omega)]) (putR_lt HH.out.hB (by omega)))
      have HCC := hide (HC.out.trans HS.out.2.1)
      clear hR
      cases hbit : B.testBit (a + k) <;> cases to <;> rw [hbit] at hcb hf <;> clear hbit <;> simp at hf
      all_goals
        go_wp2_with fail
        go_roundw
        case rel => exact ⟨k + 1, by omega, by go_num, by rw [hf]; first | done | go_num, HS.out.1, HCC.out⟩
        case measure => simp [intOf]; omega
    · have ek : k = c := by omega
      subst ek
      clear hR
      go_wp2_with fail
      go_ret2
      exact ⟨rfl, HR.out, HC.out⟩
theorem rPutRange_no {w : World} {R : RL} {n B : Nat} (h : RRep w R n B) (a c : Int) (to : Bool) (he : rgErr n a c ≠ 0) :
    Calls Try.prog 20 #[PR R, .int .i64 a, .int .i64 c, .bool to] w fun e w' => e = .returned (.tuple #[.int .i64 0, .int .i64 ((rgErr n a c : Nat) : Int)]) ∧ w' = w := by
  have HRG := hide (ranged_any h a c)
  have hne : (((rgErr n a c : Nat) : Int) != 0) = true := by simpa using he
  clear h
  unfold PR at *
  generalize rgErr n a c = r at *
  go_enter Try.func20, Try.ntmps20
  go_wp2_with (go_at_call 30; refine HRG.out.mono ?_; rintro e w' ⟨rfl, hw'⟩; cases hw')
  go_ret2
  exact ⟨rfl, rfl⟩
end Go.Proofs.Ytglajdmkbckjjab
