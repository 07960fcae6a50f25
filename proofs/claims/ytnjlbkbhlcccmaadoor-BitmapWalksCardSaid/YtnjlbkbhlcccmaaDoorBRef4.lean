import Derived.Test.YtnjlbkbhlcccmaaDoorBIntact
namespace Go.Proofs.YtnjlbkbhlcccmaaDoor
open Go.RowKit Go.Shelf
set_option linter.unusedVariables false
set_option linter.unusedSimpArgs false
set_option maxRecDepth 20000

/-- the bits from a on, ahead of b, become 'to' -/
def putR (to : Bool) (B a b : Nat) : Nat := if to then setR B a b else clrR B a b
theorem testBit_putR (to : Bool) (B a b i : Nat) : (putR to B a b).testBit i = if a ≤ i ∧ i < b then to else B.testBit i := by
  cases to
  · simp only [putR, if_neg Bool.false_ne_true, testBit_clrR]
    by_cases h : a ≤ i ∧ i < b
    · simp [h.1, h.2]
    · rw [if_neg h]
      by_cases h1 : a ≤ i
      · have h2 : ¬ i < b := fun h2 => h ⟨h1, h2⟩
        simp [h1, h2]
      · simp [h1]
  · simp only [putR, if_true, testBit_setR]
    by_cases h : a ≤ i ∧ i < b
    · simp [h.1, h.2]
    · rw [if_neg h]
      by_cases h1 : a ≤ i
      · have h2 : ¬ i < b := fun h2 => h ⟨h1, h2⟩
        simp [h1, h2]
      · simp [h1]
theorem putR_lt {to : Bool} {B a b n : Nat} (hB : B < 2 ^ n) (hb : b ≤ n) : putR to B a b < 2 ^ n := lt_of_bits fun j hj => by
  rw [testBit_putR, if_neg (by omega)]
  exact Nat.testBit_lt_two_pow (Nat.lt_of_lt_of_le hB (Nat.pow_le_pow_right (by decide) hj))
theorem putR_nil (to : Bool) (B a : Nat) : putR to B a a = B := Nat.eq_of_testBit_eq fun i => by rw [testBit_putR, if_neg (by omega)]
theorem RRep.bits {w : World} {R : RL} {n B B' : Nat} (h : RRep w R n B) (e : B = B') : RRep w R n B' := e ▸ h

theorem rTest_any {w : World} {R : RL} {n B i : Nat} (h : RRep w R n B) (hi : i < n) : Calls Tryd.prog 42 #[PR R, .int .i64 (i : Int)] w fun e w' => e = .returned (.tuple #[.bool (B.testBit i), .int .i64 0]) ∧ w' = w := by
  have c0 := h.c0
  have c1 := h.cb hi
  have hn := h.n2
  clear h
  unfold PR
  generalize B.testBit i = b at *
  go_enter Tryd.func42, Tryd.ntmps42
  go_wp2
  go_ret2
  exact ⟨rfl, rfl⟩
theorem rTest_no {w : World} {R : RL} {n B : Nat} (h : RRep w R n B) (i : Int) (hi : ¬ (0 ≤ i ∧ i < n)) : Calls Tryd.prog 42 #[PR R, .int .i64 i] w fun e w' => e = .returned (.tuple #[.bool false, .int .i64 2]) ∧ w' = w := by
  have c0 := h.c0
  have hn := h.n2
  clear h
  unfold PR
  by_cases h1 : i < 0
  · go_enter Tryd.func42, Tryd.ntmps42
    go_wp2
    go_ret2
    exact ⟨rfl, rfl⟩
  · have h2 : (n : Int) ≤ i := by omega
    go_enter Tryd.func42, Tryd.ntmps42
    go_wp2
    go_ret2
    exact ⟨rfl, rfl⟩
theorem rPut_no {w : World} {R : RL} {n B : Nat} (h : RRep w R n B) (i : Int) (to : Bool) (hi : ¬ (0 ≤ i ∧ i < n)) : Calls Tryd.prog 35 #[PR R, .int .i64 i, .bool to] w fun e w' => e = .returned (.tuple #[.bool false, .int .i64 2]) ∧ w' = w := by
  have c0 := h.c0
  have hn := h.n2
  clear h
  unfold PR
  by_cases h1 : i < 0
  · go_enter Tryd.func35, Tryd.ntmps35
    go_wp2
    go_ret2
    exact ⟨rfl, rfl⟩
  · have h2 : (n : Int) ≤ i := by omega
    go_enter Tryd.func35, Tryd.ntmps35
    go_wp2
    go_ret2
    exact ⟨rfl, rfl⟩
theorem rPut_any {w : World} {R : RL} {n B i : Nat} (h : RRep w R n B) (to : Bool) (hi : i < n) : Calls Tryd.prog 35 #[PR R, .int .i64 (i : Int), .bool to] w fun e w' => e = .returned (.tuple #[.bool (B.testBit i != to), .int .i64 0]) ∧ RRep w' R n (putR to B i (i + 1)) ∧ Chg R.U w w' := by
  have c0 := h.c0
  have c1 := h.cb hi
  have f1 := h.fb i
  have hn := h.n2
  have HS := hide (h.set (B' := putR to B i (i + 1)) (x := to) hi (by rw [testBit_putR, if_pos ⟨Nat.le_refl _, by omega⟩]) (fun j _ hj => by rw [testBit_putR, if_neg (by omega)]) (putR_lt h.hB (by omega)))
  clear h
  unfold PR
  generalize B.testBit i = b at *
  cases b <;> cases to <;>
    (go_enter Tryd.func35, Tryd.ntmps35
     go_wp2
     go_ret2
     exact ⟨rfl, HS.out.1, HS.out.2.1⟩)
set_option maxHeartbeats 1000000 in
theorem rPutRange_any {w : World} {R : RL} {n B a c : Nat} (h : RRep w R n B) (to : Bool) (hac : a + c ≤ n) :
    Calls Tryd.prog 38 #[PR R, .int .i64 (a : Int), .int .i64 (c : Int), .bool to] w fun e w' => e = .returned (.tuple #[.int .i64 ((cnt (fun j => B.testBit (a + j) != to) c : Nat) : Int), .int .i64 0]) ∧ RRep w' R n (putR to B a (a + c)) ∧ Chg R.U w w' := by
  have hrg := ranged_any h (a : Int) (c : Int)
  rw [show rgErr n (a : Int) (c : Int) = 0 from by unfold rgErr; rw [if_neg (by omega), if_neg (by omega)]] at hrg
  have HRG := hide hrg
  have HH := hide h
  have hn := h.n2
  have HF := hide (fun k => cnt_succ (fun j => B.testBit (a + j) != to) k)
  have HLE := hide (cnt_le (fun j => B.testBit (a + j) != to))
  have HZ : Hid (cnt (fun j => B.testBit (a + j) != to) 0 = 0) := hide rfl
  clear h hrg
  unfold PR
  generalize cnt (fun j => B.testBit (a + j) != to) = F at *
  go_enter Tryd.func38, Tryd.ntmps38
  go_wp2_with (go_at_call 62; refine HRG.out.mono ?_; rintro e w' ⟨rfl, hw'⟩; cases hw')
  go_loopw [11, 12] (fun x i wr => ∃ k : Nat, k ≤ c ∧ i = .int .i64 ((a + k : Nat) : Int) ∧ x = .int .i64 ((F k : Nat) : Int) ∧ RRep wr R n (putR to B a (a + k)) ∧ Chg R.U w wr) (fun _ i _ => a + c - (intOf i).toNat)
  case atStart => exact ⟨0, Nat.zero_le _, rfl, by rw [HZ.out]; rfl, HH.out.bits (putR_nil _ _ _).symm, Chg.refl _ _⟩
  case round =>
    obtain ⟨k, hk, rfl, rfl, hR, hC⟩ := hrel
    have HR := hide hR
    have HC := hide hC
    have hle := HLE.out k
    clear hC HRG
    by_cases hltk : k < c
    · have hcb := hR.cb (i := a + k) (by omega)
      have hc0 := hR.c0
      have hfb := hR.fb (a + k)
      rw [testBit_putR, if_neg (by omega)] at hcb
      have hf := HF.out k
      have HS := hide (hR.set (B' := putR to B a (a + (k + 1))) (x := to) (i := a + k) (by omega) (by rw [testBit_putR, if_pos ⟨by omega, by omega⟩]) (fun j _ hj => by
        rw [testBit_putR, testBit_putR]
        by_cases hx : a ≤ j ∧ j < a + k
        · rw [if_pos hx, if_pos ⟨hx.1, by omega⟩]
        · rw [if_neg hx, if_neg (by omega)]) (putR_lt HH.out.hB (by omega)))
      have HCC := hide (HC.out.trans HS.out.2.1)
      clear hR
      cases hbit : B.testBit (a + k) <;> cases to <;> rw [hbit] at hcb hf <;> clear hbit <;> simp at hf
      all_goals
        go_wp2_with fail
        go_roundw
        case rel => exact ⟨k + 1, by omega, by go_num, by rw [hf]; first | done | go_num, HS.out.1, HCC.out⟩
        case measure => simp [intOf]; omega
    · have ek : k = c := by omega
      subst ek
      clear hR
      go_wp2_with fail
      go_ret2
      exact ⟨rfl, HR.out, HC.out⟩
theorem rPutRange_no {w : World} {R : RL} {n B : Nat} (h : RRep w R n B) (a c : Int) (to : Bool) (he : rgErr n a c ≠ 0) :
    Calls Tryd.prog 38 #[PR R, .int .i64 a, .int .i64 c, .bool to] w fun e w' => e = .returned (.tuple #[.int .i64 0, .int .i64 ((rgErr n a c : Nat) : Int)]) ∧ w' = w := by
  have HRG := hide (ranged_any h a c)
  have hne : (((rgErr n a c : Nat) : Int) != 0) = true := by simpa using he
  clear h
  unfold PR at *
  generalize rgErr n a c = r at *
  go_enter Tryd.func38, Tryd.ntmps38
  go_wp2_with (go_at_call 62; refine HRG.out.mono ?_; rintro e w' ⟨rfl, hw'⟩; cases hw')
  go_ret2
  exact ⟨rfl, rfl⟩
theorem rCountRange_no {w : World} {R : RL} {n B : Nat} (h : RRep w R n B) (a c : Int) (he : rgErr n a c ≠ 0) :
    Calls Tryd.prog 46 #[PR R, .int .i64 a, .int .i64 c] w fun e w' => e = .returned (.tuple #[.int .i64 0, .int .i64 ((rgErr n a c : Nat) : Int)]) ∧ w' = w := by
  have HRG := hide (ranged_any h a c)
  have hne : (((rgErr n a c : Nat) : Int) != 0) = true := by simpa using he
  clear h
  unfold PR at *
  generalize rgErr n a c = r at *
  go_enter Tryd.func46, Tryd.ntmps46
  go_wp2_with (go_at_call 62; refine HRG.out.mono ?_; rintro e w' ⟨rfl, hw'⟩; cases hw')
  go_ret2
  exact ⟨rfl, rfl⟩
set_option maxHeartbeats 400000 in
theorem rFind_neg {w : World} {R : RL} {n B : Nat} (h : RRep w R n B) (i : Int) (to : Bool) (hi : i < 0) :
    Calls Tryd.prog 19 #[PR R, .int .i64 i, .bool to] w fun e w' => e = .returned (.int .i64 (orN (fnd (fun j => B.testBit j == to) i.toNat (n - i.toNat)))) ∧ w' = w := by
  have c0 := h.c0
  have hn := h.n2
  have HCB : Hid (∀ i, i < n → w.cell? ⟨R.b, i, none⟩ = some (.bool (B.testBit i))) := hide fun i hi => h.cb hi
  clear h
  unfold PR
  rw [show i.toNat = 0 by omega]
  have HST : Hid (∀ k, 0 ≤ k → k < n → fnd (fun j => B.testBit j == to) k (n - k) = if (B.testBit k == to) then some k else fnd (fun j => B.testBit j == to) (k + 1) (n - (k + 1))) := hide fun k h1 h2 => by
    rw [show n - k = (n - (k + 1)) + 1 by omega]; rfl
  have HEND : Hid (∀ k, n ≤ k → fnd (fun j => B.testBit j == to) k (n - k) = none) := hide fun k hk => by
    rw [show n - k = 0 by omega]; rfl
  obtain ⟨G, hG⟩ : ∃ G : Nat → Option Nat, ∀ k, G k = fnd (fun j => B.testBit j == to) k (n - k) := ⟨_, fun _ => rfl⟩
  simp only [← hG] at HST HEND
  rw [← hG]
  clear hG
  obtain ⟨res, hres⟩ : ∃ r : Int, r = orN (G 0) := ⟨_, rfl⟩
  rw [← hres]
  have HRES := hide hres
  clear hres
  go_enter Tryd.func19, Tryd.ntmps19
  go_wp2_with fail
  go_loopw [7] (fun x wr => ∃ k : Nat, 0 ≤ k ∧ (k ≤ n ∨ k = 0) ∧ x = .int .i64 (k : Int) ∧ G 0 = G k ∧ wr = w) (fun x _ => n - (intOf x).toNat)
  case atStart => exact ⟨0, Nat.le_refl _, .inr rfl, rfl, rfl, rfl⟩
  case round =>
    obtain ⟨k, hk0, hk1, rfl, hg, rfl⟩ := hrel
    by_cases hlt : k < n
    · have hcb := HCB.out k hlt
      have hst := HST.out k hk0 hlt
      clear HST HCB HEND
      generalize B.testBit k = b at *
      cases b <;> cases to <;> simp at hst
      all_goals
        have HG := hide (hg.trans hst)
        clear hst hg
        go_wp2_with fail
        first
          | (go_roundw
             case rel => exact ⟨k + 1, by omega, .inl (by omega), by go_num, HG.out, trivial⟩
             case measure => simp [intOf]; omega)
          | (go_ret
             exact ⟨by rw [HRES.out, HG.out]; rfl, rfl⟩)
    · have HG := hide (hg.trans (HEND.out k (by omega)))
      clear HST HCB HEND hg
      go_wp2_with fail
      go_ret
      exact ⟨by rw [HRES.out, HG.out]; rfl, rfl⟩
set_option maxHeartbeats 400000 in
theorem rFind_pos {w : World} {R : RL} {n B : Nat} (h : RRep w R n B) (i : Int) (to : Bool) (hi : 0 ≤ i) :
    Calls Tryd.prog 19 #[PR R, .int .i64 i, .bool to] w fun e w' => e = .returned (.int .i64 (orN (fnd (fun j => B.testBit j == to) i.toNat (n - i.toNat)))) ∧ w' = w := by
  have c0 := h.c0
  have hn := h.n2
  have HCB : Hid (∀ i, i < n → w.cell? ⟨R.b, i, none⟩ = some (.bool (B.testBit i))) := hide fun i hi => h.cb hi
  clear h
  unfold PR
  obtain ⟨s, rfl⟩ : ∃ s : Nat, i = (s : Int) := ⟨i.toNat, by omega⟩
  rw [Int.toNat_natCast]
  have HST : Hid (∀ k, s ≤ k → k < n → fnd (fun j => B.testBit j == to) k (n - k) = if (B.testBit k == to) then some k else fnd (fun j => B.testBit j == to) (k + 1) (n - (k + 1))) := hide fun k h1 h2 => by
    rw [show n - k = (n - (k + 1)) + 1 by omega]; rfl
  have HEND : Hid (∀ k, n ≤ k → fnd (fun j => B.testBit j == to) k (n - k) = none) := hide fun k hk => by
    rw [show n - k = 0 by omega]; rfl
  obtain ⟨G, hG⟩ : ∃ G : Nat → Option Nat, ∀ k, G k = fnd (fun j => B.testBit j == to) k (n - k) := ⟨_, fun _ => rfl⟩
  simp only [← hG] at HST HEND
  rw [← hG]
  clear hG
  obtain ⟨res, hres⟩ : ∃ r : Int, r = orN (G s) := ⟨_, rfl⟩
  rw [← hres]
  have HRES := hide hres
  clear hres
  go_enter Tryd.func19, Tryd.ntmps19
  go_wp2_with fail
  go_loopw [7] (fun x wr => ∃ k : Nat, s ≤ k ∧ (k ≤ n ∨ k = s) ∧ x = .int .i64 (k : Int) ∧ G s = G k ∧ wr = w) (fun x _ => n - (intOf x).toNat)
  case atStart => exact ⟨s, Nat.le_refl _, .inr rfl, rfl, rfl, rfl⟩
  case round =>
    obtain ⟨k, hk0, hk1, rfl, hg, rfl⟩ := hrel
    by_cases hlt : k < n
    · have hcb := HCB.out k hlt
      have hst := HST.out k hk0 hlt
      clear HST HCB HEND
      generalize B.testBit k = b at *
      cases b <;> cases to <;> simp at hst
      all_goals
        have HG := hide (hg.trans hst)
        clear hst hg
        go_wp2_with fail
        first
          | (go_roundw
             case rel => exact ⟨k + 1, by omega, .inl (by omega), by go_num, HG.out, trivial⟩
             case measure => simp [intOf]; omega)
          | (go_ret
             exact ⟨by rw [HRES.out, HG.out]; rfl, rfl⟩)
    · have HG := hide (hg.trans (HEND.out k (by omega)))
      clear HST HCB HEND hg
      go_wp2_with fail
      go_ret
      exact ⟨by rw [HRES.out, HG.out]; rfl, rfl⟩
end Go.Proofs.YtnjlbkbhlcccmaaDoor
