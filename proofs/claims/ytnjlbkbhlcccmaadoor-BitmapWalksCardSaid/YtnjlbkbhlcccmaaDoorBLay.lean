import Derived.Test.YtnjlbkbhlcccmaaDoorBNext3
namespace Go.Proofs.YtnjlbkbhlcccmaaDoor
open Go.RowKit
set_option linter.unusedVariables false
set_option linter.unusedSimpArgs false

theorem up_set {B B' m k x : Nat} (hk : k < m) (h1 : wd B' k = x) (h2 : ∀ j, j < m → j ≠ k → wd B' j = wd B j) :
    (x ≠ 0 → wd (up B m) (k / 64) ||| 2 ^ (k % 64) = wd (up B' m) (k / 64)) ∧ (x = 0 → wd (up B m) (k / 64) &&& (18446744073709551615 - 2 ^ (k % 64)) = wd (up B' m) (k / 64)) ∧
    ∀ j, j ≠ k / 64 → wd (up B' m) j = wd (up B m) j := by
  have hs : k % 64 < 64 := Nat.mod_lt _ (by decide)
  have hp : 2 ^ (k % 64) < 18446744073709551616 := Nat.pow_lt_pow_right (a := 2) (by decide) hs
  have key : ∀ i, i < 64 → i ≠ k % 64 → (wd (up B' m) (k / 64)).testBit i = (wd (up B m) (k / 64)).testBit i := fun i hi hne => by
    rw [testBit_wd, testBit_wd, testBit_up, testBit_up]
    by_cases hm : 64 * (k / 64) + i < m
    · rw [h2 _ hm (by omega)]
    · simp [hm]
  have at_ : (wd (up B' m) (k / 64)).testBit (k % 64) = decide (x ≠ 0) := by
    rw [testBit_wd, testBit_up, show 64 * (k / 64) + k % 64 = k by omega, h1]
    simp [hk, hs]
  refine ⟨fun h0 => ?_, fun h0 => ?_, fun j hj => ?_⟩
  · apply Nat.eq_of_testBit_eq
    intro i
    rw [Nat.testBit_or, Nat.testBit_two_pow]
    by_cases e : i = k % 64
    · subst e; rw [at_]; simp [h0]
    · by_cases hi : i < 64
      · rw [key i hi e]; simp [Ne.symm e]
      · rw [testBit_hi (wd_lt _ _) (by omega), testBit_hi (wd_lt _ _) (by omega)]; simp [Ne.symm e]
  · apply Nat.eq_of_testBit_eq
    intro i
    rw [show 18446744073709551615 - 2 ^ (k % 64) = 2 ^ 64 - (2 ^ (k % 64) + 1) by omega, Nat.testBit_and, Nat.testBit_two_pow_sub_succ hp, Nat.testBit_two_pow]
    by_cases e : i = k % 64
    · subst e; rw [at_]; simp [h0]
    · by_cases hi : i < 64
      · rw [key i hi e]; simp [Ne.symm e, hi]
      · rw [testBit_hi (wd_lt _ _) (by omega), testBit_hi (wd_lt _ _) (by omega)]; simp
  · apply Nat.eq_of_testBit_eq
    intro i
    rw [testBit_wd, testBit_wd, testBit_up, testBit_up]
    by_cases hi : i < 64
    · by_cases hm : 64 * j + i < m
      · rw [h2 _ hm (by omega)]
      · simp [hm]
    · simp [hi]

theorem BRep.laid {w : World} {L : BL} {n B B' k x u : Nat} (h : BRep w L n B) (hk : k < nW n) (h1 : wd B' k = x) (h2 : ∀ j, j < nW n → j ≠ k → wd B' j = wd B j) (h3 : B' < 2 ^ n) (h4 : wd (up B' (nW n)) (k / 64) = u) :
    BRep ((w.setCell ⟨L.lo, k, none⟩ (.int .u64 (x : Int))).setCell ⟨L.hi, k / 64, none⟩ (.int .u64 (u : Int))) L n B' ∧ Chg L.U w ((w.setCell ⟨L.lo, k, none⟩ (.int .u64 (x : Int))).setCell ⟨L.hi, k / 64, none⟩ (.int .u64 (u : Int))) ∧
      ((w.setCell ⟨L.lo, k, none⟩ (.int .u64 (x : Int))).setCell ⟨L.hi, k / 64, none⟩ (.int .u64 (u : Int))).heap.size = w.heap.size := by
  have hq : k / 64 < nW (nW n) := by unfold nW at *; omega
  have hs : ((w.setCell ⟨L.lo, k, none⟩ (.int .u64 (x : Int))).setCell ⟨L.hi, k / 64, none⟩ (.int .u64 (u : Int))).heap.size = w.heap.size := by simp [World.setCell]
  have hk' : ∀ b, b ≠ L.lo → b ≠ L.hi → ((w.setCell ⟨L.lo, k, none⟩ (.int .u64 (x : Int))).setCell ⟨L.hi, k / 64, none⟩ (.int .u64 (u : Int))).heap[b]? = w.heap[b]? := fun b hb1 hb2 => by
    rw [Go.heap_setCell_other _ _ _ _ hb2, Go.heap_setCell_other _ _ _ _ hb1]
  refine ⟨⟨h.n1, h.n2, h3, ?_, ?_, ?_, h.ne⟩, ⟨rfl, rfl, rfl, Nat.le_of_eq hs.symm, fun b _ hu => hk' b (fun e => hu (.inr (.inl e))) (fun e => hu (.inr (.inr e)))⟩, hs⟩
  · rw [hk' _ h.p_lo h.p_hi]; exact h.hp
  · rw [Go.heap_setCell_other _ _ _ _ h.ne, Go.heap_setCell_same w L.lo k _ 63 _ h.hlo, wds_set hk h1 h2]
  · rw [Go.heap_setCell_same _ L.hi (k / 64) _ 63 _ ((Go.heap_setCell_other w _ _ _ (Ne.symm h.ne)).trans h.hhi), wds_set hq h4 (fun j _ hj => (up_set hk h1 h2).2.2 j hj)]

theorem lay_any {w : World} {L : BL} {n B B' k x : Nat} (h : BRep w L n B) (hk : k < nW n) (hx : x < 18446744073709551616) (h1 : wd B' k = x) (h2 : ∀ j, j < nW n → j ≠ k → wd B' j = wd B j) (h3 : B' < 2 ^ n) :
    Calls Tryd.prog 56 #[PB L, .int .i64 (k : Int), .int .u64 (x : Int)] w fun e w' => e = .returned (.int .i64 ((cnt (wd B k ^^^ x).testBit 64 : Nat) : Int)) ∧ BRep w' L n B' ∧ Chg L.U w w' ∧ w'.heap.size = w.heap.size := by
  have c1 := h.c1
  have c2 := h.c2
  have hn := h.n2
  have hW : nW n ≤ 1024 := by unfold nW; omega
  have hq : k / 64 < nW (nW n) := by unfold nW at *; omega
  have hcl := h.cl hk
  have hch := h.ch hq
  have hfl := h.fl k
  have hfh := h.fh (k / 64)
  have e1 := u64_xor_nat _ _ (wd_lt B k) hx
  have lx : wd B k ^^^ x < 18446744073709551616 := Nat.xor_lt_two_pow (n := 64) (wd_lt B k) hx
  have hs : k % 64 < 64 := Nat.mod_lt _ (by decide)
  have hp : 2 ^ (k % 64) < 18446744073709551616 := Nat.pow_lt_pow_right (a := 2) (by decide) hs
  have hb : IntKind.u64.wrap (2 ^ (k % 64)) = ((2 ^ (k % 64) : Nat) : Int) := by
    have := wrapN _ hp
    rw [Int.natCast_pow] at this ⊢
    exact this
  obtain ⟨u1, u2, u3⟩ := up_set hk h1 h2
  have eo := u64_or_nat _ _ (wd_lt (up B (nW n)) (k / 64)) hp
  have ea := u64_andNot_nat _ _ (wd_lt (up B (nW n)) (k / 64)) hp
  have HL := hide (fun u hu => h.laid (u := u) hk h1 h2 h3 hu)
  generalize wd B k ^^^ x = y at *
  have hL1 := h.p_lo
  have hL2 := h.p_hi
  have hL3 := h.ne
  clear h2 u3
  by_cases h0 : x = 0
  · have hne : ((x : Int) != 0) = false := by simp [h0]
    rw [u2 h0] at ea
    have HF := hide (HL.out _ rfl)
    clear HL u1 u2 h0 h h1 h3 eo
    generalize 2 ^ (k % 64) = bt at *
    generalize wd (up B' (nW n)) (k / 64) = u' at *
    generalize wd (up B (nW n)) (k / 64) = u at *
    generalize wd B k = v at *
    generalize nW (nW n) = m2 at *
    generalize nW n = m1 at *
    unfold PB
    go_enter Tryd.func56, Tryd.ntmps56
    go_wp2_with (go_at_call 63; refine (ones_any y lx _).mono ?_; rintro e w' ⟨rfl, rfl⟩)
    go_ret
    exact ⟨rfl, HF.out⟩
  · have hne : ((x : Int) != 0) = true := by simp; exact h0
    rw [u1 h0] at eo
    have HF := hide (HL.out _ rfl)
    clear HL u1 u2 h0 h h1 h3 ea
    generalize 2 ^ (k % 64) = bt at *
    generalize wd (up B' (nW n)) (k / 64) = u' at *
    generalize wd (up B (nW n)) (k / 64) = u at *
    generalize wd B k = v at *
    generalize nW (nW n) = m2 at *
    generalize nW n = m1 at *
    unfold PB
    go_enter Tryd.func56, Tryd.ntmps56
    go_wp2_with (go_at_call 63; refine (ones_any y lx _).mono ?_; rintro e w' ⟨rfl, rfl⟩)
    go_ret
    exact ⟨rfl, HF.out⟩
end Go.Proofs.YtnjlbkbhlcccmaaDoor
