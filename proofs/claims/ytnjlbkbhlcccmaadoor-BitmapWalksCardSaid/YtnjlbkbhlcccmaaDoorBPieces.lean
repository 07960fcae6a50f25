import Derived.Test.YtnjlbkbhlcccmaaDoorBFrom2
namespace Go.Proofs.YtnjlbkbhlcccmaaDoor
open Go.RowKit
attribute [local go_sem] Oper.semAt_some
set_option linter.unusedVariables false
set_option linter.unusedSimpArgs false
set_option maxRecDepth 20000

theorem pieces_any (w : World) (a e : Int) :
    Calls Tryd.prog 61 #[.int .i64 a, .int .i64 e] w fun r w' => r = .returned (.func (.func 68) #[] #[.pointer (some ⟨w.heap.size, 0, none⟩), .pointer (some ⟨w.heap.size + 1, 0, none⟩)]) ∧ w' = (w.alloc (.cells #[.int .i64 a] 3)).alloc (.cells #[.int .i64 e] 3) := by
  go_enter Tryd.func61, Tryd.ntmps61
  go_wp2
  go_ret
  exact ⟨rfl, rfl⟩

/-- the end of the piece that begins at s -/
def stopAt (e s : Nat) : Nat := min e ((s / 64 + 1) * 64)
def pcEnc (x : Nat × Nat) : Array Value := #[.int .i64 (x.1 : Int), .int .u64 (x.2 : Int)]
def pcStep (e : Nat) (s : Nat) (x : Nat × Nat) (s' : Nat) (W : World) : Prop := s < e ∧ x = (s / 64, msk (s % 64) (s % 64 + (stopAt e s - s))) ∧ s' = stopAt e s
def pcEnd (e : Nat) (s : Nat) (W : World) : Prop := e ≤ s
def pcInv (b1 b2 a e : Nat) (s : Nat) (W : World) : Prop := W.cell? ⟨b1, 0, none⟩ = some (.int .i64 (a : Int)) ∧ W.cell? ⟨b2, 0, none⟩ = some (.int .i64 (e : Int))

theorem ones_div : ∀ d, d ≤ 64 → 18446744073709551615 / 2 ^ (64 - d) = 2 ^ d - 1 := by decide +kernel
theorem mask_nat {d r : Nat} (h : d + r ≤ 64) : 18446744073709551615 / 2 ^ (64 - d) * 2 ^ r = msk r (r + d) ∧ msk r (r + d) < 18446744073709551616 := by
  refine ⟨?_, Nat.lt_of_lt_of_le (msk_lt _ _) (Nat.pow_le_pow_right (by decide) (by omega : r + d ≤ 64))⟩
  rw [ones_div d (by omega)]
  unfold msk
  rw [show r + d - r = d by omega]
theorem mask_int {d r : Nat} (h : d + r ≤ 64) {D : Int} (hD : D = (d : Int)) : IntKind.u64.wrap (18446744073709551615 / 2 ^ (64 - D).toNat * 2 ^ r) = ((msk r (r + d) : Nat) : Int) := by
  subst hD
  obtain ⟨h1, h2⟩ := mask_nat h
  have e : (18446744073709551615 : Int) / 2 ^ (64 - (d : Int)).toNat * 2 ^ r = ((msk r (r + d) : Nat) : Int) := by
    rw [← h1, show (64 - (d : Int)).toNat = 64 - d by omega, Int.natCast_mul, Int.natCast_ediv, Int.natCast_pow, Int.natCast_pow]
    simp
  rw [e]
  exact wrapN _ h2
theorem mask_int2 {d r : Nat} (h : d + r ≤ 64) : IntKind.u64.wrap (18446744073709551615 / 2 ^ (64 - d) * 2 ^ r) = ((msk r (r + d) : Nat) : Int) := by
  have := mask_int h rfl
  rwa [show (64 - (d : Int)).toNat = 64 - d by omega] at this

theorem pieces_seq (n : Nat) (b1 b2 a e : Nat) (ha : a ≤ 65536) (he : e ≤ 65536) :
    SeqSt Fence.wide n Tryd.prog 68 #[.pointer (some ⟨b1, 0, none⟩), .pointer (some ⟨b2, 0, none⟩)] pcEnc (pcStep e) (pcEnd e) (pcInv b1 b2 a e) a := by
  intro l J Jx W hInv hJ hJx hY h0
  have hi0 := hInv a W h0
  obtain ⟨i1, i2⟩ := hi0
  refine callsIn_of_wp Tryd.func68 rfl trivial ?_ rfl
  simp only [Tryd.ntmps68, List.size_toArray, List.length_cons, List.length_nil, Nat.reduceAdd, Nat.reduceSub, Array.replicate_succ, Array.replicate_zero, List.push_toArray, List.append_toArray, List.nil_append, List.cons_append]
  gi_wp2
  gi_loopw [4] (fun p wr => ∃ s : Nat, p = .int .i64 (s : Int) ∧ s ≤ 65536 ∧ J s wr) (fun p wr => e - (intOf p).toNat)
  case atStart => exact ⟨a, rfl, ha, h0⟩
  case round =>
    obtain ⟨s, rfl, hs, hj⟩ := hrel
    clear i1 i2
    obtain ⟨i1, i2⟩ := hInv s wr hj
    by_cases hlt : s < e
    · have hYs := hY s (s / 64, msk (s % 64) (s % 64 + (stopAt e s - s))) (stopAt e s) wr hj ⟨hlt, rfl, rfl⟩
      by_cases hm : e ≤ (s / 64 + 1) * 64
      · have est : stopAt e s = e := by unfold stopAt; omega
        rw [est] at hYs
        have hmask := mask_int (d := e - s) (r := s % 64) (by omega) (D := (e : Int) - (s : Int)) (by omega)
        have hmask2 := mask_int2 (d := e - s) (r := s % 64) (by omega)
        obtain ⟨fn, tmps, assign, body, hy, hR⟩ := hYs
        have hmi : (e : Int) ≤ ((s : Int) / 64 + 1) * 64 := by omega
        generalize msk (s % 64) (s % 64 + (e - s)) = m at *
        simp only [pcEnc, Int.natCast_ediv, Int.cast_ofNat_Int] at hy
        have HY := hide hY
        have HI := hide hInv
        clear hY hInv est
        gi_wp2
        refine ⟨fun h => by simp [Fence.wide] at h, hR.mono ?_⟩
        rintro r W3 (⟨rfl, hJ3⟩ | ⟨rfl, hJx3⟩)
        · gi_wp2
          go_roundw
          case rel => exact ⟨e, rfl, he, hJ3⟩
          case measure => simp [intOf]; omega
        · gi_wp2
          refine bodyPost_ret (results_none rfl _ _ _) rfl ?_
          exact ⟨⟨_, rfl⟩, .inr hJx3⟩
      · have est : stopAt e s = (s / 64 + 1) * 64 := by unfold stopAt; omega
        rw [est] at hYs
        have hmask := mask_int (d := (s / 64 + 1) * 64 - s) (r := s % 64) (by omega) (D := ((s : Int) / 64 + 1) * 64 - (s : Int)) (by omega)
        have hmask2 := mask_int2 (d := (s / 64 + 1) * 64 - s) (r := s % 64) (by omega)
        obtain ⟨fn, tmps, assign, body, hy, hR⟩ := hYs
        have hmi : ¬ (e : Int) ≤ ((s : Int) / 64 + 1) * 64 := by omega
        generalize msk (s % 64) (s % 64 + ((s / 64 + 1) * 64 - s)) = m at *
        simp only [pcEnc, Int.natCast_ediv, Int.cast_ofNat_Int] at hy
        have HY := hide hY
        have HI := hide hInv
        clear hY hInv est
        gi_wp2
        refine ⟨fun h => by simp [Fence.wide] at h, hR.mono ?_⟩
        rintro r W3 (⟨rfl, hJ3⟩ | ⟨rfl, hJx3⟩)
        · gi_wp2
          go_roundw
          case rel => exact ⟨(s / 64 + 1) * 64, by go_num, by omega, hJ3⟩
          case measure => simp [intOf]; omega
        · gi_wp2
          refine bodyPost_ret (results_none rfl _ _ _) rfl ?_
          exact ⟨⟨_, rfl⟩, .inr hJx3⟩
    · gi_wp2
      go_end0
      exact ⟨⟨_, rfl⟩, .inl ⟨s, by unfold pcEnd; omega, hj⟩⟩
end Go.Proofs.YtnjlbkbhlcccmaaDoor
