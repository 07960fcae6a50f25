import Derived.Test.YtacjibfmhhmbcaaWLaw0
namespace Go.Proofs.Ytacjibfmhhmbcaa
open Go.RowKit
open Num
set_option linter.unusedVariables false
set_option linter.unusedSimpArgs false

/-- a part of some bytes -/
theorem BSl.seg {w : World} {b off n cap : Nat} {l : List Nat} (h : BSl w (.slice (some ⟨b, off, none⟩) n cap) l) (i m : Nat) (hi : i + m ≤ l.length) : BSl w (.slice (some ⟨b, off + i, none⟩) m (cap - i)) (sg l i m) := by
  obtain ⟨a, c, e, h1, h2, h3, h4, h5⟩ := h
  simp only [Value.slice.injEq, Option.some.injEq] at e
  obtain ⟨rfl, rfl, rfl⟩ := e
  refine ⟨_, cap - i, by rw [sg_len hi], by rw [sg_len hi]; omega, by omega, by simp, fun x hx => h4 x (sg_mem hx), fun hp => ⟨b, off + i, rfl, fun j hj => ?_⟩⟩
  rw [sg_len hi] at hj hp
  obtain ⟨b', off', e, hc⟩ := h5 (by omega)
  simp only [Option.some.injEq, Addr.mk.injEq, and_true] at e
  obtain ⟨rfl, rfl⟩ := e
  rw [Nat.add_assoc, hc (i + j) (by omega), sg_getD hj]

theorem bv_pre {l : List Nat} (hb : ∀ x ∈ l, x < 256) {k : Nat} (hk : k < l.length) (hl : l.length ≤ 4) : bv (l.take k) < 16777216 := by
  have h1 := bv_lt (l.take k) (fun x hx => hb x (List.mem_of_mem_take hx))
  have h2 : (l.take k).length ≤ 3 := by simp; omega
  exact Nat.lt_of_lt_of_le h1 (Nat.pow_le_pow_right (n := 256) (by decide) h2)
theorem shl_or {v x : Nat} (hv : v < 16777216) (hx : x < 256) : bits BinOp.or IntKind.u32 ((v : Int) * 256) (x : Int) = ((v * 256 + x : Nat) : Int) := by
  have h := u32_or_nat (v * 256) x (by omega) (by omega)
  have e : v * 256 ||| x = v * 256 + x := by
    rw [show v * 256 = 2 ^ 8 * v by omega, ← Nat.two_pow_add_eq_or_of_lt (show x < 2 ^ 8 by omega)]
  rw [e] at h
  have e2 : (((v * 256 : Nat)) : Int) = (v : Int) * 256 := by omega
  rw [e2] at h
  exact h

set_option maxHeartbeats 1000000 in
theorem readNumber_any (w : World) (v : Value) (l : List Nat) (h : BSl w v l) (hl : l.length ≤ 4) :
    Calls Try.prog 22 #[v] w fun e w' => e = .returned (.int .u32 (bv l : Nat)) ∧ w' = w := by
  obtain ⟨a, cap, rfl, hl1, hm, hn, hb, hcell⟩ := h
  unfold maxLen at hm
  have HB := hide hb
  have HC := hide hcell
  clear hb hcell hn
  go_enter Try.func22, Try.ntmps22
  go_wp2_with fail
  go_loop [3, 8] (fun t i => ∃ k : Nat, k ≤ l.length ∧ i = .int .i64 k ∧ t = .int .u32 (bv (l.take k) : Nat)) (fun _ i => l.length - (intOf i).toNat)
  case atStart => exact ⟨0, Nat.zero_le _, rfl, rfl⟩
  case round =>
    obtain ⟨k, hk, rfl, rfl⟩ := hrel
    by_cases hlt : k < l.length
    · have hy : bv (l.take k) < 16777216 := bv_pre HB.out hlt hl
      have HS : Hid (bv (l.take (k + 1)) = bv (l.take k) * 256 + l.getD k 0) := by rw [take_snoc l 0 k hlt, bv_snoc]; exact hide rfl
      have hx : l.getD k 0 < 256 := HB.out _ (mem_getD hlt)
      obtain ⟨b, off, rfl, hcell⟩ := HC.out (by omega)
      have hck := hcell k hlt
      clear hcell HC
      generalize bv (l.take k) = y at *
      generalize l.getD k 0 = x at *
      have hso := shl_or hy hx
      go_wp2
      go_round
      case rel => exact ⟨k + 1, by omega, by go_num, by rw [HS.out]; first | rfl | (congr 1; omega)⟩
      case measure => simp [intOf]; omega
    · have HE : Hid (bv (l.take k) = bv l) := by rw [List.take_of_length_le (by omega)]; exact hide rfl
      generalize bv (l.take k) = y at *
      go_wp2
      go_ret
      exact ⟨by rw [← HE.out]; rfl, rfl⟩

set_option maxHeartbeats 1000000 in
theorem four_any (w : World) (b off n cap at' : Nat) (l : List Nat) (h : BSl w (.slice (some ⟨b, off, none⟩) n cap) l) (hl : at' + 4 ≤ l.length) :
    Calls Try.prog 25 #[.slice (some ⟨b, off, none⟩) n cap, .int .i64 (at' : Int)] w fun e w' => e = .returned (.int .u32 (bv (sg l at' 4) : Nat)) ∧ w' = w := by
  have HS := hide (h.seg at' 4 hl)
  have HB := hide fun x (hx : x ∈ sg l at' 4) => h.bytes x (sg_mem hx)
  obtain ⟨_, _, e, hl1, hm, _, _, _⟩ := h
  simp only [Value.slice.injEq, Option.some.injEq] at e
  obtain ⟨rfl, rfl, rfl⟩ := e
  unfold maxLen at hm
  have hlen := sg_len hl
  have HL := hide hlen
  have HC : Hid (∀ i, i < 4 → w.cell? ⟨b, off + (at' + i), none⟩ = some (.int .u8 ((sg l at' 4).getD i 0 : Nat))) := hide fun i hi => by
    obtain ⟨_, _, e, _, _, _, _, hc⟩ := HS.out
    simp only [Value.slice.injEq, Option.some.injEq] at e
    obtain ⟨rfl, _, rfl⟩ := e
    obtain ⟨b', off', e, hc⟩ := hc (by omega)
    simp only [Option.some.injEq, Addr.mk.injEq, and_true] at e
    obtain ⟨rfl, rfl⟩ := e
    rw [← Nat.add_assoc]
    exact hc i (by omega)
  rename_i dead1 dead2 dead3
  clear dead1 dead2 dead3 HS hlen
  generalize sg l at' 4 = s at *
  go_enter Try.func25, Try.ntmps25
  go_wp2_with fail
  go_loop [5, 6] (fun t i => ∃ k : Nat, k ≤ 4 ∧ i = .int .i64 k ∧ t = .int .u32 (bv (s.take k) : Nat)) (fun _ i => 4 - (intOf i).toNat)
  case atStart => exact ⟨0, Nat.zero_le _, rfl, rfl⟩
  case round =>
    obtain ⟨k, hk, rfl, rfl⟩ := hrel
    by_cases hlt : k < 4
    · have hlt' : k < s.length := by rw [HL.out]; exact hlt
      have hy : bv (s.take k) < 16777216 := bv_pre HB.out hlt' (by rw [HL.out]; exact Nat.le_refl _)
      have HS : Hid (bv (s.take (k + 1)) = bv (s.take k) * 256 + s.getD k 0) := by rw [take_snoc s 0 k hlt', bv_snoc]; exact hide rfl
      have hx : s.getD k 0 < 256 := HB.out _ (mem_getD hlt')
      have hck := HC.out k hlt
      clear HC hlt'
      generalize bv (s.take k) = y at *
      generalize s.getD k 0 = x at *
      have hso := shl_or hy hx
      go_wp2
      go_round
      case rel => exact ⟨k + 1, by omega, by go_num, by rw [HS.out]; first | rfl | (congr 1; omega)⟩
      case measure => simp [intOf]; omega
    · have HE : Hid (bv (s.take k) = bv s) := by rw [List.take_of_length_le (by rw [HL.out]; omega)]; exact hide rfl
      generalize bv (s.take k) = y at *
      go_wp2
      go_ret
      exact ⟨by rw [← HE.out]; rfl, rfl⟩
end Go.Proofs.Ytacjibfmhhmbcaa
