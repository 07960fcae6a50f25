import Derived.Test.YtedhohamdbplhaaDoorWLaw0
namespace Go.Proofs.YtedhohamdbplhaaDoor
open Go.RowKit
open Num
set_option linter.unusedVariables false
set_option linter.unusedSimpArgs false
set_option maxRecDepth 20000

/-- a part of some bytes -/
theorem BSl.seg {w : World} {b off n cap : Nat} {l : List Nat} (h : BSl w (.slice (some ⟨b, off, none⟩) n cap) l) (i m : Nat) (hi : i + m ≤ l.length) : BSl w (.slice (some ⟨b, off + i, none⟩) m (cap - i)) (sg l i m) := by
  obtain ⟨a, c, e, h1, h2, h3, h4, h5⟩ := h
  simp only [Value.slice.injEq, Option.some.injEq] at e
  obtain ⟨rfl, rfl, rfl⟩ := e
  refine ⟨_, cap - i, by rw [sg_len hi], by rw [sg_len hi]; omega, by omega, by simp, fun x hx => h4 x (sg_mem hx), fun hp => ⟨b, off + i, rfl, fun j hj => ?_⟩⟩
  rw [sg_len hi] at hj hp
  obtain ⟨b', off', e, hc⟩ := h5 (by omega)
  simp only [Option.some.injEq, Addr.mk.injEq, and_true] at e
  obtain ⟨rfl, rfl⟩ := e
  rw [Nat.add_assoc, hc (i + j) (by omega), sg_getD hj]

theorem bv_pre {l : List Nat} (hb : ∀ x ∈ l, x < 256) {k : Nat} (hk : k < l.length) (hl : l.length ≤ 4) : bv (l.take k) < 16777216 := by
  have h1 := bv_lt (l.take k) (fun x hx => hb x (List.mem_of_mem_take hx))
  have h2 : (l.take k).length ≤ 3 := by simp; omega
  exact Nat.lt_of_lt_of_le h1 (Nat.pow_le_pow_right (n := 256) (by decide) h2)
theorem shl_or {v x : Nat} (hv : v < 16777216) (hx : x < 256) : bits BinOp.or IntKind.u32 ((v : Int) * 256) (x : Int) = ((v * 256 + x : Nat) : Int) := by
  have h := u32_or_nat (v * 256) x (by omega) (by omega)
  have e : v * 256 ||| x = v * 256 + x := by
    rw [show v * 256 = 2 ^ 8 * v by omega, ← Nat.two_pow_add_eq_or_of_lt (show x < 2 ^ 8 by omega)]
  rw [e] at h
  have e2 : (((v * 256 : Nat)) : Int) = (v : Int) * 256 := by omega
  rw [e2] at h
  exact h

set_option maxHeartbeats 1000000 in
theorem readNumber_any (w : World) (v : Value) (l : List Nat) (h : BSl w v l) (hl : l.length ≤ 4) :
    Calls Tryd.prog 33 #[v] w fun e w' => e = .returned (.int .u32 (bv l : Nat)) ∧ w' = w := by
  obtain ⟨a, cap, rfl, hl1, hm, hn, hb, hcell⟩ := h
  unfold maxLen at hm
  have HB := hide hb
  have HC := hide hcell
  clear hb hcell hn
  go_enter Tryd.func33, Tryd.ntmps33
  go_wp2_with fail
  go_loop [3, 8] (fun t i => ∃ k : Nat, k ≤ l.length ∧ i = .int .i64 k ∧ t = .int .u32 (bv (l.take k) : Nat)) (fun _ i => l.length - (intOf i).toNat)
  case atStart => exact ⟨0, Nat.zero_le _, rfl, rfl⟩
  case round =>
    obtain ⟨k, hk, rfl, rfl⟩ := hrel
    by_cases hlt : k < l.length
    · have hy : bv (l.take k) < 16777216 := bv_pre HB.out hlt hl
      have HS : Hid (bv (l.take (k + 1)) = bv (l.take k) * 256 + l.getD k 0) := by rw [take_snoc l 0 k hlt, bv_snoc]; exact hide rfl
      have hx : l.getD k 0 < 256 := HB.out _ (mem_getD hlt)
      obtain ⟨b, off, rfl, hcell⟩ := HC.out (by omega)
      have hck := hcell k hlt
      clear hcell HC
      generalize bv (l.take k) = y at *
      generalize l.getD k 0 = x at *
      have hso := shl_or hy hx
      go_wp2
      go_round
      case rel => exact ⟨k + 1, by omega, by go_num, by rw [HS.out]; first | rfl | (congr 1; omega)⟩
      case measure => simp [intOf]; omega
    · have HE : Hid (bv (l.take k) = bv l) := by rw [List.take_of_length_le (by omega)]; exact hide rfl
      generalize bv (l.take k) = y at *
      go_wp2
      go_ret
      exact ⟨by rw [← HE.out]; rfl, rfl⟩

end Go.Proofs.YtedhohamdbplhaaDoor
