import Derived.Test.YtcjilmafdpnfeaaDoorWLaw0
namespace Go.Proofs.YtcjilmafdpnfeaaDoor
open Go.RowKit
open Num
set_option linter.unusedVariables false
set_option linter.unusedSimpArgs false
set_option maxRecDepth 20000

/-- a part of some bytes -/
theorem BSl.seg {w : World} {b off n cap : Nat} {l : List Nat} (h : BSl w (.slice (some ⟨b, off, none⟩) n cap) l) (i m : Nat) (hi : i + m ≤ l.length) : BSl w (.slice (some ⟨b, off + i, none⟩) m (cap - i)) (sg l i m) := by
  obtain ⟨a, c, e, h1, h2, h3, h4, h5⟩ := h
  simp only [Value.slice.injEq, Option.some.injEq] at e
  obtain ⟨rfl, rfl, rfl⟩ := e
  refine ⟨_, cap - i, by rw [sg_len hi], by rw [sg_len hi]; omega, by omega, by simp, fun x hx => h4 x (sg_mem hx), fun hp => ⟨b, off + i, rfl, fun j hj => ?_⟩⟩
  rw [sg_len hi] at hj hp
  obtain ⟨b', off', e, hc⟩ := h5 (by omega)
  simp only [Option.some.injEq, Addr.mk.injEq, and_true] at e
  obtain ⟨rfl, rfl⟩ := e
  rw [Nat.add_assoc, hc (i + j) (by omega), sg_getD hj]

theorem bv_pre {l : List Nat} (hb : ∀ x ∈ l, x < 256) {k : Nat} (hk : k < l.length) (hl : l.length ≤ 4) : bv (l.take k) < 16777216 := by
  have h1 := bv_lt (l.take k) (fun x hx => hb x (List.mem_of_mem_take hx))
  have h2 : (l.take k).length ≤ 3 := by simp; omega
  exact Nat.lt_of_lt_of_le h1 (Nat.pow_le_pow_right (n := 256) (by decide) h2)
theorem shl_or {v x : Nat} (hv : v < 16777216) (hx : x < 256) : bits BinOp.or IntKind.u32 ((v : Int) * 256) (x : Int) = ((v * 256 + x : Nat) : Int) := by
  have h := u32_or_nat (v * 256) x (by omega) (by omega)
  have e : v * 256 ||| x = v * 256 + x := by
    rw [show v * 256 = 2 ^ 8 * v by omega, ← Nat.two_pow_add_eq_or_of_lt (show x < 2 ^ 8 by omega)]
  rw [e] at h
  have e2 : (((v * 256 : Nat)) : Int) = (v : Int) * 256 := by omega
  rw [e2] at h
  exact h

end Go.Proofs.YtcjilmafdpnfeaaDoor
