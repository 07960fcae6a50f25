import Derived.Test.YtglajdmkbckjjabBSt
import Derived.StillTailTactics
namespace Go.Proofs.Ytglajdmkbckjjab
open Go.RowKit
set_option linter.unusedVariables false
set_option linter.unusedSimpArgs false
set_option maxRecDepth 20000

/-- the document's reader: T digits are taken -/
def RdQ (w : World) (p : Nat) (cv : Value) (T : Nat) : Prop := w.heap[p]? = some (.cells #[cv, .int .i64 (T : Int)] 53 (0, 0))
theorem CSl.apart {w : World} {p T : Nat} {cv cv' : Value} {c : List Nat} (h : CSl w cv c) (hr : RdQ w p cv' T) (hcv : ∃ a n k, cv' = .slice a n k) {b off i : Nat} (hc : w.cell? ⟨b, off + i, none⟩ = some (.int .u8 (c.getD i 0 : Nat))) : b ≠ p := fun e => by
  subst e
  rw [cell_of_row _ _ _ _ _ _ hr] at hc
  obtain ⟨a, n, k, rfl⟩ := hcv
  cases hx : off + i with
  | zero => rw [hx] at hc; simp at hc
  | succ j =>
    cases j with
    | zero => rw [hx] at hc; simp at hc
    | succ j => rw [hx] at hc; simp at hc
theorem CSl.stepQ {w w' : World} {p T : Nat} {cv cv' : Value} {c : List Nat} (h : CSl w cv c) (hr : RdQ w p cv' T) (hcv : ∃ a n k, cv' = .slice a n k) (hk : Chg (fun b => b = p) w w') : CSl w' cv c := by
  have h' := h
  obtain ⟨a, cap, rfl, h1, h2, h3, h4⟩ := h
  refine ⟨a, cap, rfl, h1, h2, h3, fun h0 => ?_⟩
  obtain ⟨b, off, rfl, hc⟩ := h4 h0
  refine ⟨b, off, rfl, fun i hi => ?_⟩
  have hb : b < w.heap.size := World.block_lt_of_cell? w _ (hc i hi)
  rw [World.cell?_of_block (hk.keep b hb (h'.apart hr hcv (hc i hi)))]
  exact hc i hi
theorem and_8 (n : Nat) (h : n < 256) : bits .and .u8 (n : Int) 1 = ((n % 2 : Nat) : Int) := by
  have h1 : (BitVec.ofInt 8 1).toNat = 2 ^ 1 - 1 := by decide
  have key : (BitVec.ofInt 8 (n : Int) &&& BitVec.ofInt 8 1).toNat = n % 2 := by
    rw [BitVec.toNat_and, BitVec.toNat_ofInt, h1, Nat.and_two_pow_sub_one_eq_mod]
    omega
  show IntKind.u8.wrap ((BitVec.ofInt 8 (n : Int) &&& BitVec.ofInt 8 1).toNat : Nat) = _
  rw [key]
  simp [IntKind.wrap, IntKind.bits, IntKind.signed]
  omega
theorem bit_8 {x k : Nat} (hx : x < 256) : (bits .and .u8 ((x : Int) / 2 ^ k) 1 == 1) = x.testBit k := by
  have e : ((x : Int) / 2 ^ k) = ((x / 2 ^ k : Nat) : Int) := by simp
  have hl : x / 2 ^ k ≤ x := Nat.div_le_self _ _
  rw [e, and_8 _ (by omega), ← Nat.toNat_testBit]
  cases x.testBit k <;> rfl
set_option maxHeartbeats 1000000 in
theorem rdigit_any {w : World} {p T : Nat} {cv : Value} {c : List Nat} (hr : RdQ w p cv T) (hc : CSl w cv c) (hT : T < 4611686018427387904) (hin : T / 8 < c.length) :
    Calls Try.prog 18 #[.pointer (some ⟨p, 0, none⟩)] w fun e w' => e = .returned (.bool (dgV c T)) ∧ RdQ w' p cv (T + 1) ∧ Chg (fun b => b = p) w w' := by
  have hc' := hc
  obtain ⟨a, cap, rfl, h1, h2, h3, h4⟩ := hc
  obtain ⟨b, off, rfl, hcell⟩ := h4 (by omega)
  have c0 : w.cell? ⟨p, 0, none⟩ = some (.slice (some ⟨b, off, none⟩) c.length cap) := cell_of_row _ _ _ _ _ _ hr
  have c1 : w.cell? ⟨p, 1, none⟩ = some (.int .i64 (T : Int)) := cell_of_row _ _ _ _ _ _ hr
  have f1 : w.frozen? ⟨p, 1, none⟩ = false := frozen_of_row _ _ _ _ _ hr
  have k1 := hcell (T / 8) hin
  have hx : c.getD (T / 8) 0 < 256 := by
    have : c.getD (T / 8) 0 = c[T / 8] := by simp [List.getD, hin]
    rw [this]
    exact h3 _ (List.getElem_mem hin)
  obtain ⟨K, hK⟩ : ∃ K, T / 8 = K := ⟨_, rfl⟩
  obtain ⟨U, hU⟩ : ∃ U, 7 - T % 8 = U := ⟨_, rfl⟩
  have hd1 : (T : Int) / 8 = (K : Int) := by omega
  have hd2 : (T : Int).tdiv 8 = (K : Int) := by rw [Int.tdiv_eq_ediv_of_nonneg (by omega)]; exact hd1
  have hd3 : IntKind.i64.wrap (K : Int) = (K : Int) := by simp [IntKind.wrap, IntKind.bits, IntKind.signed]; omega
  have hd4 : IntKind.i64.wrap ((T : Int) / 8) = (K : Int) := by rw [hd1]; exact hd3
  obtain ⟨J, hJ⟩ : ∃ J, T % 8 = J := ⟨_, rfl⟩
  have hrm : (T : Int) % 8 = (J : Int) := by omega
  have hrm1 : (T : Int).tmod 8 = (J : Int) := by rw [Int.tmod_eq_emod_of_nonneg (by omega)]; exact hrm
  have hrm2 : IntKind.i64.wrap (J : Int) = (J : Int) := by simp [IntKind.wrap, IntKind.bits, IntKind.signed]; omega
  have hrm3 : IntKind.i64.wrap ((T : Int) % 8) = (J : Int) := by rw [hrm]; exact hrm2
  have hsb : (7 : Int) - (J : Int) = (U : Int) := by omega
  have hsb1 : IntKind.i64.wrap (U : Int) = (U : Int) := by simp [IntKind.wrap, IntKind.bits, IntKind.signed]; omega
  have hsb2 : IntKind.i64.wrap ((7 : Int) - (J : Int)) = (U : Int) := by rw [hsb]; exact hsb1
  have hsb3 : IntKind.u64.wrap (U : Int) = (U : Int) := by simp [IntKind.wrap, IntKind.bits, IntKind.signed]; omega
  have hsh : ∀ y : Nat, y < 256 → Op.shift .shr .u8 (y : Int) .u64 (U : Int) = (pure (.int .u8 ((y / 2 ^ U : Nat) : Int)) : Sem Value) := fun y hy => by
    rw [shift_shr .u8 .u64 (y : Int) (U : Int) (by omega) (by simp [IntKind.bits]; omega), Int.toNat_natCast]
    congr 2
  have hK0 : (0 : Int) ≤ (K : Int) := by omega
  have hK1 : (K : Int) < (c.length : Int) := by omega
  have HR : Hid (∀ W : World, W.heap = w.heap → RdQ (W.setCell ⟨p, 1, none⟩ (.int .i64 ((T : Int) + 1))) p (.slice (some ⟨b, off, none⟩) c.length cap) (T + 1)) := hide fun W hW => by
    unfold RdQ
    rw [Go.heap_setCell_same _ _ 1 _ 53 _ (show W.heap[p]? = _ by rw [hW]; exact hr)]
    rfl
  have HC : Hid (∀ W : World, Below w.heap.size w W → W.heap = w.heap → Chg (fun b => b = p) w (W.setCell ⟨p, 1, none⟩ (.int .i64 ((T : Int) + 1)))) := hide fun W hB hW => ⟨hB.os, hB.tape, hB.output, by simp [World.setCell, hW], fun b _ hb => (Go.heap_setCell_other _ _ _ _ hb).trans (by rw [hW])⟩
  have hsh2 := hsh _ hx
  have hbt : (bits .and .u8 ((c.getD (T / 8) 0 / 2 ^ U : Nat) : Int) 1 == 1) = (c.getD (T / 8) 0).testBit U := by
    have := bit_8 (k := U) hx
    simpa using this
  unfold dgV
  rw [hK] at k1 hx hbt hsh2 ⊢
  rw [hU]
  clear hK hU hJ hsh
  generalize c.getD K 0 = x at *
  generalize x / 2 ^ U = z at *
  clear hcell h4 hr h3 hc'
  go_enter Try.func18, Try.ntmps18
  go_wp2_with fail
  refine wp_region_still_tail 20 (by kernel_rfl) (by kernel_rfl) ?_
  simp only [List.take_succ_cons, List.take_zero, List.drop_succ_cons, List.drop_zero]
  repeat still_step
  refine wpStill_nil ?_
  go_wp2_with fail
  rw [bit_8 hx]
  go_ret
  exact ⟨rfl, HR.out w.drew rfl, HC.out w.drew ((Below.refl _ _).drew) rfl⟩
end Go.Proofs.Ytglajdmkbckjjab
