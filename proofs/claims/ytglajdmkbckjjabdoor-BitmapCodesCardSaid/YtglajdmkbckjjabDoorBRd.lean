import Derived.Test.YtglajdmkbckjjabDoorBCdB
import Derived.Test.YtglajdmkbckjjabDoorBRep
namespace Go.Proofs.YtglajdmkbckjjabDoor
open Go.RowKit
set_option linter.unusedVariables false
set_option linter.unusedSimpArgs false
set_option maxRecDepth 20000

/-- bytes that can be read -/
def CSl (w : World) (v : Value) (c : List Nat) : Prop := ∃ a cap, v = .slice a c.length cap ∧ c.length ≤ cap ∧ cap ≤ maxLen ∧ (∀ x ∈ c, x < 256) ∧ (0 < c.length → ∃ b off, a = some ⟨b, off, none⟩ ∧ ∀ i, i < c.length → w.cell? ⟨b, off + i, none⟩ = some (.int .u8 (c.getD i 0 : Nat)))
/-- a reader of digits: T of them are taken -/
def RdM (w : World) (p : Nat) (cv : Value) (T : Nat) : Prop := w.heap[p]? = some (.cells #[cv, .int .i64 (T : Int)] 78 (0, 0))
theorem CSl.step {w w' : World} {p T : Nat} {cv cv' : Value} {c : List Nat} (h : CSl w cv c) (hr : RdM w p cv' T) (hcv : ∃ a n k, cv' = .slice a n k) (hk : Chg (fun b => b = p) w w') : CSl w' cv c := by
  obtain ⟨a, cap, rfl, h1, h2, h3, h4⟩ := h
  refine ⟨a, cap, rfl, h1, h2, h3, fun h0 => ?_⟩
  obtain ⟨b, off, rfl, hc⟩ := h4 h0
  refine ⟨b, off, rfl, fun i hi => ?_⟩
  have hb : b < w.heap.size := World.block_lt_of_cell? w _ (hc i hi)
  have hne : b ≠ p := fun e => by
    subst e
    have := hc i hi
    rw [cell_of_row _ _ _ _ _ _ hr] at this
    obtain ⟨a, n, k, rfl⟩ := hcv
    cases hx : off + i with
    | zero => rw [hx] at this; simp at this
    | succ j =>
      cases j with
      | zero => rw [hx] at this; simp at this
      | succ j => rw [hx] at this; simp at this
  rw [World.cell?_of_block (hk.keep b hb hne)]
  exact hc i hi
theorem and_1 (n : Int) : bits .and .i64 n 1 = n % 2 := by
  have h1 : (BitVec.ofInt 64 1).toNat = 2 ^ 1 - 1 := by decide
  have key : (BitVec.ofInt 64 n &&& BitVec.ofInt 64 1).toNat = (n % ((2 ^ 64 : Nat) : Int)).toNat % 2 ^ 1 := by
    rw [BitVec.toNat_and, BitVec.toNat_ofInt, h1, Nat.and_two_pow_sub_one_eq_mod]
  show IntKind.i64.wrap ((BitVec.ofInt 64 n &&& BitVec.ofInt 64 1).toNat : Nat) = n % 2
  rw [key, IntKind.wrap_i64]
  omega
theorem bit_out {x k : Nat} (hx : x < 256) : bits .and .i64 (wrap64 ((x : Int) / 2 ^ k)) 1 = ((x.testBit k).toNat : Nat) := by
  have e : ((x : Int) / 2 ^ k) = ((x / 2 ^ k : Nat) : Int) := by simp
  have hl : x / 2 ^ k ≤ x := Nat.div_le_self _ _
  have hw : wrap64 ((x : Int) / 2 ^ k) = ((x / 2 ^ k : Nat) : Int) := by
    rw [e]
    generalize x / 2 ^ k = y at *
    unfold wrap64
    omega
  rw [hw, and_1, Nat.toNat_testBit]
  simp
/-- the digit at T -/
def dgV (c : List Nat) (T : Nat) : Bool := (c.getD (T / 8) 0).testBit (7 - T % 8)
set_option maxHeartbeats 1000000 in
theorem digit_yes {w : World} {p T : Nat} {cv : Value} {c : List Nat} (hr : RdM w p cv T) (hc : CSl w cv c) (hT : T < 4611686018427387904) (hin : T / 8 < c.length) :
    Calls Tryd.prog 59 #[.pointer (some ⟨p, 0, none⟩)] w fun e w' => e = .returned (.tuple #[.int .i64 ((dgV c T).toNat : Nat), .bool true]) ∧ RdM w' p cv (T + 1) ∧ Chg (fun b => b = p) w w' := by
  obtain ⟨a, cap, rfl, h1, h2, h3, h4⟩ := hc
  obtain ⟨b, off, rfl, hcell⟩ := h4 (by omega)
  have c0 : w.cell? ⟨p, 0, none⟩ = some (.slice (some ⟨b, off, none⟩) c.length cap) := cell_of_row _ _ _ _ _ _ hr
  have c1 : w.cell? ⟨p, 1, none⟩ = some (.int .i64 (T : Int)) := cell_of_row _ _ _ _ _ _ hr
  have f1 : w.frozen? ⟨p, 1, none⟩ = false := frozen_of_row _ _ _ _ _ hr
  have hne : b ≠ p := fun e => by
    subst e
    have := hcell (T / 8) hin
    rw [cell_of_row _ _ _ _ _ _ hr] at this
    cases hx : off + T / 8 with
    | zero => rw [hx] at this; simp at this
    | succ j =>
      cases j with
      | zero => rw [hx] at this; simp at this
      | succ j => rw [hx] at this; simp at this
  have k1 : (w.setCell ⟨p, 1, none⟩ (.int .i64 ((T : Int) + 1))).cell? ⟨b, off + T / 8, none⟩ = some (.int .u8 (c.getD (T / 8) 0 : Nat)) := by
    rw [World.cell?_of_block (Go.heap_setCell_other _ _ _ _ (by show b ≠ p; exact hne))]
    exact hcell (T / 8) hin
  have hx : c.getD (T / 8) 0 < 256 := by
    have : c.getD (T / 8) 0 = c[T / 8] := by simp [List.getD, hin]
    rw [this]
    exact h3 _ (List.getElem_mem hin)
  have hcmp : ¬ (c.length : Int) ≤ (T : Int) / 8 := by omega
  have hii : 0 ≤ (T : Int) / 8 ∧ (T : Int) / 8 < (c.length : Int) := ⟨by omega, by omega⟩
  have HR : Hid (RdM (w.setCell ⟨p, 1, none⟩ (.int .i64 ((T : Int) + 1))) p (.slice (some ⟨b, off, none⟩) c.length cap) (T + 1)) := hide (by
    unfold RdM
    rw [Go.heap_setCell_same _ _ 1 _ 78 _ hr]
    rfl)
  have HC : Hid (Chg (fun b => b = p) w (w.setCell ⟨p, 1, none⟩ (.int .i64 ((T : Int) + 1)))) := hide ⟨rfl, rfl, rfl, by simp [World.setCell], fun b _ hb => Go.heap_setCell_other _ _ _ _ hb⟩
  unfold dgV
  generalize c.getD (T / 8) 0 = x at *
  clear hcell h4 hr h3 hne
  go_enter Tryd.func59, Tryd.ntmps59
  go_wp2_with fail
  refine bodyPost_ret (results_tmp2 rfl _ _ _) rfl ?_
  exact ⟨by rw [← bit_out hx]; rfl, HR.out, HC.out⟩
set_option maxHeartbeats 1000000 in
theorem digit_no {w : World} {p T : Nat} {cv : Value} {c : List Nat} (hr : RdM w p cv T) (hc : CSl w cv c) (hT : T < 4611686018427387904) (hin : ¬ T / 8 < c.length) :
    Calls Tryd.prog 59 #[.pointer (some ⟨p, 0, none⟩)] w fun e w' => e = .returned (.tuple #[.int .i64 0, .bool false]) ∧ RdM w' p cv (T + 1) ∧ Chg (fun b => b = p) w w' := by
  obtain ⟨a, cap, rfl, h1, h2, h3, h4⟩ := hc
  have c0 : w.cell? ⟨p, 0, none⟩ = some (.slice a c.length cap) := cell_of_row _ _ _ _ _ _ hr
  have c1 : w.cell? ⟨p, 1, none⟩ = some (.int .i64 (T : Int)) := cell_of_row _ _ _ _ _ _ hr
  have f1 : w.frozen? ⟨p, 1, none⟩ = false := frozen_of_row _ _ _ _ _ hr
  have hcmp : (c.length : Int) ≤ (T : Int) / 8 := by omega
  have HR : Hid (RdM (w.setCell ⟨p, 1, none⟩ (.int .i64 ((T : Int) + 1))) p (.slice a c.length cap) (T + 1)) := hide (by
    unfold RdM
    rw [Go.heap_setCell_same _ _ 1 _ 78 _ hr]
    rfl)
  have HC : Hid (Chg (fun b => b = p) w (w.setCell ⟨p, 1, none⟩ (.int .i64 ((T : Int) + 1)))) := hide ⟨rfl, rfl, rfl, by simp [World.setCell], fun b _ hb => Go.heap_setCell_other _ _ _ _ hb⟩
  clear h4 hr h3
  go_enter Tryd.func59, Tryd.ntmps59
  go_wp2_with fail
  refine bodyPost_ret (results_tmp2 rfl _ _ _) rfl ?_
  exact ⟨rfl, HR.out, HC.out⟩
/-- a reader between two digits -/
structure RS (w w' : World) (p : Nat) (cv : Value) (c : List Nat) (T : Nat) : Prop where
  rd : RdM w' p cv T
  sl : CSl w' cv c
  chg : Chg (fun b => b = p) w w'
theorem RS.step {w w' w'' : World} {p T : Nat} {cv : Value} {c : List Nat} (h : RS w w' p cv c T) (h1 : RdM w'' p cv (T + 1)) (h2 : Chg (fun b => b = p) w' w'') : RS w w'' p cv c (T + 1) :=
  ⟨h1, h.sl.step h.rd (by obtain ⟨a, cap, rfl, _⟩ := h.sl; exact ⟨_, _, _, rfl⟩) h2, h.chg.trans h2⟩
theorem RS.digit {w w' : World} {p T : Nat} {cv : Value} {c : List Nat} (h : RS w w' p cv c T) (hT : T < 4611686018427387904) :
    Calls Tryd.prog 59 #[.pointer (some ⟨p, 0, none⟩)] w' fun e w'' => e = .returned (.tuple #[.int .i64 ((((dgR ((digs c).drop T)).2.getD false).toNat : Nat) : Int), .bool (dgR ((digs c).drop T)).2.isSome]) ∧ RS w w'' p cv c (T + 1) := by
  by_cases hin : T / 8 < c.length
  · rw [digs_drop_get hin]
    exact (digit_yes h.rd h.sl hT hin).mono fun e w'' ⟨h1, h2, h3⟩ => ⟨h1, h.step h2 h3⟩
  · rw [digs_drop_end hin]
    exact (digit_no h.rd h.sl hT hin).mono fun e w'' ⟨h1, h2, h3⟩ => ⟨h1, h.step h2 h3⟩
end Go.Proofs.YtglajdmkbckjjabDoor
