import Derived.Test.YtbkcenpohcjgnaaDoorByt
import Derived.Test.YtbkcenpohcjgnaaDoorFlipMath
import Derived.Test.YtbkcenpohcjgnaaDoorShaWrite
namespace Go.Proofs.YtbkcenpohcjgnaaDoor
open Go.RowKit
open Num
set_option linter.unusedVariables false
set_option linter.unusedSimpArgs false

theorem map_set_byteV (l : List Nat) (k x : Nat) : (l.map byteV).set k (.int .u8 (x : Int)) = (l.set k x).map byteV := by
  rw [List.map_set]; rfl
theorem Own.stored {w : World} {base g cap : Nat} {l : List Nat} (h : Own w base (.slice (some ⟨g, 0, none⟩) l.length cap) l) (k x : Nat) (hx : x < 256) :
    Own (w.setCell ⟨g, k, none⟩ (.int .u8 (x : Int))) base (.slice (some ⟨g, 0, none⟩) l.length cap) (l.set k x) := by
  have h1 := (h.1.stored k (.int .u8 (x : Int))).1
  rw [map_set_byteV] at h1
  refine ⟨by rw [List.length_set]; exact h1, fun b hb => ?_⟩
  rcases List.mem_or_eq_of_mem_set hb with h2 | h2
  · exact h.2 b h2
  · omega

theorem xor_pow8 {x r : Nat} (hx : x < 256) (hr : r < 8) : bits BinOp.xor IntKind.u8 (x : Int) ((2 : Int) ^ r % 256) = ((x ^^^ 2 ^ r : Nat) : Int) := by
  have hp : (2 : Nat) ^ r < 256 := Nat.pow_lt_pow_right (a := 2) (n := 8) (by omega) hr
  have h2r : (2 : Int) ^ r = ((2 ^ r : Nat) : Int) := by rw [Int.natCast_pow]; rfl
  rw [h2r]
  generalize (2 : Nat) ^ r = P at *
  rw [show ((P : Nat) : Int) % 256 = (P : Int) by omega]
  exact u8_xor_nat x P hx hp

set_option maxHeartbeats 400000 in
theorem flip_any (v : Value) (l : List Nat) (at_ mask : Nat) (w : World) (h : BSl w v l) (hr : l.length ≤ 140737488355328) (ha : at_ < 9223372036854775808) (hm : mask < 4294967296) :
    Calls Tryd.prog 11 #[v, .int .i64 (at_ : Int), .int .u32 (mask : Int)] w fun e w' => ∃ v', e = .returned (.tuple #[v', .int .i64 (flC l.length at_ mask 32 : Nat)]) ∧ BSl w' v' (flL l at_ mask 32) ∧ Below w.heap.size w w' := by
  have HV := hide h
  clear h
  go_enter Tryd.func11, Tryd.ntmps11
  go_wp2_with fail
  refine (copied_any v l w HV.out hr).mono ?_
  rintro e w1 ⟨v1, rfl, ho, hb1⟩
  have hbs := ho.bsl
  obtain ⟨a1, cap1, rfl, hl1, hm1, _, _, _⟩ := hbs
  have HO := hide ho
  have HB1 := hide hb1
  have hsz := hb1.size
  clear ho hb1
  go_wp2_with fail
  go_loopw [9, 10] (fun n j wr => ∃ k : Nat, k ≤ 32 ∧ j = .int .i64 k ∧ n = .int .i64 (flC l.length at_ mask k : Nat) ∧ Own wr w.heap.size (.slice a1 l.length cap1) (flL l at_ mask k) ∧ Below w.heap.size w wr) (fun _ j _ => 32 - (intOf j).toNat)
  case atStart => exact ⟨0, Nat.zero_le _, rfl, rfl, HO.out, HB1.out⟩
  case round =>
    obtain ⟨k, hk, rfl, rfl, hown, hbel⟩ := hrel
    by_cases hlt : k < 32
    · have hmd : (mask : Int) / 2 ^ k = ((mask / 2 ^ k : Nat) : Int) := by rw [Int.natCast_ediv]; simp
      have hml : mask / 2 ^ k < 4294967296 := Nat.lt_of_le_of_lt (Nat.div_le_self _ _) hm
      have hand : bits BinOp.and IntKind.u32 ((mask : Int) / 2 ^ k) 1 = ((mask / 2 ^ k % 2 : Nat) : Int) := by
        rw [hmd, show (1 : Int) = ((1 : Nat) : Int) from rfl, u32_and_nat _ _ hml (by omega), Nat.and_one_is_mod]
      have hfc : flC l.length at_ mask k < 9223372036854775807 := by
        have : ∀ j, flC l.length at_ mask j ≤ j := by
          intro j; induction j with
          | zero => exact Nat.le_refl _
          | succ j ih => rw [flC]; split <;> omega
        have := this k; omega
      by_cases h1 : mask / 2 ^ k % 2 = 1
      · rw [h1] at hand
        have hand' : bits BinOp.and IntKind.u32 ((mask : Int) / 2 ^ k) 1 = 1 := hand
        by_cases h2 : at_ + k < 8 * l.length
        · have hon : bitOn l.length at_ mask k = true := by simp [bitOn, h1, h2]
          have hle : (at_ : Int) ≤ 8 * (l.length : Int) - 1 - (k : Int) := by omega
          obtain ⟨ix, hix⟩ : ∃ ix, (at_ + k) / 8 = ix := ⟨_, rfl⟩
          obtain ⟨r, hrr⟩ : ∃ r, (at_ + k) % 8 = r := ⟨_, rfl⟩
          have hixI : ((at_ : Int) + (k : Int)) / 8 = (ix : Int) := by omega
          have hrI : ((at_ : Int) + (k : Int)) % 8 = (r : Int) := by omega
          have hixl : ix < l.length := by omega
          have hr8 : r < 8 := by omega
          obtain ⟨g, cap', e, hg, _⟩ := hown.shape (by rw [flL_len]; omega)
          simp only [Value.slice.injEq, true_and] at e
          obtain ⟨rfl, _, rfl⟩ := e
          have hown1 : Own wr w.heap.size (.slice (some ⟨g, 0, none⟩) (flL l at_ mask k).length cap1) (flL l at_ mask k) := by rw [flL_len]; exact hown
          have hck : wr.cell? ⟨g, ix, none⟩ = some (.int .u8 ((flL l at_ mask k).getD ix 0 : Nat)) := by rw [hown1.1.cellAt ix (by rw [flL_len]; omega), map_byteV_getD (by rw [flL_len]; omega)]
          have hfr := hown1.1.frozenAt ix
          have hx : (flL l at_ mask k).getD ix 0 < 256 := hown1.2 _ (mem_getD (by rw [flL_len]; omega))
          have hp : (2 : Nat) ^ r < 256 := Nat.pow_lt_pow_right (a := 2) (n := 8) (by omega) hr8
          have hxo := u8_xor_nat ((flL l at_ mask k).getD ix 0) (2 ^ r) hx hp
          have HR : Hid (Own (wr.setCell ⟨g, ix, none⟩ (.int .u8 (((flL l at_ mask k).getD ix 0 ^^^ 2 ^ r : Nat) : Int))) w.heap.size (.slice (some ⟨g, 0, none⟩) l.length cap1) (flL l at_ mask (k + 1))) := by
            have := hown1.stored ix ((flL l at_ mask k).getD ix 0 ^^^ 2 ^ r) (Nat.xor_lt_two_pow (n := 8) hx hp)
            rw [flL_len] at this
            show Own _ _ _ _
            rw [flL, if_pos hon, hix, hrr]; exact this
          have HC1 : Hid (flC l.length at_ mask (k + 1) = flC l.length at_ mask k + 1) := by show _ = _; rw [flC, if_pos hon]
          have HBL := hide hbel
          generalize (flL l at_ mask k).getD ix 0 = x at *
          have HVL := hide (xor_pow8 hx hr8)
          clear hxo
          generalize flC l.length at_ mask k = cn at *
          clear hown hown1 hbel hon hix hrr hmd hml hand h1
          go_wp2
          go_roundw
          case rel => exact ⟨k + 1, by omega, by go_num, by rw [HC1.out]; go_num, by rw [HVL.out]; exact HR.out, HBL.out.setCell hg _⟩
          case measure => simp [intOf]; omega
        · have hon : bitOn l.length at_ mask k = false := by simp [bitOn, h2]
          have hle : 8 * (l.length : Int) - 1 - (k : Int) < (at_ : Int) := by omega
          have HC1 : Hid (flC l.length at_ mask (k + 1) = flC l.length at_ mask k) := by show _ = _; rw [flC, hon]; rfl
          have HL1 : Hid (flL l at_ mask (k + 1) = flL l at_ mask k) := by show _ = _; rw [flL, hon]; rfl
          have HW := hide hown
          have HBL := hide hbel
          generalize flC l.length at_ mask k = cn at *
          clear hown hbel hon hmd hml hand h1
          go_wp2
          go_roundw
          case rel => exact ⟨k + 1, by omega, by go_num, by rw [HC1.out], by rw [HL1.out]; exact HW.out, HBL.out⟩
          case measure => simp [intOf]; omega
      · have hand' : bits BinOp.and IntKind.u32 ((mask : Int) / 2 ^ k) 1 = 0 := by rw [hand, show mask / 2 ^ k % 2 = 0 by omega]; rfl
        have hon : bitOn l.length at_ mask k = false := by simp [bitOn, h1]
        have HC1 : Hid (flC l.length at_ mask (k + 1) = flC l.length at_ mask k) := by show _ = _; rw [flC, hon]; rfl
        have HL1 : Hid (flL l at_ mask (k + 1) = flL l at_ mask k) := by show _ = _; rw [flL, hon]; rfl
        have HW := hide hown
        have HBL := hide hbel
        generalize flC l.length at_ mask k = cn at *
        clear hown hbel hon hmd hml hand h1
        go_wp2
        go_roundw
        case rel => exact ⟨k + 1, by omega, by go_num, by rw [HC1.out], by rw [HL1.out]; exact HW.out, HBL.out⟩
        case measure => simp [intOf]; omega
    · have hk32 : k = 32 := by omega
      subst hk32
      have HW := hide hown.bsl
      have HBL := hide hbel
      clear hown hbel
      go_wp2
      go_ret2
      exact ⟨_, rfl, HW.out, HBL.out⟩
end Go.Proofs.YtbkcenpohcjgnaaDoor
