import Derived.Test.YtcjilmafdpnfeaaDoorWRead
import Derived.Lib.SliceRun
import Derived.Test.YtcjilmafdpnfeaaDoorHex
namespace Go.Proofs.YtcjilmafdpnfeaaDoor
open Go.RowKit
open Num
set_option linter.unusedVariables false
set_option linter.unusedSimpArgs false
set_option maxRecDepth 20000

set_option maxHeartbeats 1000000 in
theorem clone_any (v : Value) (l : List Nat) (w : World) (h : BSl w v l) (hp : 0 < l.length) (hr : l.length ≤ 140737488355328) :
    Calls Tryd.prog 32 #[v] w fun e w' => ∃ v', e = .returned v' ∧ Own w' w.heap.size v' l ∧ Below w.heap.size w w' := by
  have hmade : (w.alloc (.cells #[] 5)).ownsRow w.heap.size 5 1 (.slice (some ⟨w.heap.size, 0, none⟩) 0 0) 0 [] := World.ownsRow_made w #[] 0 (Nat.le_refl _) (by unfold maxLen; omega) rfl
  have HM : Hid (Own (w.alloc (.cells #[] 5)) w.heap.size (.slice (some ⟨w.heap.size, 0, none⟩) 0 0) []) := hide ⟨hmade, by simp⟩
  have HBE := hide ((Below.refl w.heap.size w).alloc (Nat.le_refl _) (.cells #[] 5))
  have HN := hide (h.below HBE.out)
  obtain ⟨a, cap, rfl, hl, hm, hn, hb, hcell⟩ := id h
  obtain ⟨b, off, rfl, _⟩ := hcell hp
  have hsn := fun wx => Lib.run_eql_slice_nil (P := Tryd.prog) wx 22 5 (some ⟨b, off, none⟩) l.length cap 0 0 Tryd.underlying22
  clear hcell hb hn hmade h
  rename_i dead1
  clear dead1
  go_enter Tryd.func32, Tryd.ntmps32
  go_wp2_with (at_builtin; refine wpList_app rfl (.tmp 5) (.tmp 6) rfl w.heap.size _ _ [] l rfl rfl HM.out HN.out (by simpa using hr) (by simp) ?_)
  intro v' w1 ho hb' hs _
  have HR := hide ho
  have HR2 := hide (HBE.out.trans hb')
  clear ho hb'
  go_wp2
  go_ret
  exact ⟨_, rfl, HR.out, HR2.out⟩
theorem str_rf {x y : Nat} (hx : x < 256) (hy : y < 256) (h : ¬ (x = 82 ∧ y = 70)) : (⟨#[UInt8.ofNat x, UInt8.ofNat y]⟩ : ByteArray) ≠ ⟨#[82, 70]⟩ := by
  intro e
  simp only [ByteArray.mk.injEq, Array.mk.injEq, List.cons.injEq, and_true] at e
  have h1 := congrArg UInt8.toNat e.1
  have h2 := congrArg UInt8.toNat e.2
  simp [UInt8.toNat_ofNat'] at h1 h2
  omega

theorem toList_two (u v : UInt8) : (⟨#[u, v]⟩ : ByteArray).toList = [u, v] := by
  simp [ByteArray.toList, ByteArray.toList.loop, ByteArray.size, ByteArray.get!]
theorem str_rf2 {x y : Nat} (hx : x < 256) (hy : y < 256) (h : ¬ (x = 82 ∧ y = 70)) : ((⟨#[UInt8.ofNat x, UInt8.ofNat y]⟩ : ByteArray).toList == [82, 70]) = false := by
  rw [toList_two]
  refine beq_eq_false_iff_ne.2 fun e => ?_
  simp only [List.cons.injEq, and_true] at e
  have h1 := congrArg UInt8.toNat e.1
  have h2 := congrArg UInt8.toNat e.2
  simp [UInt8.toNat_ofNat'] at h1 h2
  omega

/-- what DecodeFrame reads -/
def dk (b : List Nat) : Nat := if derr b = 0 then b.getD 2 0 else 0
def dw (b : List Nat) (i : Nat) : Nat := if derr b = 0 then bv (sg b (4 + 4 * i) 4) else 0
def dp (b : List Nat) : List Nat := if derr b = 0 then b.drop 26 else []
def decPost (b : List Nat) (w : World) (e : Ending) (w' : World) : Prop := ∃ v', e = .returned (.tuple #[frV (dk b) (dw b 0) (dw b 1) (dw b 2) (dw b 3) v', .int .i64 (derr b : Nat)]) ∧ Own w' w.heap.size v' (dp b) ∧ Below w.heap.size w w'
theorem decPost_bad {b : List Nat} {w w' : World} {q : Nat} (hq : derr b = q) (h0 : q ≠ 0) (hb : Below w.heap.size w w') : decPost b w (.returned (.tuple #[.agg #[.int .i64 0, .int .u32 0, .int .u32 0, .int .u32 0, .int .u32 0, .slice none 0 0], .int .i64 (q : Int)])) w' := by
  refine ⟨.slice none 0 0, ?_, ?_, hb⟩
  · unfold dk dw frV
    rw [if_neg (by omega), if_neg (by omega), if_neg (by omega), if_neg (by omega), if_neg (by omega), hq]
    rfl
  · unfold dp
    rw [if_neg (by omega)]
    exact ⟨World.ownsRow_nil _ _ _ _, by simp⟩
theorem decPost_good {b : List Nat} {w w' : World} {v' : Value} (hq : derr b = 0) (ho : Own w' w.heap.size v' (b.drop 26)) (hb : Below w.heap.size w w') : decPost b w (.returned (.tuple #[.agg #[.int .i64 ((b.getD 2 0 : Nat) : Int), .int .u32 ((bv (sg b 4 4) : Nat) : Int), .int .u32 ((bv (sg b 8 4) : Nat) : Int), .int .u32 ((bv (sg b 12 4) : Nat) : Int), .int .u32 ((bv (sg b 16 4) : Nat) : Int), v'], .int .i64 0])) w' := by
  refine ⟨v', ?_, ?_, hb⟩
  · unfold dk dw frV
    rw [if_pos hq, if_pos hq, if_pos hq, if_pos hq, if_pos hq, hq]
    rfl
  · unfold dp
    rw [if_pos hq]
    exact ho
end Go.Proofs.YtcjilmafdpnfeaaDoor
