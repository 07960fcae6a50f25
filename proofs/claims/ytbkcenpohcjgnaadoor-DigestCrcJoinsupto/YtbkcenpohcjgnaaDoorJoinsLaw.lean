import Derived.Test.YtbkcenpohcjgnaaDoorPublished
import Derived.Test.YtbkcenpohcjgnaaDoorJoin
namespace Go.Proofs.YtbkcenpohcjgnaaDoor
open Go.RowKit
open Num
set_option linter.unusedVariables false
set_option linter.unusedSimpArgs false

theorem xor_twice (x y : Nat) : (x ^^^ y) ^^^ y = x := by rw [Nat.xor_assoc, Nat.xor_self, Nat.xor_zero]
theorem crcM_join (a b : List Nat) : crcM (crcM 0 a) b = crcM 0 (a ++ b) := by
  unfold crcM
  rw [xor_twice, crcL_append]
theorem crcM_nil (x : Nat) : crcM x [] = x := by
  unfold crcM; exact xor_twice x _

set_option maxRecDepth 100000 in
set_option maxHeartbeats 1000000 in
theorem joins_walk (va vb : Value) (a b : List Nat) (w : World) (hT : Tabs w) (ha : BSl w va a) (hb : BSl w vb b) (hr : a.length + b.length ≤ 140737488355328) :
    Calls Tryd.prog 3 #[va, vb] w fun e w' => e = .returned (.bool true) ∧ Below w.heap.size w w' := by
  have HA := hide ha
  have HB := hide hb
  have HT := hide hT
  have hxl := crcM_lt (c := 0) a (by omega) ha.bytes
  have HJ := hide (crcM_join a b)
  have HNL := hide (crcM_nil (crcM 0 a))
  have hra : a.length ≤ 140737488355328 := by omega
  have hrb : b.length ≤ 140737488355328 := by omega
  clear ha hb hT
  generalize hx : crcM 0 a = x at *
  have HX := hide hx
  clear hx
  go_enter Tryd.func3, Tryd.ntmps3
  go_wp2_with fail
  refine (copied_any va a w HA.out hra).mono ?_
  rintro e w1 ⟨v1, rfl, ho1, hb1⟩
  have HQ1 := hide ho1.bsl
  have HA1 := hide (HA.out.below hb1)
  have HB1 := hide (HB.out.below hb1)
  have HW1 := hide hb1
  clear ho1 hb1
  go_wp2_with fail
  refine (crc_any _ _ _ HQ1.out).mono ?_
  rintro e wy ⟨rfl, rfl⟩
  rw [HX.out]
  go_wp2_with fail
  refine (join_any va vb a b _ HA1.out HB1.out hr).mono ?_
  rintro e w2 ⟨v2, rfl, ho2, hb2⟩
  have HQ2 := hide ho2.bsl
  have HB2 := hide (HB1.out.below hb2)
  have HW2 := hide (HW1.out.trans (hb2.mono HW1.out.size))
  clear ho2 hb2 HQ1 HA1 HB1 HW1
  go_wp2_with fail
  refine (crc_any _ _ _ HQ2.out).mono ?_
  rintro e wy ⟨rfl, rfl⟩
  rw [← HJ.out]
  go_wp2_with fail
  refine (published_any _ (HT.out.below HW2.out)).mono ?_
  rintro e w3 ⟨rfl, hb3⟩
  have HB3 := hide (HB2.out.below hb3)
  have HW3 := hide (HW2.out.trans (hb3.mono HW2.out.size))
  clear hb3 HB2 HW2 HQ2
  go_wp2_with fail
  refine (copied_any vb b _ HB3.out hrb).mono ?_
  rintro e w4 ⟨v4, rfl, ho4, hb4⟩
  have HQ4 := hide ho4.bsl
  have HB4 := hide (HB3.out.below hb4)
  have HW4 := hide (HW3.out.trans (hb4.mono HW3.out.size))
  clear ho4 hb4 HB3 HW3
  go_wp2_with fail
  refine (crcMore_any x hxl _ _ _ HQ4.out).mono ?_
  rintro e wy ⟨rfl, rfl⟩
  generalize crcM x b = z at *
  go_wp2_with fail
  refine (crcMore_any x hxl _ _ _ (bsl_nil _)).mono ?_
  rintro e wy ⟨rfl, rfl⟩
  rw [HNL.out]
  go_wp2_with fail
  refine (copied_any vb b _ HB4.out hrb).mono ?_
  rintro e w5 ⟨v5, rfl, ho5, hb5⟩
  have HQ5 := hide ho5.bsl
  have HB5 := hide (HB4.out.below hb5)
  have HW5 := hide (HW4.out.trans (hb5.mono HW4.out.size))
  clear ho5 hb5 HB4 HW4 HQ4
  go_wp2_with fail
  refine (crcMore_any 0 (by decide) _ _ _ HQ5.out).mono ?_
  rintro e wy ⟨rfl, rfl⟩
  go_wp2_with fail
  refine (copied_any vb b _ HB5.out hrb).mono ?_
  rintro e w6 ⟨v6, rfl, ho6, hb6⟩
  have HQ6 := hide ho6.bsl
  have HW6 := hide (HW5.out.trans (hb6.mono HW5.out.size))
  clear ho6 hb6 HB5 HW5 HQ5
  go_wp2_with fail
  refine (crc_any _ _ _ HQ6.out).mono ?_
  rintro e wy ⟨rfl, rfl⟩
  generalize crcM 0 b = u at *
  clear HQ6 HJ HNL
  go_wp2_with fail
  go_ret
  exact ⟨rfl, HW6.out⟩
end Go.Proofs.YtbkcenpohcjgnaaDoor
