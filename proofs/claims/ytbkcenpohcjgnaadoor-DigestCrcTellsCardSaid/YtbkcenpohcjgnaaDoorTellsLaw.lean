import Derived.Test.YtbkcenpohcjgnaaDoorPublished
import Derived.Test.YtbkcenpohcjgnaaDoorFlip
namespace Go.Proofs.YtbkcenpohcjgnaaDoor
open Go.RowKit
open Num
set_option linter.unusedVariables false
set_option linter.unusedSimpArgs false

set_option maxRecDepth 100000 in
set_option maxHeartbeats 1000000 in
theorem tells_walk (v : Value) (l : List Nat) (i : Int) (m : Int) (w : World) (hT : Tabs w) (hb : BSl w v l) (hr : l.length ≤ 140737488351232) (hi : (Lit.int .i64 i).wf = true) (hm : (Lit.int .u32 m).wf = true) :
    Calls Tryd.prog 4 #[v, .int .i64 i, .int .u32 m] w fun e w' => e = .returned (.bool true) ∧ Below w.heap.size w w' := by
  have hi' := bounds_i64 hi
  have hm' := bounds_u32 hm
  obtain ⟨mask, rfl⟩ := Int.eq_ofNat_of_zero_le hm'.1
  have HT := hide hT
  have HV := hide hb
  have HBB := hide hb.bytes
  clear hi hm hT hb
  go_enter Tryd.func4, Tryd.ntmps4
  go_wp2_with fail
  refine (published_any _ HT.out).mono ?_
  rintro e w1 ⟨rfl, hb1⟩
  have HB1 := hide hb1
  have HV1 := hide (HV.out.below hb1)
  clear hb1
  by_cases hneg : i < 0
  · go_wp2_with fail
    go_ret
    exact ⟨rfl, HB1.out⟩
  · obtain ⟨n, rfl⟩ := Int.eq_ofNat_of_zero_le (show 0 ≤ i by omega)
    go_wp2_with fail
    refine (flip_any v l n mask _ HV1.out (by omega) (by omega) (by omega)).mono ?_
    rintro e w2 ⟨v2, rfl, hv2, hb2⟩
    have HB2 := hide (HB1.out.trans (hb2.mono HB1.out.size))
    have HV2 := hide (HV1.out.below hb2)
    have HQ := hide hv2
    have HTE := hide (@flip_tells l n mask)
    have hcl := crcM_lt (c := 0) l (by omega) HBB.out
    have hcq := crcM_lt (c := 0) (flL l n mask 32) (by omega) hv2.bytes
    clear hb2 hv2 HB1
    generalize hc : flC l.length n mask 32 = cn at *
    by_cases h0 : cn = 0
    · subst h0
      go_wp2_with fail
      go_ret
      exact ⟨rfl, HB2.out⟩
    · have hne := HTE.out h0
      have hneI : ¬ ((crcM 0 l : Nat) : Int) = ((crcM 0 (flL l n mask 32) : Nat) : Int) := by omega
      have h0I : ¬ (cn : Int) = 0 := by omega
      clear hc HTE
      go_wp2_with fail
      refine (copied_any _ l _ HV2.out (by omega)).mono ?_
      rintro e w5 ⟨v5, rfl, ho5, hb5⟩
      have HQ5 := hide ho5.bsl
      have HW5 := hide (HB2.out.trans (hb5.mono HB2.out.size))
      have HX5 := hide (HQ.out.below hb5)
      clear ho5 hb5 HB2 HQ HV2
      go_wp2_with fail
      refine (crc_any _ _ _ HQ5.out).mono ?_
      rintro e wy ⟨rfl, rfl⟩
      go_wp2_with fail
      refine (crc_any _ _ _ HX5.out).mono ?_
      rintro e wy ⟨rfl, rfl⟩
      clear HQ5 HX5
      generalize crcM 0 l = x at *
      generalize crcM 0 (flL l n mask 32) = y at *
      go_wp2_with fail
      go_ret
      refine ⟨?_, HW5.out⟩
      show Ending.returned (.bool ((cn : Int) == 0 || (x : Int) != (y : Int))) = _
      rw [show ((x : Int) != (y : Int)) = true by simpa using hneI, Bool.or_true]
end Go.Proofs.YtbkcenpohcjgnaaDoor
