import Derived.Test.YtkjaaknlhmneoaaMtHc
namespace Go.Proofs.Ytkjaaknlhmneoaa
open Go.RowKit
open Num
set_option linter.unusedVariables false
set_option linter.unusedSimpArgs false
set_option maxRecDepth 20000

set_option maxHeartbeats 2000000 in
theorem untouchedBlocks_any (w : World) (inV v : Value) (Og : Nat) (Bs : List (List Nat)) (gs : List Nat) (hv : LL w v Bs) (hi' : HN w inV Bs gs) (hr : AR w Og Bs) (hN : Bs.length ≤ 5864062014634) :
    Calls Try.prog 29 #[inV, .slice (some ⟨Og, 0, none⟩) (Bs.length + 1) (Bs.length + 1), v] w fun e w' => e = .returned (.bool true) ∧ Below w.heap.size w w' := by
  obtain ⟨a, cap, rfl, q1, q2, q3, q4⟩ := id hv
  obtain ⟨⟨a2, cap2, rfl, p1, p2⟩, p3⟩ := id hi'
  have HEL : Hid (∀ i, i < Bs.length → ∃ O off O2 ua uc za zc, a = some ⟨O, off, none⟩ ∧ a2 = some ⟨O2, 0, none⟩ ∧ ∀ y, Below w.heap.size w y → (y.cell? ⟨O, off + i, none⟩ = some (.slice ua (Bs.getD i []).length uc) ∧ y.cell? ⟨O2, i, none⟩ = some (sl (gs.getD i 0) ((Bs.getD i []).length + 6)) ∧ y.cell? ⟨Og, i, none⟩ = some (.slice za (Bs.getD i []).length zc)) ∧ (Calls Try.prog 50 #[sl (gs.getD i 0) ((Bs.getD i []).length + 6), .slice ua (Bs.getD i []).length uc] y fun e w' => e = .returned (.bool true) ∧ Below y.heap.size y w') ∧ (Calls Try.prog 19 #[.slice za (Bs.getD i []).length zc, .slice ua (Bs.getD i []).length uc] y fun e w' => e = .returned (.bool true) ∧ Below y.heap.size y w')) := hide fun i hi => by
    obtain ⟨O, off, e, hO, hc⟩ := q4 (by omega)
    obtain ⟨u, c1, c2, c3⟩ := hc i hi
    obtain ⟨O2, e2, hO2, hc2⟩ := p2 (by omega)
    obtain ⟨z, z1, z2, z3⟩ := hr.el i hi
    obtain ⟨ua, uc, rfl, _⟩ := id c2
    obtain ⟨za, zc, rfl, _⟩ := id z2
    exact ⟨O, off, O2, ua, uc, za, zc, e, e2, fun y hb => ⟨⟨(hb.cell (p := ⟨O, off + i, none⟩) hO).trans c1, (hb.cell (p := ⟨O2, i, none⟩) hO2).trans (hc2 i hi), (hb.cell (p := ⟨Og, i, none⟩) hr.lt).trans z1⟩, untouched_any (c2.below hb) ((p3 i hi).below hb) (by omega), same_eq y _ _ _ (z2.below hb) (c2.below hb)⟩⟩
  obtain ⟨G, g1, g2, g3⟩ := hr.last
  have HLA : Hid (∀ y, Below w.heap.size w y → y.cell? ⟨Og, Bs.length, none⟩ = some (.slice (some ⟨G, 0, none⟩) 1 1) ∧ y.cell? ⟨G, 0, none⟩ = some (.int .u8 77)) := hide fun y hb => ⟨(hb.cell (p := ⟨Og, Bs.length, none⟩) hr.lt).trans g1, (hb.cell (p := ⟨G, 0, none⟩) g3).trans g2⟩
  unfold maxLen at q2
  clear q3 q4 p2 p3 hv hi' hr g1 g2 g3
  generalize hLL : Bs.length = N at *
  clear hLL
  have HB0 := hide (Below.refl w.heap.size w)
  go_enter Try.func29, Try.ntmps29
  go_wp2_with fail
  go_loopw [7] (fun x wr => ∃ i : Nat, i ≤ N ∧ x = .int .i64 (i : Int) ∧ Below w.heap.size w wr) (fun x _ => N - (intOf x).toNat)
  case atStart => exact ⟨0, Nat.zero_le _, rfl, HB0.out⟩
  case round =>
    obtain ⟨i, hi, rfl, hI⟩ := hrel
    have HI := hide hI
    clear hI HB0
    by_cases hlt : i < N
    · have i1 : (i : Int) < (N : Int) := by omega
      have i2 : (i : Int) < (N : Int) + 1 := by omega
      have i0 : (0 : Int) ≤ (i : Int) := by omega
      obtain ⟨O, off, O2, ua, uc, za, zc, rfl, rfl, hy⟩ := HEL.out i hlt
      have HY := hide hy
      clear hy HEL
      generalize (Bs.getD i []).length = LI at *
      generalize gs.getD i 0 = GI at *
      unfold sl at HY
      obtain ⟨⟨c1, c2, c3⟩, _, _⟩ := HY.out wr HI.out
      go_wp2_with fail
      refine wp_still_tail 8 (by kernel_rfl) (by kernel_rfl) ?_
      simp only [List.take_succ_cons, List.take_zero, List.drop_succ_cons, List.drop_zero]
      repeat still_step
      refine wpStill_nil ?_
      go_wp2_with (go_at_call 50; (refine (HY.out wr.drew HI.out.drew).2.1.mono ?_; rintro e y ⟨rfl, hb⟩; have HI2 := hide (HI.out.drew.trans (hb.mono HI.out.size)); clear hb HI c1 c2 c3; obtain ⟨⟨c1, c2, c3⟩, _, hsm⟩ := HY.out y HI2.out; have HSM := hide hsm; clear hsm))
      obtain ⟨_, _, hsm2⟩ := HY.out y.drew HI2.out.drew
      have HSM2 := hide hsm2
      clear hsm2 HSM
      go_region_held3 (fun w' => w'.cell? ⟨O, off + i, none⟩ = some (.slice ua LI uc) ∧ w'.cell? ⟨Og, i, none⟩ = some (.slice za LI zc)) (first | exact ⟨c1, c3⟩ | exact ⟨f1, f3⟩ | assumption)
        ((go_at_call 19; refine HSM2.out.mono ?_; rintro e z ⟨rfl, hb⟩; have HI3 := hide (HI2.out.drew.trans (hb.mono HI2.out.size)); obtain ⟨⟨f1, f2, f3⟩, _, _⟩ := HY.out z HI3.out; clear hb HSM2))
      go_wp2_with fail
      go_roundw
      case rel => exact ⟨i + 1, by omega, by go_num, by first | exact HI3.out | exact HI3.out.drew⟩
      case measure => simp [intOf]; omega
    · obtain rfl : N = i := by omega
      obtain ⟨d1, d2⟩ := HLA.out wr HI.out
      have i2 : (N : Int) < (N : Int) + 1 := by omega
      go_wp2_with fail
      go_ret
      exact ⟨by first | rfl | (simp; done), HI.out⟩
end Go.Proofs.Ytkjaaknlhmneoaa
