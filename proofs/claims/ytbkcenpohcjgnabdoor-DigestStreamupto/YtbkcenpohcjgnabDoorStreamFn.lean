import Derived.Test.YtbkcenpohcjgnabDoorShaMac
namespace Go.Proofs.YtbkcenpohcjgnabDoor
open Go.RowKit
open Num
set_option linter.unusedVariables false
set_option linter.unusedSimpArgs false

set_option maxRecDepth 100000 in
set_option maxHeartbeats 1000000 in
theorem reset_any (g : Nat) (q : List Nat) (L C : Nat) (w : World) (hH : Tab w 0 H0) (hr : HRow w g q L C) :
    Calls Tryd.prog 28 #[.pointer (some ⟨g, 0, none⟩)] w fun e w' => e = .returned (.tuple #[]) ∧ HRow w' g [] 0 0 ∧ But g w w' := by
  have HR := hide hH.range
  obtain ⟨buf, hbl, _, _, hrow⟩ := hr
  have HZ : Hid (Tryd.prog.built 57 [(0, .agg (H0.map wordV).toArray)] = some (hcells st0 (List.replicate 64 0) 0).toArray) := Tryd.builtH
  have HS : Hid ((Tryd.prog.info? 53).map (·.size) = some (H0.map wordV).length) := Tryd.sizeS
  have hzs : (hcells st0 (List.replicate 64 0) 0).toArray.size = 73 := by rw [List.size_toArray, hcells_len (by simp)]
  have HS1 : Hid ((Tryd.prog.info? 57).map (·.size) = some (hcells st0 (List.replicate 64 0) 0).toArray.size) := by show _ = _; rw [hzs]; exact Tryd.sizeH
  have HS2 : Hid ((hcells (absorb q (L / 64)) buf C).toArray.size = (hcells st0 (List.replicate 64 0) 0).toArray.size) := by show _ = _; rw [hzs, List.size_toArray, hcells_len hbl]
  have HON : Hid ((hcells st0 (List.replicate 64 0) 0).toArray.all (·.oneCell') = true) := all_oneCell_toArray (hcells_one _ _ _)
  have HNR : Hid (HRow (w.setRow g (hcells st0 (List.replicate 64 0) 0).toArray) g [] 0 0) :=
    ⟨List.replicate 64 0, by simp, fun b hb => by have := List.eq_of_mem_replicate hb; omega, rfl, setRow_heap w g _ _ _ _ hrow⟩
  have HRW := hide hrow
  generalize (hcells (absorb q (L / 64)) buf C).toArray = old at *
  generalize hcells st0 (List.replicate 64 0) 0 = Z at *
  generalize H0.map wordV = hl at *
  clear hH hrow hzs
  go_enter Tryd.func28, Tryd.ntmps28
  go_wp2_with (first
    | refine wpList_load_mid rfl 53 (.global 0) rfl 0 0 rfl hl _ HR.out Tryd.underlying53 rfl HS.out ?_
    | refine wpList_build_as rfl 57 _ rfl Z.toArray (by simp [Act.eval, Act.put]; exact HZ.out) ?_
    | refine wpList_store_row rfl 57 _ _ rfl g Z.toArray rfl rfl 57 old HRW.out HS1.out HS2.out HON.out ?_)
  go_end0
  exact ⟨rfl, HNR.out, But.setRow _ _ _⟩

set_option maxRecDepth 100000 in
set_option maxHeartbeats 1000000 in
theorem which_any (kd o : Int) (pv : Value) (w : World) (ho : -9223372036854775808 ≤ o ∧ o ≤ 9223372036854775807) :
    Calls Tryd.prog 27 #[.agg #[.int .i64 kd, .int .i64 o, pv]] w fun e w' => (∃ k : Nat, k < 3 ∧ e = .returned (.int .i64 (k : Int))) ∧ Below w.heap.size w w' := by
  obtain ⟨r, hr⟩ : ∃ r, Int.tmod o 3 = r := ⟨_, rfl⟩
  have hr1 : -2 ≤ r ∧ r ≤ 2 := by
    have h1 := Int.tmod_lt_of_pos o (show (0 : Int) < 3 by decide)
    have h2 := Int.lt_tmod_of_pos o (show (0 : Int) < 3 by decide)
    omega
  obtain ⟨k, hk⟩ : ∃ k : Nat, Int.tmod (r + 3) 3 = (k : Int) := ⟨(Int.tmod (r + 3) 3).toNat, by have := Int.tmod_nonneg 3 (show 0 ≤ r + 3 by omega); omega⟩
  have hk3 : k < 3 := by have := Int.tmod_lt_of_pos (r + 3) (show (0 : Int) < 3 by decide); omega
  obtain ⟨h1, h2⟩ := ho
  obtain ⟨h3, h4⟩ := hr1
  go_enter Tryd.func27, Tryd.ntmps27
  go_wp2
  go_ret
  exact ⟨⟨k, hk3, rfl⟩, below_alloc _ _⟩
end Go.Proofs.YtbkcenpohcjgnabDoor
