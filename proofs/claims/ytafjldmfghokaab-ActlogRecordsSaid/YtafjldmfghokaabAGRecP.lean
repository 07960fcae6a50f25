import Derived.Test.YtafjldmfghokaabAOwn
import Derived.Test.YtafjldmfghokaabAGoM0
namespace Go.Proofs.Ytafjldmfghokaab
open Go.ChangeShapes Go.WideShapes Go.ChangeAt Go.RowKit
set_option linter.unusedVariables false

set_option maxRecDepth 100000 in
theorem liftedActlogRecords (os : Os) (started : os.Started) (H : Type) (enc : TypeId × Value → H) :
    ReturnsInHanded {} Try.checked os 8 .any (Rows.actlogRecordsSpec.pre6 enc Try.prog Try.f8 Rows.actlogRecordsRow.domain false) (Rows.actlogRecordsSpec.post enc Try.prog Try.f8 false true false false) := by
  refine returnsInHanded_of_change_sized (C := Try.checked) own started (by kernel_rfl) Try.func8
    (ChangeSpec.witness6 (enc := enc) (C := Try.checked) false ⟨#[], #[.agg #[.int .i64 0, .int .i64 0, .int .i64 0, .int .u32 0], .agg #[.int .i64 0, .int .i64 0, .int .i64 0, .int .u32 0], .slice none 0 0], []⟩ 8 (by kernel_rfl) (by kernel_rfl) (by kernel_rfl) (by kernel_rfl)) ?_
  intro W base args ds gs before hval0 hW hcnd hsz0 _
  have hsz : (DataW.weightsEach Try.prog (Try.f8.params.toList ++ Rows.actlogRecordsSpec.plain.varTypes Try.prog) (ds ++ gs)).all (· ≤ reachBytes) = true := hsz0
  have hval : ∀ (j : Nat) t v, Try.f8.params[j]? = some t → args[j]? = some v → Value.okWide Try.prog W .any base t v := hval0
  have hW' := hW
  obtain ⟨p, q, hA0, hV, rfl, hfz, hnd⟩ := hW
  have hA : DataW.TrodAll enc Try.prog W 0 (fun _ => true) true Try.f8.params.toList args.toList ds p := hA0
  rw [Try.params8] at hA hval hsz
  obtain ⟨v0, vs0, d0, ds0, p0, q0, hargs, rfl, rfl, h0, r0⟩ := trodAll_cons hA
  obtain ⟨v1, vs1, d1, ds1, p1, q1, rfl, rfl, rfl, h1, r1⟩ := trodAll_cons r0
  obtain ⟨v2, vs2, d2, ds2, p2, q2, rfl, rfl, rfl, h2, r2⟩ := trodAll_cons r1
  obtain ⟨rfl, rfl, rfl⟩ := trodAll_nil r2
  obtain rfl : args = #[v0, v1, v2] := by cases args; simp_all
  obtain ⟨rfl, rfl⟩ := trodVars_none hV
  have k0 := h0
  obtain ⟨a0, b0, c0, d0, rfl, e0⟩ := open_made (hval 0 24 v0 rfl rfl) h0
  have k1 := h1
  obtain ⟨a1, b1, c1, d1, rfl, e1⟩ := open_made (hval 1 24 v1 rfl rfl) h1
  have k2 := h2
  obtain ⟨l2, b2, c2⟩ := open_ops (ts := _) (ds := _) 2 rfl rfl hsz (hval 2 25 v2 rfl rfl) h2
  clear hA0 hval0
  refine (lawRecords W a0 b0 c0 d0 a1 b1 c1 d1 e0 e1 _ l2 b2 c2).mono fun e W' ⟨he, bel⟩ => ?_
  subst he
  exact ⟨_, rfl, _, _, _, [], _, [], hW', trodAll_mk1 (shut_bool Try.underlying4 _), (trodAll_cons_mk (again_made k0 bel) (trodAll_cons_mk (again_made k1 bel) (trodAll_cons_mk (again_ops k2 bel) trodAll_mk0))), rfl, bel.frame _, fun h => by cases h⟩

theorem overActlogRecords : Rows.actlogRecordsRow.holds Try.pinned (OpenSpec.ofChange Rows.actlogRecordsSpec) :=
  OpenClaim.holds_of_wide 8 Try.f8 rfl rfl rfl rfl rfl rfl rfl ⟨rfl, rfl, rfl, rfl, rfl⟩ rfl rfl rfl rfl rfl (by kernel_rfl) Try.func8 (by kernel_rfl)
    (of_decide_eq_true (by kernel_rfl)) (by unfold Func.isWrapper; first | (rw [if_pos (by decide +kernel)]; kernel_rfl) | (rw [if_neg (by decide +kernel)]; exact ⟨rfl, rfl⟩))
    (fun os started H enc _ => liftedActlogRecords os started H enc)

theorem actlogRecords_holds : Rows.ActlogRecordsSaid := overActlogRecords
#print axioms actlogRecords_holds
end Go.Proofs.Ytafjldmfghokaab
