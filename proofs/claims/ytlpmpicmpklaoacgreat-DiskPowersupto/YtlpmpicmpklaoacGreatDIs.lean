import Derived.Test.YtlpmpicmpklaoacGreatDMeth
import Derived.LaidEql
import Derived.Stop.Asserts
import Derived.RowKitTokens
namespace Go.Proofs.YtlpmpicmpklaoacGreat
open Go.RowKit Go.Maps Go.Extern.Stop Go.Stop Go.Extern
set_option linter.unusedVariables false
set_option linter.unusedSimpArgs false
set_option maxRecDepth 20000

theorem isTypeOf (v : Value) (w : World) : (Extern.ReflectliteType.typeOf #[.iface 45 v]).run Tryz.prog w = .ok (.iface 127 (.agg #[.pointer (some ⟨0, 45, none⟩)])) w := by kernel_rfl
def cmpF : Array Value → Sem Value := Extern.ReflectliteType.method fun t => do Extern.Rtype.noPackHeld "Comparable" t; pure (.bool (← typeInfo t).comparable)
theorem isComparable (w : World) : (cmpF #[.agg #[.pointer (some ⟨0, 45, none⟩)]]).run Tryz.prog w = .ok (.bool true) w := by kernel_rfl
theorem isMethodComparable (v : Value) (w : World) : (Go.method 293 127 v "Comparable").run Tryz.prog w = .ok (140, v) w := by kernel_rfl
theorem noIsB (v : Value) (xT : TypeId) (w : World) : (Instr.typeAssert (.iface 58 v) xT 129 true).run Tryz.prog w = .ok (.tuple #[.nilIface, .bool false]) w := run_typeAssert_lacksB Tryz.underlying129 (by kernel_rfl) (by kernel_rfl) v xT w
theorem hasUnwrapB (v : Value) (xT : TypeId) (w : World) : (Instr.typeAssert (.iface 58 v) xT 132 true).run Tryz.prog w = .ok (.tuple #[.iface 58 v, .bool true]) w := run_typeAssert_hasB Tryz.underlying132 (by kernel_rfl) v xT w
theorem methodUnwrapB (v : Value) (w : World) : (Go.method 293 58 v "Unwrap").run Tryz.prog w = .ok (132, v) w := by kernel_rfl
theorem compErrno : (Tryz.prog.info? 45).map (·.comparable) = some true := by kernel_rfl
theorem eqIn_errno (d : Nat) (a b : Int) (W : World) : (Op.equalIn (d + 2) 60 (.iface 45 (.int .i64 a)) (.iface 45 (.int .i64 b))).run Tryz.prog W = .ok (a == b) W := by
  obtain ⟨i, hi, hcmp⟩ := Option.map_eq_some_iff.1 compErrno
  simp [Op.equalIn, run_underlying Tryz.underlying60, run_underlying Tryz.underlying45, typeInfo, hi, hcmp]
theorem eql_errno (a b : Int) (W : World) : (binOp .eql 60 (.iface 45 (.int .i64 a)) (.iface 45 (.int .i64 b))).run Tryz.prog W = .ok (.bool (a == b)) W := by
  simp only [binOp]
  simp [Op.equal, Op.maxDepth, eqIn_errno 9998 a b W]

theorem is_nil (v : Value) (w : World) :
    Calls Tryz.prog 73 #[.nilIface, .iface 45 v] w fun e w' => e = .returned (.bool false) ∧ w' = w := by
  have hn := run_eql_iface_nil_left (P := Tryz.prog) w 45 v Tryz.underlying60
  go_enter Tryz.func73, Tryz.ntmps73
  go_wp2
  go_ret
  exact ⟨rfl, rfl⟩

set_option maxHeartbeats 1000000 in
theorem is_medium (g : Nat) (b n : Int) (w : World) (hg : w.heap[g]? = some (berr b n)) :
    Calls Tryz.prog 73 #[errV g, .iface 45 (.int .i64 n)] w fun e w' => e = .returned (.bool true) ∧ w' = w := by
  have c1 : w.cell? ⟨g, 1, none⟩ = some (.int .i64 n) := by rw [cell_of_row _ _ _ _ _ _ hg]; rfl
  clear hg
  have h8 := @run_callFunc_extern Tryz.prog 89 _ Extern.ReflectliteType.typeOf Tryz.func89 (by kernel_rfl) (by kernel_rfl) (by kernel_rfl) (by kernel_rfl)
  have h32 := @run_callFunc_extern Tryz.prog 140 _ cmpF Tryz.func140 (by kernel_rfl) (by kernel_rfl) (by kernel_rfl) (by kernel_rfl)
  have tT := isTypeOf
  have cT := isComparable
  have mR := isMethodComparable
  have nW := noIsB
  have uW := hasUnwrapB
  have mU := methodUnwrapB
  have heq := eql_errno n n
  simp only [beq_self_eq_true] at heq
  have hty := run_eql_iface_types (P := Tryz.prog) 58 45 (.pointer (some ⟨g, 0, none⟩)) (.int .i64 n) Tryz.underlying60 (by decide) w
  unfold errV
  go_enter Tryz.func73, Tryz.ntmps73
  go_wp2
  refine wp_loop_rounds 2 ?_
  rw [rounds_succ]
  go_wp2
  rw [rounds_succ]
  go_wp2
  go_ret
  exact ⟨rfl, rfl⟩
end Go.Proofs.YtlpmpicmpklaoacGreat
