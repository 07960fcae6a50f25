import Derived.Test.YtlpmpicmpklaoabDMeth
import Derived.LaidEql
import Derived.Stop.Asserts
import Derived.RowKitTokens
namespace Go.Proofs.Ytlpmpicmpklaoab
open Go.RowKit Go.Maps Go.Extern.Stop Go.Stop Go.Extern
set_option linter.unusedVariables false
set_option linter.unusedSimpArgs false
set_option maxRecDepth 20000

theorem isTypeOf (v : Value) (w : World) : (Extern.ReflectliteType.typeOf #[.iface 46 v]).run Try.prog w = .ok (.iface 99 (.agg #[.pointer (some ⟨0, 46, none⟩)])) w := by kernel_rfl
def cmpF : Array Value → Sem Value := Extern.ReflectliteType.method fun t => do Extern.Rtype.noPackHeld "Comparable" t; pure (.bool (← typeInfo t).comparable)
theorem isComparable (w : World) : (cmpF #[.agg #[.pointer (some ⟨0, 46, none⟩)]]).run Try.prog w = .ok (.bool true) w := by kernel_rfl
theorem isMethodComparable (v : Value) (w : World) : (Go.method 266 99 v "Comparable").run Try.prog w = .ok (99, v) w := by kernel_rfl
theorem noIsB (v : Value) (xT : TypeId) (w : World) : (Instr.typeAssert (.iface 82 v) xT 101 true).run Try.prog w = .ok (.tuple #[.nilIface, .bool false]) w := run_typeAssert_lacksB Try.underlying101 (by kernel_rfl) (by kernel_rfl) v xT w
theorem hasUnwrapB (v : Value) (xT : TypeId) (w : World) : (Instr.typeAssert (.iface 82 v) xT 104 true).run Try.prog w = .ok (.tuple #[.iface 82 v, .bool true]) w := run_typeAssert_hasB Try.underlying104 (by kernel_rfl) v xT w
theorem methodUnwrapB (v : Value) (w : World) : (Go.method 266 82 v "Unwrap").run Try.prog w = .ok (95, v) w := by kernel_rfl
theorem compErrno : (Try.prog.info? 46).map (·.comparable) = some true := by kernel_rfl
theorem eqIn_errno (d : Nat) (a b : Int) (W : World) : (Op.equalIn (d + 2) 60 (.iface 46 (.int .i64 a)) (.iface 46 (.int .i64 b))).run Try.prog W = .ok (a == b) W := by
  obtain ⟨i, hi, hcmp⟩ := Option.map_eq_some_iff.1 compErrno
  simp [Op.equalIn, run_underlying Try.underlying60, run_underlying Try.underlying46, typeInfo, hi, hcmp]
theorem eql_errno (a b : Int) (W : World) : (binOp .eql 60 (.iface 46 (.int .i64 a)) (.iface 46 (.int .i64 b))).run Try.prog W = .ok (.bool (a == b)) W := by
  simp only [binOp]
  simp [Op.equal, Op.maxDepth, eqIn_errno 9998 a b W]

theorem is_nil (v : Value) (w : World) :
    Calls Try.prog 29 #[.nilIface, .iface 46 v] w fun e w' => e = .returned (.bool false) ∧ w' = w := by
  have hn := run_eql_iface_nil_left (P := Try.prog) w 46 v Try.underlying60
  go_enter Try.func29, Try.ntmps29
  go_wp2
  go_ret
  exact ⟨rfl, rfl⟩

set_option maxHeartbeats 1000000 in
theorem is_medium (g : Nat) (b n : Int) (w : World) (hg : w.heap[g]? = some (berr b n)) :
    Calls Try.prog 29 #[errV g, .iface 46 (.int .i64 n)] w fun e w' => e = .returned (.bool true) ∧ w' = w := by
  have c1 : w.cell? ⟨g, 1, none⟩ = some (.int .i64 n) := by rw [cell_of_row _ _ _ _ _ _ hg]; rfl
  clear hg
  have h8 := @run_callFunc_extern Try.prog 44 _ Extern.ReflectliteType.typeOf Try.func44 (by kernel_rfl) (by kernel_rfl) (by kernel_rfl) (by kernel_rfl)
  have h32 := @run_callFunc_extern Try.prog 99 _ cmpF Try.func99 (by kernel_rfl) (by kernel_rfl) (by kernel_rfl) (by kernel_rfl)
  have tT := isTypeOf
  have cT := isComparable
  have mR := isMethodComparable
  have nW := noIsB
  have uW := hasUnwrapB
  have mU := methodUnwrapB
  have heq := eql_errno n n
  simp only [beq_self_eq_true] at heq
  have hty := run_eql_iface_types (P := Try.prog) 82 46 (.pointer (some ⟨g, 0, none⟩)) (.int .i64 n) Try.underlying60 (by decide) w
  unfold errV
  go_enter Try.func29, Try.ntmps29
  go_wp2
  refine wp_loop_rounds 2 ?_
  rw [rounds_succ]
  go_wp2
  rw [rounds_succ]
  go_wp2
  go_ret
  exact ⟨rfl, rfl⟩
end Go.Proofs.Ytlpmpicmpklaoab
