import Derived.Test.YtcjilmafdpnfeaaDoorWFit
namespace Go.Proofs.YtcjilmafdpnfeaaDoor
open Go.RowKit
set_option linter.unusedVariables false
set_option linter.unusedSimpArgs false
set_option maxRecDepth 20000

theorem as_number_number (n : Int) (w : World) : (Instr.typeAssert (.iface 66 (.int .i64 n)) 53 66 true).run Tryd.prog w = .ok (.tuple #[.int .i64 n, .bool true]) w := by kernel_rfl
theorem as_idents_number  (w : World) : (Instr.typeAssert (.iface 72 (.agg #[])) 53 66 true).run Tryd.prog w = .ok (.tuple #[.int .i64 0, .bool false]) w := by kernel_rfl
theorem as_idents_idents  (w : World) : (Instr.typeAssert (.iface 72 (.agg #[])) 53 72 true).run Tryd.prog w = .ok (.tuple #[.agg #[], .bool true]) w := by kernel_rfl
theorem as_sumt_number (t : Bool) (w : World) : (Instr.typeAssert (.iface 70 (.agg #[.bool t])) 53 66 true).run Tryd.prog w = .ok (.tuple #[.int .i64 0, .bool false]) w := by kernel_rfl
theorem as_sumt_idents (t : Bool) (w : World) : (Instr.typeAssert (.iface 70 (.agg #[.bool t])) 53 72 true).run Tryd.prog w = .ok (.tuple #[.agg #[], .bool false]) w := by kernel_rfl
theorem as_sumt_sumt (t : Bool) (w : World) : (Instr.typeAssert (.iface 70 (.agg #[.bool t])) 53 70 true).run Tryd.prog w = .ok (.tuple #[.agg #[.bool t], .bool true]) w := by kernel_rfl
theorem as_data_number (lo hi : Int) (t : Bool) (w : World) : (Instr.typeAssert (.iface 68 (.agg #[.int .u64 lo, .int .u64 hi, .bool t])) 53 66 true).run Tryd.prog w = .ok (.tuple #[.int .i64 0, .bool false]) w := by kernel_rfl
theorem as_data_idents (lo hi : Int) (t : Bool) (w : World) : (Instr.typeAssert (.iface 68 (.agg #[.int .u64 lo, .int .u64 hi, .bool t])) 53 72 true).run Tryd.prog w = .ok (.tuple #[.agg #[], .bool false]) w := by kernel_rfl
theorem as_data_sumt (lo hi : Int) (t : Bool) (w : World) : (Instr.typeAssert (.iface 68 (.agg #[.int .u64 lo, .int .u64 hi, .bool t])) 53 70 true).run Tryd.prog w = .ok (.tuple #[.agg #[.bool false], .bool false]) w := by kernel_rfl
theorem as_data_data (lo hi : Int) (t : Bool) (w : World) : (Instr.typeAssert (.iface 68 (.agg #[.int .u64 lo, .int .u64 hi, .bool t])) 53 68 true).run Tryd.prog w = .ok (.tuple #[.agg #[.int .u64 lo, .int .u64 hi, .bool t], .bool true]) w := by kernel_rfl

/-- what an append to one's own bytes leaves -/
def AF (w : World) (base : Nat) (l : List Nat) (e : Ending) (w' : World) : Prop := ∃ v', e = .returned v' ∧ Own w' base v' l ∧ Below base w w' ∧ base ≤ w'.heap.size

end Go.Proofs.YtcjilmafdpnfeaaDoor
