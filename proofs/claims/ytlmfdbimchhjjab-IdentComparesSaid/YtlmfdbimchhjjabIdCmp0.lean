import Derived.Test.YtlmfdbimchhjjabIdVdt1
import Derived.Test.YtlmfdbimchhjjabIdVdt2
import Derived.Test.YtlmfdbimchhjjabIdVdt3
import Derived.Test.YtlmfdbimchhjjabIdVdt4
namespace Go.Proofs.Ytlmfdbimchhjjab
open Go.RowKit
set_option linter.unusedVariables false
set_option linter.unusedSimpArgs false
set_option maxRecDepth 20000

/-- the rules' table -/
def ruleRow : Array Value := #[.int .i64 1, .func (.func 28) #[] #[], .int .i64 0, .int .i64 2, .func (.func 29) #[] #[], .int .i64 4, .int .i64 3, .func (.func 30) #[] #[], .int .i64 1, .int .i64 4, .func (.func 31) #[] #[], .int .i64 1, .int .i64 5, .func (.func 32) #[] #[], .int .i64 1, .int .i64 6, .func (.func 33) #[] #[], .int .i64 0, .int .i64 7, .func (.func 34) #[] #[], .int .i64 1, .int .i64 8, .func (.func 35) #[] #[], .int .i64 5, .int .i64 9, .func (.func 36) #[] #[], .int .i64 1, .int .i64 10, .func (.func 37) #[] #[], .int .i64 6, .int .i64 11, .func (.func 38) #[] #[], .int .i64 4, .int .i64 12, .func (.func 39) #[] #[], .int .i64 5, .int .i64 13, .func (.func 40) #[] #[], .int .i64 6, .int .i64 14, .func (.func 41) #[] #[], .int .i64 7]
theorem rules_any (w : World) : Calls Try.prog 14 #[] w fun e w' => e = .returned (.slice (some ⟨w.heap.size, 0, none⟩) 14 14) ∧ w' = w.alloc (.cells ruleRow 57) := by
  unfold ruleRow
  go_enter Try.func14, Try.ntmps14
  go_wp2_with fail
  go_ret
  exact ⟨rfl, rfl⟩
def ruleKind : Nat → Int
  | 0 => 0 | 1 => 4 | 2 => 1 | 3 => 1 | 4 => 1 | 5 => 0 | 6 => 1 | 7 => 5 | 8 => 1 | 9 => 6 | 10 => 4 | 11 => 5 | 12 => 6 | _ => 7
def Pr.fnd (P : Pr) (i : Nat) : Bool := P.ask i || P.tu.ask i
/-- the verdict, from the rule i on -/
def Pr.from_ (P : Pr) : Nat → Nat → Int × Int
  | 0, i => (0, 0)
  | m + 1, i => if P.fnd i then (if P.ask i then ruleKind i else mirK (ruleKind i), (i : Int) + 1) else P.from_ m (i + 1)
def Pr.cmp (P : Pr) : Int × Int := P.from_ 14 0
def ruleFn : Nat → Value
  | 0 => .func (.func 28) #[] #[]
  | 1 => .func (.func 29) #[] #[]
  | 2 => .func (.func 30) #[] #[]
  | 3 => .func (.func 31) #[] #[]
  | 4 => .func (.func 32) #[] #[]
  | 5 => .func (.func 33) #[] #[]
  | 6 => .func (.func 34) #[] #[]
  | 7 => .func (.func 35) #[] #[]
  | 8 => .func (.func 36) #[] #[]
  | 9 => .func (.func 37) #[] #[]
  | 10 => .func (.func 38) #[] #[]
  | 11 => .func (.func 39) #[] #[]
  | 12 => .func (.func 40) #[] #[]
  | _ => .func (.func 41) #[] #[]
theorem ruleRow_get : ∀ j, j < 14 → ruleRow[j * 3]? = some (.int .i64 ((j : Int) + 1)) ∧ ruleRow[j * 3 + 1]? = some (ruleFn j) ∧ ruleRow[j * 3 + 2]? = some (.int .i64 (ruleKind j)) := by
  intro j hj
  have h : j = 0 ∨ j = 1 ∨ j = 2 ∨ j = 3 ∨ j = 4 ∨ j = 5 ∨ j = 6 ∨ j = 7 ∨ j = 8 ∨ j = 9 ∨ j = 10 ∨ j = 11 ∨ j = 12 ∨ j = 13 := by omega
  rcases h with rfl | rfl | rfl | rfl | rfl | rfl | rfl | rfl | rfl | rfl | rfl | rfl | rfl | rfl <;> exact ⟨rfl, rfl, rfl⟩
theorem vdt_all (w : World) (P : Pr) (j : Nat) (hj : j < 14) : Calls Try.prog 15 #[.agg #[.int .i64 ((j : Int) + 1), ruleFn j, .int .i64 (ruleKind j)], P.val] w fun e w' => e = .returned (vdt (P.ask j) (P.tu.ask j) ((j : Int) + 1) (ruleKind j)) ∧ Below w.heap.size w w' := by
  have h : j = 0 ∨ j = 1 ∨ j = 2 ∨ j = 3 ∨ j = 4 ∨ j = 5 ∨ j = 6 ∨ j = 7 ∨ j = 8 ∨ j = 9 ∨ j = 10 ∨ j = 11 ∨ j = 12 ∨ j = 13 := by omega
  rcases h with rfl | rfl | rfl | rfl | rfl | rfl | rfl | rfl | rfl | rfl | rfl | rfl | rfl | rfl
  · exact vdt_0 w P _ _
  · exact vdt_1 w P _ _
  · exact vdt_2 w P _ _
  · exact vdt_3 w P _ _
  · exact vdt_4 w P _ _
  · exact vdt_5 w P _ _
  · exact vdt_6 w P _ _
  · exact vdt_7 w P _ _
  · exact vdt_8 w P _ _
  · exact vdt_9 w P _ _
  · exact vdt_10 w P _ _
  · exact vdt_11 w P _ _
  · exact vdt_12 w P _ _
  · exact vdt_13 w P _ _
theorem from_at (P : Pr) (j m : Nat) (h : ∀ i, i < j → P.fnd i = false) (hm : j ≤ m) : P.from_ m 0 = P.from_ (m - j) j := by
  induction j with
  | zero => rfl
  | succ j ih =>
    rw [ih (fun i hi => h i (by omega)) (by omega)]
    obtain ⟨k, hk⟩ : ∃ k, m - j = k + 1 := ⟨m - j - 1, by omega⟩
    rw [hk, show m - (j + 1) = k by omega]
    show (if P.fnd j then _ else P.from_ k (j + 1)) = _
    rw [h j (by omega)]
    rfl
theorem cmp_at (P : Pr) (j : Nat) (hj : j < 14) (h : ∀ i, i < j → P.fnd i = false) (hf : P.fnd j = true) : P.cmp = (if P.ask j then ruleKind j else mirK (ruleKind j), (j : Int) + 1) := by
  unfold Pr.cmp
  rw [from_at P j 14 h (by omega)]
  obtain ⟨k, hk⟩ : ∃ k, 14 - j = k + 1 := ⟨14 - j - 1, by omega⟩
  rw [hk]
  show (if P.fnd j then _ else _) = _
  rw [hf]
  rfl
end Go.Proofs.Ytlmfdbimchhjjab
