import Derived.Test.YtlmfdbimchhjjabIdGens
namespace Go.Proofs.Ytlmfdbimchhjjab
open Go.RowKit
set_option linter.unusedVariables false
set_option linter.unusedSimpArgs false
set_option maxRecDepth 20000

/-- two nodes as one of them sees them -/
structure Pr where
  o : Gn
  x : Bool
  p : Gn
  y : Bool
  f : Bool
def Pr.val (P : Pr) : Value := .agg #[.int .u64 P.o.c, .int .u64 P.o.b, .int .u64 P.o.o1, .int .u64 P.o.o2, .bool P.x, .int .u64 P.p.c, .int .u64 P.p.b, .int .u64 P.p.o1, .int .u64 P.p.o2, .bool P.y, .bool P.f]
def sideV (g : Gn) (x : Bool) : Value := .agg #[.int .u64 g.c, .int .u64 g.b, .int .u64 g.o1, .int .u64 g.o2, .bool x]
def Pr.tu (P : Pr) : Pr := ⟨P.p, P.y, P.o, P.x, !P.f⟩
/-- two identifiers match -/
def mt (x y : Int) : Bool := x == y && !nil4 x
def Gn.hip (g : Gn) (x : Int) : Bool := mt x g.o1 || mt x g.o2
theorem match_any (w : World) (x y : Int) : Calls Try.prog 61 #[.int .u64 x, .int .u64 y] w fun e w' => e = .returned (.bool (mt x y)) ∧ w' = w := by
  have HN := hide fun w => isNone_any w x
  unfold mt
  by_cases h : x = y
  · subst h
    rw [show (x == x) = true by simp]
    go_enter Try.func61, Try.ntmps61
    go_wp2_with (first | (go_at_call 67; refine (HN.out _).mono ?_; rintro e w2 ⟨rfl, rfl⟩))
    go_ret
    exact ⟨by first | rfl | simp, rfl⟩
  · have h2 : (x == y) = false := by simpa using h
    rw [h2]
    go_enter Try.func61, Try.ntmps61
    go_wp2_with (first | (go_at_call 67; refine (HN.out _).mono ?_; rintro e w2 ⟨rfl, rfl⟩))
    go_ret
    exact ⟨by first | rfl | simp, rfl⟩
theorem isNew_any (w : World) (g : Gn) (x : Bool) : Calls Try.prog 59 #[sideV g x] w fun e w' => e = .returned (.bool (nil4 g.c)) ∧ ∃ X, w' = w.alloc X := by
  have HN := hide fun w => isNone_any w g.c
  obtain ⟨c, b, o1, o2⟩ := g
  unfold sideV
  dsimp only at *
  generalize nil4 c = q at *
  go_enter Try.func59, Try.ntmps59
  go_wp2_with (first | (go_at_call 67; refine (HN.out _).mono ?_; rintro e w2 ⟨rfl, rfl⟩))
  go_ret
  exact ⟨by first | rfl | simp, _, rfl⟩
theorem hip_any (w : World) (g : Gn) (x : Bool) (z : Int) : Calls Try.prog 62 #[sideV g x, .int .u64 z] w fun e w' => e = .returned (.bool (g.hip z)) ∧ ∃ X, w' = w.alloc X := by
  have H1 := hide fun w => match_any w z g.o1
  have H2 := hide fun w => match_any w z g.o2
  unfold Gn.hip
  obtain ⟨c, b, o1, o2⟩ := g
  unfold sideV
  dsimp only at *
  generalize mt z o1 = q1 at *
  generalize mt z o2 = q2 at *
  cases q1
  all_goals
    go_enter Try.func62, Try.ntmps62
    go_wp2_with (first
      | (go_at_call 61; (with_reducible refine (H1.out _).mono ?_); rintro e w2 ⟨rfl, rfl⟩)
      | (go_at_call 61; (with_reducible refine (H2.out _).mono ?_); rintro e w2 ⟨rfl, rfl⟩))
    go_ret
    exact ⟨by first | rfl | simp, _, rfl⟩
theorem turned_pr (w : World) (P : Pr) : Calls Try.prog 42 #[P.val] w fun e w' => e = .returned P.tu.val ∧ ∃ X Y, w' = (w.alloc X).alloc Y := by
  obtain ⟨⟨c, b, o1, o2⟩, x, ⟨c', b', p1, p2⟩, y, f⟩ := P
  unfold Pr.tu Pr.val
  dsimp only
  go_enter Try.func42, Try.ntmps42
  go_wp2_with fail
  exact bodyPost_ret (results_cell_row rfl _ _ (w.heap.size + 1) 52 _ (0, 0) _ rfl (heap_snd _ _ _) Try.underlying52 rfl (by kernel_rfl)) rfl ⟨by first | rfl | simp, _, _, rfl⟩
theorem newSide_any (w : World) (g : Gn) (fl : Int) : Calls Try.prog 13 #[g.val, .int .u32 fl] w fun e w' => e = .returned (sideV g (bits BinOp.and IntKind.u32 fl 8 != 0)) ∧ ∃ X Y, w' = (w.alloc X).alloc Y := by
  obtain ⟨c, b, o1, o2⟩ := g
  unfold sideV Gn.val
  dsimp only
  go_enter Try.func13, Try.ntmps13
  go_wp2_with fail
  exact bodyPost_ret (results_cell_row rfl _ _ (w.heap.size + 1) 49 _ (0, 0) _ rfl (heap_snd _ _ _) Try.underlying49 rfl (by kernel_rfl)) rfl ⟨by first | rfl | simp, _, _, rfl⟩
theorem same_any (w : World) (P : Pr) : Calls Try.prog 60 #[P.val] w fun e w' => e = .returned (.bool (mt P.o.c P.p.c)) ∧ ∃ X, w' = w.alloc X := by
  have H1 := hide fun w => match_any w P.o.c P.p.c
  obtain ⟨⟨c, b, o1, o2⟩, x, ⟨c', b', p1, p2⟩, y, f⟩ := P
  unfold Pr.val
  dsimp only at *
  generalize mt c c' = q at *
  go_enter Try.func60, Try.ntmps60
  go_wp2_with (first
      | (go_at_call 61; (with_reducible refine (H1.out _).mono ?_); rintro e w2 ⟨rfl, rfl⟩))
  go_ret
  exact ⟨by first | rfl | simp, _, rfl⟩
end Go.Proofs.Ytlmfdbimchhjjab
