import Derived.Test.YtlmfdbimchhjjabIdPair
namespace Go.Proofs.Ytlmfdbimchhjjab
open Go.RowKit
set_option linter.unusedVariables false
set_option linter.unusedSimpArgs false
set_option maxRecDepth 20000

def Pr.sm (P : Pr) : Bool := mt P.o.c P.p.c
def Pr.ofc (P : Pr) : Bool := mt P.o.b P.p.c
def Pr.oip (P : Pr) : Bool := P.p.hip P.o.c
def Pr.hit (P : Pr) (z : Int) : Bool := mt z P.p.b || P.p.hip z
def Pr.sho (P : Pr) : Bool := P.hit P.o.b || P.hit P.o.o1 || P.hit P.o.o2
/-- the question of a rule -/
def Pr.ask (P : Pr) : Nat → Bool
  | 0 => nil4 P.o.c && nil4 P.p.c
  | 1 => nil4 P.o.c && !nil4 P.p.c
  | 2 => P.sm && P.x && !P.y
  | 3 => P.sm && P.x && P.y && P.f
  | 4 => P.sm && P.o.b != 0 && P.p.b == 0
  | 5 => P.sm && P.o.b == 0 && P.p.b == 0
  | 6 => P.sm && P.f
  | 7 => P.ofc && P.tu.ofc
  | 8 => P.ofc
  | 9 => P.oip && P.tu.oip
  | 10 => P.oip
  | 11 => mt P.o.b P.p.b
  | 12 => P.sho
  | _ => true
theorem ask0 (w : World) (P : Pr) : Calls Try.prog 28 #[P.val] w fun e w' => e = .returned (.bool (P.ask 0)) ∧ Below w.heap.size w w' := by
  have H1 := hide fun w => isNew_any w P.o P.x
  have H2 := hide fun w => isNew_any w P.p P.y
  show Calls _ _ _ _ fun e w' => e = .returned (.bool (nil4 P.o.c && nil4 P.p.c)) ∧ _
  obtain ⟨⟨c, b, o1, o2⟩, x, ⟨c', b', p1, p2⟩, y, f⟩ := P
  unfold Pr.val at *
  (try unfold sideV at *)
  dsimp only at *
  generalize nil4 c = q at *
  generalize nil4 c' = q' at *
  cases q
  all_goals
    go_enter Try.func28, Try.ntmps28
    go_wp2_with (first
      | (go_at_call 59; (with_reducible refine (H1.out _).mono ?_); rintro e w2 ⟨rfl, X, rfl⟩)
      | (go_at_call 59; (with_reducible refine (H2.out _).mono ?_); rintro e w2 ⟨rfl, Y, rfl⟩))
    go_ret
    exact ⟨by first | rfl | simp, by repeat (first | exact Below.refl _ _ | refine bl1 ?_ _)⟩
theorem ask1 (w : World) (P : Pr) : Calls Try.prog 29 #[P.val] w fun e w' => e = .returned (.bool (P.ask 1)) ∧ Below w.heap.size w w' := by
  have H1 := hide fun w => isNew_any w P.o P.x
  have H2 := hide fun w => isNew_any w P.p P.y
  show Calls _ _ _ _ fun e w' => e = .returned (.bool (nil4 P.o.c && !nil4 P.p.c)) ∧ _
  obtain ⟨⟨c, b, o1, o2⟩, x, ⟨c', b', p1, p2⟩, y, f⟩ := P
  unfold Pr.val at *
  (try unfold sideV at *)
  dsimp only at *
  generalize nil4 c = q at *
  generalize nil4 c' = q' at *
  cases q
  all_goals
    go_enter Try.func29, Try.ntmps29
    go_wp2_with (first
      | (go_at_call 59; (with_reducible refine (H1.out _).mono ?_); rintro e w2 ⟨rfl, X, rfl⟩)
      | (go_at_call 59; (with_reducible refine (H2.out _).mono ?_); rintro e w2 ⟨rfl, Y, rfl⟩))
    go_ret
    exact ⟨by first | rfl | simp, by repeat (first | exact Below.refl _ _ | refine bl1 ?_ _)⟩
theorem ask2 (w : World) (P : Pr) : Calls Try.prog 30 #[P.val] w fun e w' => e = .returned (.bool (P.ask 2)) ∧ Below w.heap.size w w' := by
  have H1 := hide fun w => same_any w P
  show Calls _ _ _ _ fun e w' => e = .returned (.bool (mt P.o.c P.p.c && P.x && !P.y)) ∧ _
  obtain ⟨⟨c, b, o1, o2⟩, x, ⟨c', b', p1, p2⟩, y, f⟩ := P
  unfold Pr.val at *
  (try unfold sideV at *)
  dsimp only at *
  generalize mt c c' = q at *
  cases q <;> cases x
  all_goals
    go_enter Try.func30, Try.ntmps30
    go_wp2_with (first
      | (go_at_call 60; (with_reducible refine (H1.out _).mono ?_); rintro e w2 ⟨rfl, X, rfl⟩))
    go_ret
    exact ⟨by first | rfl | simp, by repeat (first | exact Below.refl _ _ | refine bl1 ?_ _)⟩
theorem ask3 (w : World) (P : Pr) : Calls Try.prog 31 #[P.val] w fun e w' => e = .returned (.bool (P.ask 3)) ∧ Below w.heap.size w w' := by
  have H1 := hide fun w => same_any w P
  show Calls _ _ _ _ fun e w' => e = .returned (.bool (mt P.o.c P.p.c && P.x && P.y && P.f)) ∧ _
  obtain ⟨⟨c, b, o1, o2⟩, x, ⟨c', b', p1, p2⟩, y, f⟩ := P
  unfold Pr.val at *
  (try unfold sideV at *)
  dsimp only at *
  generalize mt c c' = q at *
  cases q <;> cases x <;> cases y
  all_goals
    go_enter Try.func31, Try.ntmps31
    go_wp2_with (first
      | (go_at_call 60; (with_reducible refine (H1.out _).mono ?_); rintro e w2 ⟨rfl, X, rfl⟩))
    go_ret
    exact ⟨by first | rfl | simp, by repeat (first | exact Below.refl _ _ | refine bl1 ?_ _)⟩
theorem ask4 (w : World) (P : Pr) : Calls Try.prog 32 #[P.val] w fun e w' => e = .returned (.bool (P.ask 4)) ∧ Below w.heap.size w w' := by
  have H1 := hide fun w => same_any w P
  show Calls _ _ _ _ fun e w' => e = .returned (.bool (mt P.o.c P.p.c && P.o.b != 0 && P.p.b == 0)) ∧ _
  obtain ⟨⟨c, b, o1, o2⟩, x, ⟨c', b', p1, p2⟩, y, f⟩ := P
  unfold Pr.val at *
  (try unfold sideV at *)
  dsimp only at *
  generalize mt c c' = q at *
  rcases Decidable.em (b = 0) with rfl | h1 <;> rcases Decidable.em (b' = 0) with rfl | h2 <;> cases q
  all_goals
    go_enter Try.func32, Try.ntmps32
    go_wp2_with (first
      | (go_at_call 60; (with_reducible refine (H1.out _).mono ?_); rintro e w2 ⟨rfl, X, rfl⟩))
    go_ret
    exact ⟨by first | rfl | simp_all, by repeat (first | exact Below.refl _ _ | refine bl1 ?_ _)⟩
theorem ask5 (w : World) (P : Pr) : Calls Try.prog 33 #[P.val] w fun e w' => e = .returned (.bool (P.ask 5)) ∧ Below w.heap.size w w' := by
  have H1 := hide fun w => same_any w P
  show Calls _ _ _ _ fun e w' => e = .returned (.bool (mt P.o.c P.p.c && P.o.b == 0 && P.p.b == 0)) ∧ _
  obtain ⟨⟨c, b, o1, o2⟩, x, ⟨c', b', p1, p2⟩, y, f⟩ := P
  unfold Pr.val at *
  (try unfold sideV at *)
  dsimp only at *
  generalize mt c c' = q at *
  rcases Decidable.em (b = 0) with rfl | h1 <;> rcases Decidable.em (b' = 0) with rfl | h2 <;> cases q
  all_goals
    go_enter Try.func33, Try.ntmps33
    go_wp2_with (first
      | (go_at_call 60; (with_reducible refine (H1.out _).mono ?_); rintro e w2 ⟨rfl, X, rfl⟩))
    go_ret
    exact ⟨by first | rfl | simp_all, by repeat (first | exact Below.refl _ _ | refine bl1 ?_ _)⟩
theorem ask6 (w : World) (P : Pr) : Calls Try.prog 34 #[P.val] w fun e w' => e = .returned (.bool (P.ask 6)) ∧ Below w.heap.size w w' := by
  have H1 := hide fun w => same_any w P
  show Calls _ _ _ _ fun e w' => e = .returned (.bool (mt P.o.c P.p.c && P.f)) ∧ _
  obtain ⟨⟨c, b, o1, o2⟩, x, ⟨c', b', p1, p2⟩, y, f⟩ := P
  unfold Pr.val at *
  (try unfold sideV at *)
  dsimp only at *
  generalize mt c c' = q at *
  cases q
  all_goals
    go_enter Try.func34, Try.ntmps34
    go_wp2_with (first
      | (go_at_call 60; (with_reducible refine (H1.out _).mono ?_); rintro e w2 ⟨rfl, X, rfl⟩))
    go_ret
    exact ⟨by first | rfl | simp, by repeat (first | exact Below.refl _ _ | refine bl1 ?_ _)⟩
theorem ofc_any (w : World) (P : Pr) : Calls Try.prog 36 #[P.val] w fun e w' => e = .returned (.bool P.ofc) ∧ ∃ X, w' = w.alloc X := by
  have H1 := hide fun w => match_any w P.o.b P.p.c
  unfold Pr.ofc
  obtain ⟨⟨c, b, o1, o2⟩, x, ⟨c', b', p1, p2⟩, y, f⟩ := P
  unfold Pr.val at *
  (try unfold sideV at *)
  dsimp only at *
  generalize mt b c' = q at *
  go_enter Try.func36, Try.ntmps36
  go_wp2_with (first
      | (go_at_call 61; (with_reducible refine (H1.out _).mono ?_); rintro e w2 ⟨rfl, rfl⟩))
  go_ret
  exact ⟨by first | rfl | simp, _, rfl⟩
theorem oip_any (w : World) (P : Pr) : Calls Try.prog 38 #[P.val] w fun e w' => e = .returned (.bool P.oip) ∧ ∃ X Y, w' = (w.alloc X).alloc Y := by
  have H1 := hide fun w => hip_any w P.p P.y P.o.c
  unfold Pr.oip
  obtain ⟨⟨c, b, o1, o2⟩, x, ⟨c', b', p1, p2⟩, y, f⟩ := P
  unfold Pr.val at *
  (try unfold sideV at *)
  dsimp only at *
  generalize Gn.hip _ c = q at *
  go_enter Try.func38, Try.ntmps38
  go_wp2_with (first
      | (go_at_call 62; (with_reducible refine (H1.out _).mono ?_); rintro e w2 ⟨rfl, X, rfl⟩))
  go_ret
  exact ⟨by first | rfl | simp, _, _, rfl⟩
theorem ask8 (w : World) (P : Pr) : Calls Try.prog 36 #[P.val] w fun e w' => e = .returned (.bool (P.ask 8)) ∧ Below w.heap.size w w' :=
  (ofc_any w P).mono fun e w' ⟨a, X, b⟩ => ⟨a, b ▸ bl1 (Below.refl _ _) _⟩
theorem ask10 (w : World) (P : Pr) : Calls Try.prog 38 #[P.val] w fun e w' => e = .returned (.bool (P.ask 10)) ∧ Below w.heap.size w w' :=
  (oip_any w P).mono fun e w' ⟨a, X, Y, b⟩ => ⟨a, b ▸ bl2 (Below.refl _ _) _ _⟩
theorem ask7 (w : World) (P : Pr) : Calls Try.prog 35 #[P.val] w fun e w' => e = .returned (.bool (P.ask 7)) ∧ Below w.heap.size w w' := by
  have H1 := hide fun w => ofc_any w P
  have H2 := hide fun w => ofc_any w P.tu
  have H3 := hide fun w => turned_pr w P
  show Calls _ _ _ _ fun e w' => e = .returned (.bool (P.ofc && P.tu.ofc)) ∧ _
  generalize P.ofc = q at *
  generalize P.tu.ofc = q' at *
  unfold Pr.tu at *
  obtain ⟨⟨c, b, o1, o2⟩, x, ⟨c', b', p1, p2⟩, y, f⟩ := P
  unfold Pr.val at *
  (try unfold sideV at *)
  dsimp only at *
  cases q
  all_goals
    go_enter Try.func35, Try.ntmps35
    go_wp2_with (first
      | (go_at_call 36; (with_reducible refine (H1.out _).mono ?_); rintro e w2 ⟨rfl, Z, rfl⟩; clear H1)
      | (go_at_call 42; (with_reducible refine (H3.out _).mono ?_); rintro e w2 ⟨rfl, X, Y, rfl⟩)
      | (go_at_call 36; (with_reducible refine (H2.out _).mono ?_); rintro e w2 ⟨rfl, U, rfl⟩))
    go_ret
    exact ⟨by first | rfl | simp, by repeat (first | exact Below.refl _ _ | refine bl1 ?_ _)⟩
theorem ask9 (w : World) (P : Pr) : Calls Try.prog 37 #[P.val] w fun e w' => e = .returned (.bool (P.ask 9)) ∧ Below w.heap.size w w' := by
  have H1 := hide fun w => oip_any w P
  have H2 := hide fun w => oip_any w P.tu
  have H3 := hide fun w => turned_pr w P
  show Calls _ _ _ _ fun e w' => e = .returned (.bool (P.oip && P.tu.oip)) ∧ _
  generalize P.oip = q at *
  generalize P.tu.oip = q' at *
  unfold Pr.tu at *
  obtain ⟨⟨c, b, o1, o2⟩, x, ⟨c', b', p1, p2⟩, y, f⟩ := P
  unfold Pr.val at *
  (try unfold sideV at *)
  dsimp only at *
  cases q
  all_goals
    go_enter Try.func37, Try.ntmps37
    go_wp2_with (first
      | (go_at_call 38; (with_reducible refine (H1.out _).mono ?_); rintro e w2 ⟨rfl, Z, Z2, rfl⟩; clear H1)
      | (go_at_call 42; (with_reducible refine (H3.out _).mono ?_); rintro e w2 ⟨rfl, X, Y, rfl⟩)
      | (go_at_call 38; (with_reducible refine (H2.out _).mono ?_); rintro e w2 ⟨rfl, U, U2, rfl⟩))
    go_ret
    exact ⟨by first | rfl | simp, by repeat (first | exact Below.refl _ _ | refine bl1 ?_ _)⟩
theorem ask11 (w : World) (P : Pr) : Calls Try.prog 39 #[P.val] w fun e w' => e = .returned (.bool (P.ask 11)) ∧ Below w.heap.size w w' := by
  have H1 := hide fun w => match_any w P.o.b P.p.b
  show Calls _ _ _ _ fun e w' => e = .returned (.bool (mt P.o.b P.p.b)) ∧ _
  obtain ⟨⟨c, b, o1, o2⟩, x, ⟨c', b', p1, p2⟩, y, f⟩ := P
  unfold Pr.val at *
  (try unfold sideV at *)
  dsimp only at *
  generalize mt b b' = q at *
  cases q
  all_goals
    go_enter Try.func39, Try.ntmps39
    go_wp2_with (first
      | (go_at_call 61; (with_reducible refine (H1.out _).mono ?_); rintro e w2 ⟨rfl, rfl⟩))
    go_ret
    exact ⟨by first | rfl | simp, by repeat (first | exact Below.refl _ _ | refine bl1 ?_ _)⟩
theorem ask13 (w : World) (P : Pr) : Calls Try.prog 41 #[P.val] w fun e w' => e = .returned (.bool (P.ask 13)) ∧ Below w.heap.size w w' := by
  show Calls _ _ _ _ fun e w' => e = .returned (.bool true) ∧ _
  obtain ⟨⟨c, b, o1, o2⟩, x, ⟨c', b', p1, p2⟩, y, f⟩ := P
  unfold Pr.val at *
  (try unfold sideV at *)
  dsimp only at *
  go_enter Try.func41, Try.ntmps41
  go_wp2_with fail
  go_ret
  exact ⟨by first | rfl | simp, by repeat (first | exact Below.refl _ _ | refine bl1 ?_ _)⟩
theorem hp_cells11 {w : World} {g : Nat} {x0 x1 x2 x3 x4 x5 x6 x7 x8 x9 x10 : Value} {t : TypeId} {fr : Nat × Nat} (h : w.heap[g]? = some (.cells #[x0, x1, x2, x3, x4, x5, x6, x7, x8, x9, x10] t fr)) : w.cell? ⟨g, 0, none⟩ = some x0 ∧ w.cell? ⟨g, 1, none⟩ = some x1 ∧ w.cell? ⟨g, 2, none⟩ = some x2 ∧ w.cell? ⟨g, 3, none⟩ = some x3 ∧ w.cell? ⟨g, 4, none⟩ = some x4 ∧ w.cell? ⟨g, 5, none⟩ = some x5 ∧ w.cell? ⟨g, 6, none⟩ = some x6 ∧ w.cell? ⟨g, 7, none⟩ = some x7 ∧ w.cell? ⟨g, 8, none⟩ = some x8 ∧ w.cell? ⟨g, 9, none⟩ = some x9 ∧ w.cell? ⟨g, 10, none⟩ = some x10 ∧ g < w.heap.size :=
  ⟨cell_of_row _ _ _ _ _ _ h, cell_of_row _ _ _ _ _ _ h, cell_of_row _ _ _ _ _ _ h, cell_of_row _ _ _ _ _ _ h, cell_of_row _ _ _ _ _ _ h, cell_of_row _ _ _ _ _ _ h, cell_of_row _ _ _ _ _ _ h, cell_of_row _ _ _ _ _ _ h, cell_of_row _ _ _ _ _ _ h, cell_of_row _ _ _ _ _ _ h, cell_of_row _ _ _ _ _ _ h, (Array.getElem?_eq_some_iff.1 h).1⟩
theorem hp_below {W w' : World} {g : Nat} {o : Obj} (h : W.heap[g]? = some o) (hb : Below W.heap.size W w') : w'.heap[g]? = some o := (hb.block _ (Array.getElem?_eq_some_iff.1 h).1).trans h
theorem hp_alloc {W : World} {g : Nat} {o : Obj} (h : W.heap[g]? = some o) (X : Obj) : (W.alloc X).heap[g]? = some o := (heap_alloc_old W X (Array.getElem?_eq_some_iff.1 h).1).trans h
theorem hp_alloc2 {W : World} {g : Nat} {o : Obj} (h : W.heap[g]? = some o) (X Y : Obj) : ((W.alloc X).alloc Y).heap[g]? = some o := hp_alloc (hp_alloc h X) Y
theorem hp_new (W : World) (X : Obj) : (W.alloc X).heap[W.heap.size]? = some X := Go.heap_alloc_new _ _
theorem hp_cells2 {w : World} {g : Nat} {x0 x1 : Value} {t : TypeId} {fr : Nat × Nat} (h : w.heap[g]? = some (.cells #[x0, x1] t fr)) : w.cell? ⟨g, 0, none⟩ = some x0 ∧ w.cell? ⟨g, 1, none⟩ = some x1 ∧ g < w.heap.size :=
  ⟨cell_of_row _ _ _ _ _ _ h, cell_of_row _ _ _ _ _ _ h, (Array.getElem?_eq_some_iff.1 h).1⟩
theorem bel_to {w W w2 : World} (h : Below w.heap.size w W) (k : Below W.heap.size W w2) : Below w.heap.size w w2 := h.trans (k.mono h.size)
theorem bel_2 {w : World} {A B : Obj} : Below w.heap.size w ((w.alloc A).alloc B) := bl2 (Below.refl _ _) A B
theorem size_u64 : (Try.prog.info? 22).map (·.size) = some 1 := by kernel_rfl
theorem idx3u (a b c : Int) (j : Nat) (hj : j < 3) (w : World) : (Instr.index 83 (.agg #[.int .u64 a, .int .u64 b, .int .u64 c]) (.int .i64 (j : Int))).run Try.prog w = .ok (.int .u64 ([a, b, c].getD j 0)) w := by
  obtain ⟨i0, hi, hz⟩ := Option.map_eq_some_iff.1 size_u64
  rcases (show j = 0 ∨ j = 1 ∨ j = 2 by omega) with rfl | rfl | rfl <;>
  simp [Instr.index, run_underlying Try.underlying83, asIntOf, go_sem, sizeOf, typeInfo, hi, hz]
set_option maxHeartbeats 1000000 in
theorem ask12 (w : World) (P : Pr) : Calls Try.prog 40 #[P.val] w fun e w' => e = .returned (.bool (P.ask 12)) ∧ Below w.heap.size w w' := by
  have HM := hide fun w z => match_any w z P.p.b
  have HH := hide fun w z => hip_any w P.p P.y z
  show Calls _ _ _ _ fun e w' => e = .returned (.bool (P.sho)) ∧ _
  have HE : Hid (P.sho = ((mt P.o.b P.p.b || P.p.hip P.o.b) || (mt P.o.o1 P.p.b || P.p.hip P.o.o1) || (mt P.o.o2 P.p.b || P.p.hip P.o.o2))) := hide rfl
  rw [HE.out]
  clear HE
  obtain ⟨⟨c, b, o1, o2⟩, x, ⟨c', b', p1, p2⟩, y, f⟩ := P
  unfold Pr.val at *
  (try unfold sideV at *)
  dsimp only at *
  generalize Gn.hip _ = hp at *
  have HR := hide (hp_new w (.cells #[.int .u64 c, .int .u64 b, .int .u64 o1, .int .u64 o2, .bool x, .int .u64 c', .int .u64 b', .int .u64 p1, .int .u64 p2, .bool y, .bool f] 52))
  have HB := hide (bl1 (Below.refl w.heap.size w) (.cells #[.int .u64 c, .int .u64 b, .int .u64 o1, .int .u64 o2, .bool x, .int .u64 c', .int .u64 b', .int .u64 p1, .int .u64 p2, .bool y, .bool f] 52))
  go_enter Try.func40, Try.ntmps40
  go_wp2_with fail
  go_loopw [18] (fun i wr => ∃ j : Nat, j ≤ 3 ∧ i = .int .i64 j ∧ wr.heap[w.heap.size]? = some (.cells #[.int .u64 c, .int .u64 b, .int .u64 o1, .int .u64 o2, .bool x, .int .u64 c', .int .u64 b', .int .u64 p1, .int .u64 p2, .bool y, .bool f] 52) ∧ Below w.heap.size w wr ∧ (1 ≤ j → mt b b' = false ∧ hp b = false) ∧ (2 ≤ j → mt o1 b' = false ∧ hp o1 = false) ∧ (3 ≤ j → mt o2 b' = false ∧ hp o2 = false)) (fun i _ => 3 - (intOf i).toNat)
  case atStart => exact ⟨0, by omega, rfl, HR.out, HB.out, by omega, by omega, by omega⟩
  case round =>
    clear HR HB
    obtain ⟨j, hj, rfl, hr, hbel, h1, h2, h3⟩ := hrel
    have HR := hide hr
    have HB := hide hbel
    have HS := hide (And.intro h1 (And.intro h2 h3))
    obtain ⟨c0, c1, c2, c3, c4, c5, c6, c7, c8, c9, c10, cx⟩ := hp_cells11 hr
    clear hr hbel h1 h2 h3
    obtain rfl | rfl | rfl | rfl : j = 0 ∨ j = 1 ∨ j = 2 ∨ j = 3 := by omega
    · have hix : ∀ w, (Instr.index 83 (.agg #[.int .u64 b, .int .u64 o1, .int .u64 o2]) (.int .i64 0)).run Try.prog w = .ok (.int .u64 b) w := idx3u b o1 o2 0 (by decide)
      have HM := hide fun w => HM.out w b
      have HH := hide fun w => HH.out w b
      have HQ : Hid (mt b b' = mt b b' ∧ hp b = hp b) := hide ⟨rfl, rfl⟩
      generalize hq1 : mt b b' = q1 at *
      generalize hq2 : hp b = q2 at *
      have HQ1 := hide hq1
      have HQ2 := hide hq2
      clear hq1 hq2 HQ
      cases q1 <;> cases q2
      all_goals
        go_wp2_with (first
          | (go_at_call 61; refine (HM.out _).mono ?_; rintro e w2 ⟨rfl, rfl⟩)
          | (go_at_call 62; refine (HH.out _).mono ?_; rintro e w2 ⟨rfl, X, rfl⟩))
        first
          | (go_ret; exact ⟨by simp [HQ1.out, HQ2.out], by first | exact HB.out | exact bl1 HB.out _⟩)
          | (go_roundw
             case rel => exact ⟨1, by omega, by first | rfl | go_num, hp_alloc HR.out _, bl1 HB.out _, by first | exact fun _ => ⟨HQ1.out, HQ2.out⟩ | simp, fun h => absurd h (by omega), fun h => absurd h (by omega)⟩
             case measure => (first | (simp [intOf]; done) | (simp [intOf]; omega)))
    · have hix : ∀ w, (Instr.index 83 (.agg #[.int .u64 b, .int .u64 o1, .int .u64 o2]) (.int .i64 1)).run Try.prog w = .ok (.int .u64 o1) w := idx3u b o1 o2 1 (by decide)
      have HM := hide fun w => HM.out w o1
      have HH := hide fun w => HH.out w o1
      have HQ : Hid (mt o1 b' = mt o1 b' ∧ hp o1 = hp o1) := hide ⟨rfl, rfl⟩
      generalize hq1 : mt o1 b' = q1 at *
      generalize hq2 : hp o1 = q2 at *
      have HQ1 := hide hq1
      have HQ2 := hide hq2
      clear hq1 hq2 HQ
      cases q1 <;> cases q2
      all_goals
        go_wp2_with (first
          | (go_at_call 61; refine (HM.out _).mono ?_; rintro e w2 ⟨rfl, rfl⟩)
          | (go_at_call 62; refine (HH.out _).mono ?_; rintro e w2 ⟨rfl, X, rfl⟩))
        first
          | (go_ret; exact ⟨by simp [HQ1.out, HQ2.out], by first | exact HB.out | exact bl1 HB.out _⟩)
          | (go_roundw
             case rel => exact ⟨2, by omega, by first | rfl | go_num, hp_alloc HR.out _, bl1 HB.out _, fun _ => HS.out.1 (by omega), by first | exact fun _ => ⟨HQ1.out, HQ2.out⟩ | simp, fun h => absurd h (by omega)⟩
             case measure => (first | (simp [intOf]; done) | (simp [intOf]; omega)))
    · have hix : ∀ w, (Instr.index 83 (.agg #[.int .u64 b, .int .u64 o1, .int .u64 o2]) (.int .i64 2)).run Try.prog w = .ok (.int .u64 o2) w := idx3u b o1 o2 2 (by decide)
      have HM := hide fun w => HM.out w o2
      have HH := hide fun w => HH.out w o2
      have HQ : Hid (mt o2 b' = mt o2 b' ∧ hp o2 = hp o2) := hide ⟨rfl, rfl⟩
      generalize hq1 : mt o2 b' = q1 at *
      generalize hq2 : hp o2 = q2 at *
      have HQ1 := hide hq1
      have HQ2 := hide hq2
      clear hq1 hq2 HQ
      cases q1 <;> cases q2
      all_goals
        go_wp2_with (first
          | (go_at_call 61; refine (HM.out _).mono ?_; rintro e w2 ⟨rfl, rfl⟩)
          | (go_at_call 62; refine (HH.out _).mono ?_; rintro e w2 ⟨rfl, X, rfl⟩))
        first
          | (go_ret; exact ⟨by simp [HQ1.out, HQ2.out], by first | exact HB.out | exact bl1 HB.out _⟩)
          | (go_roundw
             case rel => exact ⟨3, by omega, by first | rfl | go_num, hp_alloc HR.out _, bl1 HB.out _, fun _ => HS.out.1 (by omega), fun _ => HS.out.2.1 (by omega), by first | exact fun _ => ⟨HQ1.out, HQ2.out⟩ | simp⟩
             case measure => (first | (simp [intOf]; done) | (simp [intOf]; omega)))
    · go_wp2_with fail
      go_ret
      obtain ⟨a1, a2⟩ := HS.out.1 (by omega)
      obtain ⟨a3, a4⟩ := HS.out.2.1 (by omega)
      obtain ⟨a5, a6⟩ := HS.out.2.2 (by omega)
      exact ⟨by simp [a1, a2, a3, a4, a5, a6], HB.out⟩
end Go.Proofs.Ytlmfdbimchhjjab
