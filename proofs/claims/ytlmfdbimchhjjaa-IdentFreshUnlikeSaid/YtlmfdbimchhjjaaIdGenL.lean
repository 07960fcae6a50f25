import Derived.Test.YtlmfdbimchhjjaaIdGens
import Derived.Laws.Bits128
namespace Go.Proofs.Ytlmfdbimchhjjaa
open Go.RowKit
set_option linter.unusedVariables false
set_option maxRecDepth 20000

theorem and_1 (n : Int) : bits .and .i64 n 1 = n % 2 := by
  have h1 : (BitVec.ofInt 64 1).toNat = 2 ^ 1 - 1 := by decide
  have key : (BitVec.ofInt 64 n &&& BitVec.ofInt 64 1).toNat = (n % ((2 ^ 64 : Nat) : Int)).toNat % 2 ^ 1 := by
    rw [BitVec.toNat_and, BitVec.toNat_ofInt, h1, Nat.and_two_pow_sub_one_eq_mod]
  show IntKind.i64.wrap ((BitVec.ofInt 64 n &&& BitVec.ofInt 64 1).toNat : Nat) = n % 2
  rw [key, IntKind.wrap_i64]
  omega
/-- the new identifier -/
def frs (n x : Int) : Int := IntKind.u64.wrap (32 * x + 16 * (n % 2) + 8)
theorem fresh_any (w : World) (n x : Int) : Calls Try.prog 9 #[.int .i64 n, .int .u64 x] w fun e w' => e = .returned (.int .u64 (frs n x)) ∧ w' = w := by
  have HE : Hid (IntKind.u64.wrap (IntKind.u64.wrap (IntKind.u64.wrap (32 * x) + IntKind.u64.wrap (16 * IntKind.u64.wrap (bits BinOp.and IntKind.i64 n 1))) + 8) = frs n x) := hide (by
    rw [and_1]
    unfold frs
    simp only [IntKind.wrap_u64]
    omega)
  go_enter Try.func9, Try.ntmps9
  go_wp2_with fail
  go_ret
  exact ⟨by show Ending.returned (Value.int .u64 _) = _; rw [HE.out], rfl⟩
theorem rfresh_any (w : World) (n x : Int) : Calls Try.prog 18 #[.int .i64 n, .int .u64 x] w fun e w' => e = .returned (.int .u64 (frs n x)) ∧ w' = w := by
  by_cases h : Int.tmod n 2 = 0
  · have HE : Hid (IntKind.u64.wrap (IntKind.u64.wrap (IntKind.u64.wrap (32 * x)) + 8) = frs n x) := hide (by
      have : n % 2 = 0 := Int.emod_eq_zero_of_dvd (Int.dvd_of_tmod_eq_zero h)
      unfold frs
      rw [this]
      simp only [IntKind.wrap_u64]
      omega)
    go_enter Try.func18, Try.ntmps18
    go_wp2_with fail
    go_ret
    exact ⟨by show Ending.returned (Value.int .u64 _) = _; rw [HE.out], rfl⟩
  · have HE : Hid (IntKind.u64.wrap (IntKind.u64.wrap (IntKind.u64.wrap (32 * x) + 16) + 8) = frs n x) := hide (by
      have : n % 2 ≠ 0 := fun e => h (Int.tmod_eq_zero_of_dvd (Int.dvd_of_emod_eq_zero e))
      have : n % 2 = 1 := by omega
      unfold frs
      rw [this]
      simp only [IntKind.wrap_u64]
      omega)
    go_enter Try.func18, Try.ntmps18
    go_wp2_with fail
    go_ret
    exact ⟨by show Ending.returned (Value.int .u64 _) = _; rw [HE.out], rfl⟩
/-- one box -/
structure Bo (w w1 : World) (row : Array Value) (t : TypeId) : Prop where
  row : w1.heap[w.heap.size]? = some (.cells row t (0, 0))
  bel : Below w.heap.size w w1
theorem Bo.start (w : World) (row : Array Value) (t : TypeId) : Bo w (w.alloc (.cells row t)) row t := ⟨Go.heap_alloc_new _ _, bl1 (Below.refl _ _) _⟩
theorem Bo.below {w w1 w2 : World} {row : Array Value} {t : TypeId} (h : Bo w w1 row t) (k : Below w1.heap.size w1 w2) : Bo w w2 row t := ⟨(k.block _ (Array.getElem?_eq_some_iff.1 h.row).1).trans h.row, h.bel.trans (k.mono h.bel.size)⟩
theorem Bo.drew {w w1 : World} {row : Array Value} {t : TypeId} (h : Bo w w1 row t) : Bo w w1.drew row t := h.below ((Below.refl _ _).drew)
theorem Bo.cell {w w1 : World} {row : Array Value} {t : TypeId} (h : Bo w w1 row t) (j : Nat) : w1.cell? ⟨w.heap.size, j, none⟩ = row[j]? := cell_of_row _ _ _ _ _ _ h.row
theorem cells11 {w : World} {g : Nat} {x0 x1 x2 x3 x4 x5 x6 x7 x8 x9 x10 : Value} (h : ∀ j, w.cell? ⟨g, j, none⟩ = (#[x0, x1, x2, x3, x4, x5, x6, x7, x8, x9, x10] : Array Value)[j]?) : w.cell? ⟨g, 1, none⟩ = some x1 ∧ w.cell? ⟨g, 2, none⟩ = some x2 ∧ w.cell? ⟨g, 3, none⟩ = some x3 ∧ w.cell? ⟨g, 4, none⟩ = some x4 ∧ w.cell? ⟨g, 5, none⟩ = some x5 ∧ w.cell? ⟨g, 6, none⟩ = some x6 ∧ w.cell? ⟨g, 7, none⟩ = some x7 ∧ w.cell? ⟨g, 8, none⟩ = some x8 ∧ w.cell? ⟨g, 9, none⟩ = some x9 ∧ w.cell? ⟨g, 10, none⟩ = some x10 := ⟨h 1, h 2, h 3, h 4, h 5, h 6, h 7, h 8, h 9, h 10⟩
set_option maxHeartbeats 1000000 in
theorem gensLaw_1 (w : World) (n x : Int) (g s : Gn) : Calls Try.prog 8 #[.agg #[.int .i64 1, .int .i64 n, .int .u64 x, .int .u64 g.c, .int .u64 g.b, .int .u64 g.o1, .int .u64 g.o2, .int .u64 s.c, .int .u64 s.b, .int .u64 s.o1, .int .u64 s.o2]] w fun e w' => e = .returned (.bool true) ∧ Below w.heap.size w w' := by
  have H1 := hide fun w => fresh_any w n x
  have H2 := hide fun w => rfresh_any w n x
  generalize frs n x = h at *
  obtain ⟨c, b, o1, o2⟩ := g
  obtain ⟨sc, sb, so1, so2⟩ := s
  try unfold Gn.val at *
  dsimp only at *
  have HX0 := hide (Bo.start w #[.int .i64 1, .int .i64 n, .int .u64 x, .int .u64 c, .int .u64 b, .int .u64 o1, .int .u64 o2, .int .u64 sc, .int .u64 sb, .int .u64 so1, .int .u64 so2] 43)
  obtain ⟨a1, a2, a3, a4, a5, a6, a7, a8, a9, a10⟩ := cells11 HX0.out.cell
  go_enter Try.func8, Try.ntmps8
  go_wp2_with fail
  go_region_held3 (fun w' => w'.cell? ⟨w.heap.size, 1, none⟩ = some (.int .i64 n) ∧ w'.cell? ⟨w.heap.size, 2, none⟩ = some (.int .u64 x) ∧ w'.cell? ⟨w.heap.size, 3, none⟩ = some (.int .u64 c) ∧ w'.cell? ⟨w.heap.size, 4, none⟩ = some (.int .u64 b) ∧ w'.cell? ⟨w.heap.size, 5, none⟩ = some (.int .u64 o1) ∧ w'.cell? ⟨w.heap.size, 6, none⟩ = some (.int .u64 o2) ∧ w'.cell? ⟨w.heap.size, 7, none⟩ = some (.int .u64 sc) ∧ w'.cell? ⟨w.heap.size, 8, none⟩ = some (.int .u64 sb) ∧ w'.cell? ⟨w.heap.size, 9, none⟩ = some (.int .u64 so1) ∧ w'.cell? ⟨w.heap.size, 10, none⟩ = some (.int .u64 so2)) (first | exact ⟨a1, a2, a3, a4, a5, a6, a7, a8, a9, a10⟩)
    (first
      | (go_at_call 9; refine (H1.out _).mono ?_; rintro e w2 ⟨rfl, rfl⟩)
      | (go_at_call 18; refine (H2.out _).mono ?_; rintro e w3 ⟨rfl, rfl⟩))
  all_goals
    go_wp2_with fail
    go_ret
    exact ⟨by first | rfl | simp, HX0.out.drew.bel⟩
set_option maxHeartbeats 1000000 in
theorem gensLaw_2 (w : World) (n x : Int) (g s : Gn) : Calls Try.prog 8 #[.agg #[.int .i64 2, .int .i64 n, .int .u64 x, .int .u64 g.c, .int .u64 g.b, .int .u64 g.o1, .int .u64 g.o2, .int .u64 s.c, .int .u64 s.b, .int .u64 s.o1, .int .u64 s.o2]] w fun e w' => e = .returned (.bool true) ∧ Below w.heap.size w w' := by
  have H1 := hide fun w => rotate_any w g x
  have H2 := hide fun w => rrotate_any w g x
  generalize g.rot x = h at *
  obtain ⟨hc, hb, ho1, ho2⟩ := h
  obtain ⟨c, b, o1, o2⟩ := g
  obtain ⟨sc, sb, so1, so2⟩ := s
  try unfold Gn.val at *
  dsimp only at *
  have HX0 := hide (Bo.start w #[.int .i64 2, .int .i64 n, .int .u64 x, .int .u64 c, .int .u64 b, .int .u64 o1, .int .u64 o2, .int .u64 sc, .int .u64 sb, .int .u64 so1, .int .u64 so2] 43)
  obtain ⟨a1, a2, a3, a4, a5, a6, a7, a8, a9, a10⟩ := cells11 HX0.out.cell
  go_enter Try.func8, Try.ntmps8
  go_wp2_with fail
  go_region_held3 (fun w' => w'.cell? ⟨w.heap.size, 1, none⟩ = some (.int .i64 n) ∧ w'.cell? ⟨w.heap.size, 2, none⟩ = some (.int .u64 x) ∧ w'.cell? ⟨w.heap.size, 3, none⟩ = some (.int .u64 c) ∧ w'.cell? ⟨w.heap.size, 4, none⟩ = some (.int .u64 b) ∧ w'.cell? ⟨w.heap.size, 5, none⟩ = some (.int .u64 o1) ∧ w'.cell? ⟨w.heap.size, 6, none⟩ = some (.int .u64 o2) ∧ w'.cell? ⟨w.heap.size, 7, none⟩ = some (.int .u64 sc) ∧ w'.cell? ⟨w.heap.size, 8, none⟩ = some (.int .u64 sb) ∧ w'.cell? ⟨w.heap.size, 9, none⟩ = some (.int .u64 so1) ∧ w'.cell? ⟨w.heap.size, 10, none⟩ = some (.int .u64 so2)) (first | exact ⟨a1, a2, a3, a4, a5, a6, a7, a8, a9, a10⟩ | exact ⟨b1, b2, b3, b4, b5, b6, b7, b8, b9, b10⟩ | exact ⟨d1, d2, d3, d4, d5, d6, d7, d8, d9, d10⟩)
    (first
      | (go_at_call 19; refine (H1.out _).mono ?_; rintro e w2 ⟨rfl, hb2⟩; have HX1 := hide (HX0.out.drew.below hb2); obtain ⟨b1, b2, b3, b4, b5, b6, b7, b8, b9, b10⟩ := cells11 HX1.out.cell; clear hb2)
      | (go_at_call 20; refine (H2.out _).mono ?_; rintro e w3 ⟨rfl, hb3⟩; have HX2 := hide (HX1.out.below hb3); obtain ⟨d1, d2, d3, d4, d5, d6, d7, d8, d9, d10⟩ := cells11 HX2.out.cell; clear hb3))
  all_goals
    go_wp2_with fail
    go_ret
    exact ⟨by first | rfl | simp, HX2.out.bel⟩
set_option maxHeartbeats 1000000 in
theorem gensLaw_3 (w : World) (n x : Int) (g s : Gn) : Calls Try.prog 8 #[.agg #[.int .i64 3, .int .i64 n, .int .u64 x, .int .u64 g.c, .int .u64 g.b, .int .u64 g.o1, .int .u64 g.o2, .int .u64 s.c, .int .u64 s.b, .int .u64 s.o1, .int .u64 s.o2]] w fun e w' => e = .returned (.bool true) ∧ Below w.heap.size w w' := by
  have H1 := hide fun w => bsrc_any w g x
  have H2 := hide fun w => rbsrc_any w g x
  generalize g.bsrc x = h at *
  obtain ⟨hc, hb, ho1, ho2⟩ := h
  obtain ⟨c, b, o1, o2⟩ := g
  obtain ⟨sc, sb, so1, so2⟩ := s
  try unfold Gn.val at *
  dsimp only at *
  have HX0 := hide (Bo.start w #[.int .i64 3, .int .i64 n, .int .u64 x, .int .u64 c, .int .u64 b, .int .u64 o1, .int .u64 o2, .int .u64 sc, .int .u64 sb, .int .u64 so1, .int .u64 so2] 43)
  obtain ⟨a1, a2, a3, a4, a5, a6, a7, a8, a9, a10⟩ := cells11 HX0.out.cell
  go_enter Try.func8, Try.ntmps8
  go_wp2_with fail
  go_region_held3 (fun w' => w'.cell? ⟨w.heap.size, 1, none⟩ = some (.int .i64 n) ∧ w'.cell? ⟨w.heap.size, 2, none⟩ = some (.int .u64 x) ∧ w'.cell? ⟨w.heap.size, 3, none⟩ = some (.int .u64 c) ∧ w'.cell? ⟨w.heap.size, 4, none⟩ = some (.int .u64 b) ∧ w'.cell? ⟨w.heap.size, 5, none⟩ = some (.int .u64 o1) ∧ w'.cell? ⟨w.heap.size, 6, none⟩ = some (.int .u64 o2) ∧ w'.cell? ⟨w.heap.size, 7, none⟩ = some (.int .u64 sc) ∧ w'.cell? ⟨w.heap.size, 8, none⟩ = some (.int .u64 sb) ∧ w'.cell? ⟨w.heap.size, 9, none⟩ = some (.int .u64 so1) ∧ w'.cell? ⟨w.heap.size, 10, none⟩ = some (.int .u64 so2)) (first | exact ⟨a1, a2, a3, a4, a5, a6, a7, a8, a9, a10⟩ | exact ⟨b1, b2, b3, b4, b5, b6, b7, b8, b9, b10⟩ | exact ⟨d1, d2, d3, d4, d5, d6, d7, d8, d9, d10⟩)
    (first
      | (go_at_call 21; refine (H1.out _).mono ?_; rintro e w2 ⟨rfl, hb2⟩; have HX1 := hide (HX0.out.drew.below hb2); obtain ⟨b1, b2, b3, b4, b5, b6, b7, b8, b9, b10⟩ := cells11 HX1.out.cell; clear hb2)
      | (go_at_call 22; refine (H2.out _).mono ?_; rintro e w3 ⟨rfl, hb3⟩; have HX2 := hide (HX1.out.below hb3); obtain ⟨d1, d2, d3, d4, d5, d6, d7, d8, d9, d10⟩ := cells11 HX2.out.cell; clear hb3))
  all_goals
    go_wp2_with fail
    go_ret
    exact ⟨by first | rfl | simp, HX2.out.bel⟩
set_option maxHeartbeats 1000000 in
theorem gensLaw_4 (w : World) (n x : Int) (g s : Gn) : Calls Try.prog 8 #[.agg #[.int .i64 4, .int .i64 n, .int .u64 x, .int .u64 g.c, .int .u64 g.b, .int .u64 g.o1, .int .u64 g.o2, .int .u64 s.c, .int .u64 s.b, .int .u64 s.o1, .int .u64 s.o2]] w fun e w' => e = .returned (.bool true) ∧ Below w.heap.size w w' := by
  have H1 := hide fun w => btgt_any w g s
  have H2 := hide fun w => rbtgt_any w g s
  generalize g.btgt s = h at *
  obtain ⟨hc, hb, ho1, ho2⟩ := h
  obtain ⟨c, b, o1, o2⟩ := g
  obtain ⟨sc, sb, so1, so2⟩ := s
  try unfold Gn.val at *
  dsimp only at *
  have HX0 := hide (Bo.start w #[.int .i64 4, .int .i64 n, .int .u64 x, .int .u64 c, .int .u64 b, .int .u64 o1, .int .u64 o2, .int .u64 sc, .int .u64 sb, .int .u64 so1, .int .u64 so2] 43)
  obtain ⟨a1, a2, a3, a4, a5, a6, a7, a8, a9, a10⟩ := cells11 HX0.out.cell
  go_enter Try.func8, Try.ntmps8
  go_wp2_with fail
  go_region_held3 (fun w' => w'.cell? ⟨w.heap.size, 1, none⟩ = some (.int .i64 n) ∧ w'.cell? ⟨w.heap.size, 2, none⟩ = some (.int .u64 x) ∧ w'.cell? ⟨w.heap.size, 3, none⟩ = some (.int .u64 c) ∧ w'.cell? ⟨w.heap.size, 4, none⟩ = some (.int .u64 b) ∧ w'.cell? ⟨w.heap.size, 5, none⟩ = some (.int .u64 o1) ∧ w'.cell? ⟨w.heap.size, 6, none⟩ = some (.int .u64 o2) ∧ w'.cell? ⟨w.heap.size, 7, none⟩ = some (.int .u64 sc) ∧ w'.cell? ⟨w.heap.size, 8, none⟩ = some (.int .u64 sb) ∧ w'.cell? ⟨w.heap.size, 9, none⟩ = some (.int .u64 so1) ∧ w'.cell? ⟨w.heap.size, 10, none⟩ = some (.int .u64 so2)) (first | exact ⟨a1, a2, a3, a4, a5, a6, a7, a8, a9, a10⟩ | exact ⟨b1, b2, b3, b4, b5, b6, b7, b8, b9, b10⟩ | exact ⟨d1, d2, d3, d4, d5, d6, d7, d8, d9, d10⟩)
    (first
      | (go_at_call 23; refine (H1.out _).mono ?_; rintro e w2 ⟨rfl, hb2⟩; have HX1 := hide (HX0.out.drew.below hb2); obtain ⟨b1, b2, b3, b4, b5, b6, b7, b8, b9, b10⟩ := cells11 HX1.out.cell; clear hb2)
      | (go_at_call 24; refine (H2.out _).mono ?_; rintro e w3 ⟨rfl, hb3⟩; have HX2 := hide (HX1.out.below hb3); obtain ⟨d1, d2, d3, d4, d5, d6, d7, d8, d9, d10⟩ := cells11 HX2.out.cell; clear hb3))
  all_goals
    go_wp2_with fail
    go_ret
    exact ⟨by first | rfl | simp, HX2.out.bel⟩
set_option maxHeartbeats 1000000 in
theorem gensLaw_5 (w : World) (n x : Int) (g s : Gn) : Calls Try.prog 8 #[.agg #[.int .i64 5, .int .i64 n, .int .u64 x, .int .u64 g.c, .int .u64 g.b, .int .u64 g.o1, .int .u64 g.o2, .int .u64 s.c, .int .u64 s.b, .int .u64 s.o1, .int .u64 s.o2]] w fun e w' => e = .returned (.bool true) ∧ Below w.heap.size w w' := by
  have H1 := hide fun w => esrc_any w g
  have H2 := hide fun w => resrc_any w g
  generalize g.esrc = h at *
  obtain ⟨hc, hb, ho1, ho2⟩ := h
  obtain ⟨c, b, o1, o2⟩ := g
  obtain ⟨sc, sb, so1, so2⟩ := s
  try unfold Gn.val at *
  dsimp only at *
  have HX0 := hide (Bo.start w #[.int .i64 5, .int .i64 n, .int .u64 x, .int .u64 c, .int .u64 b, .int .u64 o1, .int .u64 o2, .int .u64 sc, .int .u64 sb, .int .u64 so1, .int .u64 so2] 43)
  obtain ⟨a1, a2, a3, a4, a5, a6, a7, a8, a9, a10⟩ := cells11 HX0.out.cell
  go_enter Try.func8, Try.ntmps8
  go_wp2_with fail
  go_region_held3 (fun w' => w'.cell? ⟨w.heap.size, 1, none⟩ = some (.int .i64 n) ∧ w'.cell? ⟨w.heap.size, 2, none⟩ = some (.int .u64 x) ∧ w'.cell? ⟨w.heap.size, 3, none⟩ = some (.int .u64 c) ∧ w'.cell? ⟨w.heap.size, 4, none⟩ = some (.int .u64 b) ∧ w'.cell? ⟨w.heap.size, 5, none⟩ = some (.int .u64 o1) ∧ w'.cell? ⟨w.heap.size, 6, none⟩ = some (.int .u64 o2) ∧ w'.cell? ⟨w.heap.size, 7, none⟩ = some (.int .u64 sc) ∧ w'.cell? ⟨w.heap.size, 8, none⟩ = some (.int .u64 sb) ∧ w'.cell? ⟨w.heap.size, 9, none⟩ = some (.int .u64 so1) ∧ w'.cell? ⟨w.heap.size, 10, none⟩ = some (.int .u64 so2)) (first | exact ⟨a1, a2, a3, a4, a5, a6, a7, a8, a9, a10⟩ | exact ⟨b1, b2, b3, b4, b5, b6, b7, b8, b9, b10⟩ | exact ⟨d1, d2, d3, d4, d5, d6, d7, d8, d9, d10⟩)
    (first
      | (go_at_call 25; refine (H1.out _).mono ?_; rintro e w2 ⟨rfl, hb2⟩; have HX1 := hide (HX0.out.drew.below hb2); obtain ⟨b1, b2, b3, b4, b5, b6, b7, b8, b9, b10⟩ := cells11 HX1.out.cell; clear hb2)
      | (go_at_call 26; refine (H2.out _).mono ?_; rintro e w3 ⟨rfl, hb3⟩; have HX2 := hide (HX1.out.below hb3); obtain ⟨d1, d2, d3, d4, d5, d6, d7, d8, d9, d10⟩ := cells11 HX2.out.cell; clear hb3))
  all_goals
    go_wp2_with fail
    go_ret
    exact ⟨by first | rfl | simp, HX2.out.bel⟩
set_option maxHeartbeats 1000000 in
theorem gensLaw_6 (w : World) (n x : Int) (g s : Gn) : Calls Try.prog 8 #[.agg #[.int .i64 6, .int .i64 n, .int .u64 x, .int .u64 g.c, .int .u64 g.b, .int .u64 g.o1, .int .u64 g.o2, .int .u64 s.c, .int .u64 s.b, .int .u64 s.o1, .int .u64 s.o2]] w fun e w' => e = .returned (.bool true) ∧ Below w.heap.size w w' := by
  have H1 := hide fun w => etgt_any w g s
  have H2 := hide fun w => retgt_any w g s
  generalize g.etgt s = h at *
  obtain ⟨hc, hb, ho1, ho2⟩ := h
  obtain ⟨c, b, o1, o2⟩ := g
  obtain ⟨sc, sb, so1, so2⟩ := s
  try unfold Gn.val at *
  dsimp only at *
  have HX0 := hide (Bo.start w #[.int .i64 6, .int .i64 n, .int .u64 x, .int .u64 c, .int .u64 b, .int .u64 o1, .int .u64 o2, .int .u64 sc, .int .u64 sb, .int .u64 so1, .int .u64 so2] 43)
  obtain ⟨a1, a2, a3, a4, a5, a6, a7, a8, a9, a10⟩ := cells11 HX0.out.cell
  go_enter Try.func8, Try.ntmps8
  go_wp2_with fail
  go_region_held3 (fun w' => w'.cell? ⟨w.heap.size, 1, none⟩ = some (.int .i64 n) ∧ w'.cell? ⟨w.heap.size, 2, none⟩ = some (.int .u64 x) ∧ w'.cell? ⟨w.heap.size, 3, none⟩ = some (.int .u64 c) ∧ w'.cell? ⟨w.heap.size, 4, none⟩ = some (.int .u64 b) ∧ w'.cell? ⟨w.heap.size, 5, none⟩ = some (.int .u64 o1) ∧ w'.cell? ⟨w.heap.size, 6, none⟩ = some (.int .u64 o2) ∧ w'.cell? ⟨w.heap.size, 7, none⟩ = some (.int .u64 sc) ∧ w'.cell? ⟨w.heap.size, 8, none⟩ = some (.int .u64 sb) ∧ w'.cell? ⟨w.heap.size, 9, none⟩ = some (.int .u64 so1) ∧ w'.cell? ⟨w.heap.size, 10, none⟩ = some (.int .u64 so2)) (first | exact ⟨a1, a2, a3, a4, a5, a6, a7, a8, a9, a10⟩ | exact ⟨b1, b2, b3, b4, b5, b6, b7, b8, b9, b10⟩ | exact ⟨d1, d2, d3, d4, d5, d6, d7, d8, d9, d10⟩)
    (first
      | (go_at_call 27; refine (H1.out _).mono ?_; rintro e w2 ⟨rfl, hb2⟩; have HX1 := hide (HX0.out.drew.below hb2); obtain ⟨b1, b2, b3, b4, b5, b6, b7, b8, b9, b10⟩ := cells11 HX1.out.cell; clear hb2)
      | (go_at_call 28; refine (H2.out _).mono ?_; rintro e w3 ⟨rfl, hb3⟩; have HX2 := hide (HX1.out.below hb3); obtain ⟨d1, d2, d3, d4, d5, d6, d7, d8, d9, d10⟩ := cells11 HX2.out.cell; clear hb3))
  all_goals
    go_wp2_with fail
    go_ret
    exact ⟨by first | rfl | simp, HX2.out.bel⟩
theorem gensLaw_no (w : World) (k n x : Int) (g s : Gn) (h1 : k ≠ 1) (h2 : k ≠ 2) (h3 : k ≠ 3) (h4 : k ≠ 4) (h5 : k ≠ 5) (h6 : k ≠ 6) : Calls Try.prog 8 #[.agg #[.int .i64 k, .int .i64 n, .int .u64 x, .int .u64 g.c, .int .u64 g.b, .int .u64 g.o1, .int .u64 g.o2, .int .u64 s.c, .int .u64 s.b, .int .u64 s.o1, .int .u64 s.o2]] w fun e w' => e = .returned (.bool true) ∧ Below w.heap.size w w' := by
  obtain ⟨c, b, o1, o2⟩ := g
  obtain ⟨sc, sb, so1, so2⟩ := s
  dsimp only at *
  have HX0 := hide (Bo.start w #[.int .i64 k, .int .i64 n, .int .u64 x, .int .u64 c, .int .u64 b, .int .u64 o1, .int .u64 o2, .int .u64 sc, .int .u64 sb, .int .u64 so1, .int .u64 so2] 43)
  go_enter Try.func8, Try.ntmps8
  go_wp2_with fail
  go_ret
  exact ⟨rfl, HX0.out.bel⟩
theorem gensLaw (w : World) (k n x : Int) (g s : Gn) : Calls Try.prog 8 #[.agg #[.int .i64 k, .int .i64 n, .int .u64 x, .int .u64 g.c, .int .u64 g.b, .int .u64 g.o1, .int .u64 g.o2, .int .u64 s.c, .int .u64 s.b, .int .u64 s.o1, .int .u64 s.o2]] w fun e w' => e = .returned (.bool true) ∧ Below w.heap.size w w' := by
  by_cases h1 : k = 1
  · subst h1; exact gensLaw_1 w n x g s
  by_cases h2 : k = 2
  · subst h2; exact gensLaw_2 w n x g s
  by_cases h3 : k = 3
  · subst h3; exact gensLaw_3 w n x g s
  by_cases h4 : k = 4
  · subst h4; exact gensLaw_4 w n x g s
  by_cases h5 : k = 5
  · subst h5; exact gensLaw_5 w n x g s
  by_cases h6 : k = 6
  · subst h6; exact gensLaw_6 w n x g s
  exact gensLaw_no w k n x g s h1 h2 h3 h4 h5 h6
end Go.Proofs.Ytlmfdbimchhjjaa
