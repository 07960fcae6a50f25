import Derived.Test.YtlmfdbimchhjjabABase
namespace Go.Proofs.Ytlmfdbimchhjjab
open Go.RowKit
set_option linter.unusedVariables false
set_option maxRecDepth 20000

/-- identifiers of a node -/
structure Gn where
  c : Int
  b : Int
  o1 : Int
  o2 : Int
def Gn.val (g : Gn) : Value := .agg #[.int .u64 g.c, .int .u64 g.b, .int .u64 g.o1, .int .u64 g.o2]
/-- is it no identifier? -/
def nil4 (x : Int) : Bool := x == 0 || x == 4
def Gn.lay (g : Gn) (x : Int) : Gn := if nil4 x = true ∨ x = g.o1 then g else ⟨g.c, g.b, x, g.o1⟩
def Gn.rot (g : Gn) (f : Int) : Gn := if g.b = 0 then ⟨f, g.c, g.o1, g.o2⟩ else ⟨f, g.b, (g.lay g.c).o1, (g.lay g.c).o2⟩
def Gn.bsrc (g : Gn) (f : Int) : Gn := if g.b = 4 then ⟨g.c, f, g.o1, g.o2⟩ else if g.b = 0 then (if nil4 g.c = true then ⟨g.c, f, g.o1, g.o2⟩ else ⟨f, g.c, g.o1, g.o2⟩) else g
def Gn.btgt (g s : Gn) : Gn := if s.b = 0 then g else if s.b = g.c then ⟨s.b, 0, g.o1, g.o2⟩ else ⟨s.b, 0, (g.lay g.c).o1, (g.lay g.c).o2⟩
def Gn.esrc (g : Gn) : Gn := ⟨g.c, 0, (g.lay g.b).o1, (g.lay g.b).o2⟩
def Gn.etgt (g s : Gn) : Gn := ⟨s.c, 0, s.o1, s.o2⟩
theorem Gn.lay_c (g : Gn) (x : Int) : (g.lay x).c = g.c := by unfold Gn.lay; split <;> rfl
theorem Gn.lay_b (g : Gn) (x : Int) : (g.lay x).b = g.b := by unfold Gn.lay; split <;> rfl
theorem heap_two (w : World) (A B : Obj) : ((w.alloc A).alloc B).heap[w.heap.size]? = some A := by
  rw [Below.heap_alloc _ _ _ (by simp), Go.heap_alloc_new]
theorem heap_snd (w : World) (A B : Obj) : ((w.alloc A).alloc B).heap[w.heap.size + 1]? = some B := by
  have := Go.heap_alloc_new (w.alloc A) B
  rwa [show (w.alloc A).heap.size = w.heap.size + 1 by simp] at this
theorem heap_snd4 (w : World) (A B X Y : Obj) : ((((w.alloc A).alloc B).alloc X).alloc Y).heap[w.heap.size + 1]? = some B := by
  rw [Below.heap_alloc _ _ _ (by simp), Below.heap_alloc _ _ _ (by simp), heap_snd]
theorem heap_trd (w : World) (A B C : Obj) : (((w.alloc A).alloc B).alloc C).heap[w.heap.size + 2]? = some C := by
  have := Go.heap_alloc_new ((w.alloc A).alloc B) C
  rwa [show ((w.alloc A).alloc B).heap.size = w.heap.size + 2 by simp] at this
theorem heap_trd5 (w : World) (A B C X Y : Obj) : (((((w.alloc A).alloc B).alloc C).alloc X).alloc Y).heap[w.heap.size + 2]? = some C := by
  rw [Below.heap_alloc _ _ _ (by simp), Below.heap_alloc _ _ _ (by simp), heap_trd]
theorem bl1 {w w' : World} (h : Below w.heap.size w w') (A : Obj) : Below w.heap.size w (w'.alloc A) := h.alloc h.size A
theorem bl2 {w w' : World} (h : Below w.heap.size w w') (A B : Obj) : Below w.heap.size w ((w'.alloc A).alloc B) := bl1 (bl1 h A) B
theorem bl3 {w w' : World} (h : Below w.heap.size w w') (A B X : Obj) : Below w.heap.size w (((w'.alloc A).alloc B).alloc X) := bl1 (bl2 h A B) X
theorem bl4 {w w' : World} (h : Below w.heap.size w w') (A B X Y : Obj) : Below w.heap.size w ((((w'.alloc A).alloc B).alloc X).alloc Y) := bl2 (bl2 h A B) X Y
theorem bl5 {w w' : World} (h : Below w.heap.size w w') (A B C X Y : Obj) : Below w.heap.size w (((((w'.alloc A).alloc B).alloc C).alloc X).alloc Y) := bl2 (bl3 h A B C) X Y
theorem isNone_any (w : World) (x : Int) : Calls Try.prog 67 #[.int .u64 x] w fun e w' => e = .returned (.bool (nil4 x)) ∧ w' = w := by
  by_cases h0 : x = 0
  · subst h0
    go_enter Try.func67, Try.ntmps67
    go_wp2_with fail
    go_ret
    exact ⟨rfl, rfl⟩
  · rw [show nil4 x = (x == 4) by simp only [nil4]; rw [show (x == 0) = false by simpa using h0]; rfl]
    go_enter Try.func67, Try.ntmps67
    go_wp2_with fail
    go_ret
    exact ⟨by first | rfl | simp [h0], rfl⟩
theorem none_any (w : World) (x : Int) : Calls Try.prog 43 #[.int .u64 x] w fun e w' => e = .returned (.bool (nil4 x)) ∧ w' = w := by
  by_cases h0 : x = 0
  · subst h0
    go_enter Try.func43, Try.ntmps43
    go_wp2_with fail
    go_ret
    exact ⟨rfl, rfl⟩
  · rw [show nil4 x = (x == 4) by simp only [nil4]; rw [show (x == 0) = false by simpa using h0]; rfl]
    go_enter Try.func43, Try.ntmps43
    go_wp2_with fail
    go_ret
    exact ⟨by first | rfl | simp [h0], rfl⟩
theorem layPast_any (w : World) (g : Gn) (x : Int) : Calls Try.prog 52 #[g.val, .int .u64 x] w fun e w' => e = .returned (g.lay x).val ∧ ∃ X Y, w' = (w.alloc X).alloc Y := by
  obtain ⟨c, b, o1, o2⟩ := g
  have HN := hide fun x => isNone_any x
  unfold Gn.lay Gn.val
  dsimp only
  by_cases h : nil4 x = true
  · rw [if_pos (Or.inl h)]
    go_enter Try.func52, Try.ntmps52
    go_wp2_with (first
      | (go_at_call 67; refine (HN.out _ _).mono ?_; rintro e w2 ⟨rfl, rfl⟩))
    exact bodyPost_ret (results_cell_row rfl _ _ (w.heap.size + 1) 24 _ (0, 0) _ rfl (by first | exact heap_snd _ _ _ | exact heap_snd4 _ _ _ _ _) Try.underlying24 rfl (by kernel_rfl)) rfl ⟨by first | rfl | simp, by first | exact ⟨_, _, rfl⟩ | exact bl2 HB.out _ _ | exact bl4 HB.out _ _ _ _⟩
  by_cases h1 : x = o1
  · rw [if_pos (Or.inr h1)]
    subst h1
    go_enter Try.func52, Try.ntmps52
    go_wp2_with (first
      | (go_at_call 67; refine (HN.out _ _).mono ?_; rintro e w2 ⟨rfl, rfl⟩))
    exact bodyPost_ret (results_cell_row rfl _ _ (w.heap.size + 1) 24 _ (0, 0) _ rfl (by first | exact heap_snd _ _ _ | exact heap_snd4 _ _ _ _ _) Try.underlying24 rfl (by kernel_rfl)) rfl ⟨by first | rfl | simp, by first | exact ⟨_, _, rfl⟩ | exact bl2 HB.out _ _ | exact bl4 HB.out _ _ _ _⟩
  · rw [if_neg (by simp [h, h1])]
    go_enter Try.func52, Try.ntmps52
    go_wp2_with (first
      | (go_at_call 67; refine (HN.out _ _).mono ?_; rintro e w2 ⟨rfl, rfl⟩))
    exact bodyPost_ret (results_cell_row rfl _ _ (w.heap.size + 1) 24 _ (0, 0) _ rfl (by first | exact heap_snd _ _ _ | exact heap_snd4 _ _ _ _ _) Try.underlying24 rfl (by kernel_rfl)) rfl ⟨by first | rfl | simp, by first | exact ⟨_, _, rfl⟩ | exact bl2 HB.out _ _ | exact bl4 HB.out _ _ _ _⟩
theorem rotate_any (w : World) (g : Gn) (x : Int) : Calls Try.prog 21 #[g.val, .int .u64 x] w fun e w' => e = .returned (g.rot x).val ∧ Below w.heap.size w w' := by
  have HL := hide fun w => layPast_any w g g.c
  have HE := hide (Gn.lay_b g g.c)
  obtain ⟨c, b, o1, o2⟩ := g
  have HB := hide (Below.refl w.heap.size w)
  unfold Gn.rot
  generalize (Gn.lay ⟨c, b, o1, o2⟩ c) = h at *
  obtain ⟨hc, hb, ho1, ho2⟩ := h
  have he : hb = b := HE.out
  subst he
  clear HE
  unfold Gn.val at *
  dsimp only at *
  by_cases h : hb = 0
  · subst h
    rw [if_pos rfl]
    go_enter Try.func21, Try.ntmps21
    go_wp2_with (first
      | (go_at_call 52; refine (HL.out _).mono ?_; rintro e w2 ⟨rfl, X, Y, rfl⟩))
    exact bodyPost_ret (results_cell_row rfl _ _ (w.heap.size + 1) 24 _ (0, 0) _ rfl (by first | exact heap_snd _ _ _ | exact heap_snd4 _ _ _ _ _) Try.underlying24 rfl (by kernel_rfl)) rfl ⟨by first | rfl | simp, by first | exact ⟨_, _, rfl⟩ | exact bl2 HB.out _ _ | exact bl4 HB.out _ _ _ _⟩
  · rw [if_neg h]
    go_enter Try.func21, Try.ntmps21
    go_wp2_with (first
      | (go_at_call 52; refine (HL.out _).mono ?_; rintro e w2 ⟨rfl, X, Y, rfl⟩))
    exact bodyPost_ret (results_cell_row rfl _ _ (w.heap.size + 1) 24 _ (0, 0) _ rfl (by first | exact heap_snd _ _ _ | exact heap_snd4 _ _ _ _ _) Try.underlying24 rfl (by kernel_rfl)) rfl ⟨by first | rfl | simp, by first | exact ⟨_, _, rfl⟩ | exact bl2 HB.out _ _ | exact bl4 HB.out _ _ _ _⟩
theorem rotate_0 (w : World) (c o1 o2 : Int) (x : Int) : Calls Try.prog 21 #[.agg #[.int .u64 c, .int .u64 0, .int .u64 o1, .int .u64 o2], .int .u64 x] w fun e w' => e = .returned (.agg #[.int .u64 x, .int .u64 c, .int .u64 o1, .int .u64 o2]) ∧ ∃ X Y, w' = (w.alloc X).alloc Y := by
  go_enter Try.func21, Try.ntmps21
  go_wp2_with fail
  exact bodyPost_ret (results_cell_row rfl _ _ (w.heap.size + 1) 24 _ (0, 0) _ rfl (by first | exact heap_snd _ _ _ | exact heap_snd4 _ _ _ _ _) Try.underlying24 rfl (by kernel_rfl)) rfl ⟨by first | rfl | simp, by first | exact ⟨_, _, rfl⟩ | exact bl2 HB.out _ _ | exact bl4 HB.out _ _ _ _⟩
theorem bsrc_any (w : World) (g : Gn) (x : Int) : Calls Try.prog 58 #[g.val, .int .u64 x] w fun e w' => e = .returned (g.bsrc x).val ∧ Below w.heap.size w w' := by
  obtain ⟨c, b, o1, o2⟩ := g
  have HN := hide fun x => isNone_any x
  have HR := hide rotate_0
  have HB := hide (Below.refl w.heap.size w)
  unfold Gn.bsrc Gn.val
  dsimp only
  by_cases h4 : b = 4
  · subst h4
    rw [if_pos rfl]
    go_enter Try.func58, Try.ntmps58
    go_wp2_with (first
      | (go_at_call 67; refine (HN.out _ _).mono ?_; rintro e w2 ⟨rfl, rfl⟩)
      | (go_at_call 21; refine (HR.out _ _ _ _ _).mono ?_; rintro e w2 ⟨rfl, X, Y, rfl⟩))
    exact bodyPost_ret (results_cell_row rfl _ _ (w.heap.size + 1) 24 _ (0, 0) _ rfl (by first | exact heap_snd _ _ _ | exact heap_snd4 _ _ _ _ _) Try.underlying24 rfl (by kernel_rfl)) rfl ⟨by first | rfl | simp, by first | exact ⟨_, _, rfl⟩ | exact bl2 HB.out _ _ | exact bl4 HB.out _ _ _ _⟩
  rw [if_neg h4]
  by_cases h0 : b = 0
  · subst h0
    rw [if_pos rfl]
    by_cases hn : nil4 c = true
    · rw [if_pos hn]
      go_enter Try.func58, Try.ntmps58
      go_wp2_with (first
        | (go_at_call 67; refine (HN.out _ _).mono ?_; rintro e w2 ⟨rfl, rfl⟩)
        | (go_at_call 21; refine (HR.out _ _ _ _ _).mono ?_; rintro e w2 ⟨rfl, X, Y, rfl⟩))
      exact bodyPost_ret (results_cell_row rfl _ _ (w.heap.size + 1) 24 _ (0, 0) _ rfl (by first | exact heap_snd _ _ _ | exact heap_snd4 _ _ _ _ _) Try.underlying24 rfl (by kernel_rfl)) rfl ⟨by first | rfl | simp, by first | exact ⟨_, _, rfl⟩ | exact bl2 HB.out _ _ | exact bl4 HB.out _ _ _ _⟩
    · rw [if_neg hn]
      go_enter Try.func58, Try.ntmps58
      go_wp2_with (first
        | (go_at_call 67; refine (HN.out _ _).mono ?_; rintro e w2 ⟨rfl, rfl⟩)
        | (go_at_call 21; refine (HR.out _ _ _ _ _).mono ?_; rintro e w2 ⟨rfl, X, Y, rfl⟩))
      exact bodyPost_ret (results_cell_row rfl _ _ (w.heap.size + 1) 24 _ (0, 0) _ rfl (by first | exact heap_snd _ _ _ | exact heap_snd4 _ _ _ _ _) Try.underlying24 rfl (by kernel_rfl)) rfl ⟨by first | rfl | simp, by first | exact ⟨_, _, rfl⟩ | exact bl2 HB.out _ _ | exact bl4 HB.out _ _ _ _⟩
  · rw [if_neg h0]
    go_enter Try.func58, Try.ntmps58
    go_wp2_with (first
      | (go_at_call 67; refine (HN.out _ _).mono ?_; rintro e w2 ⟨rfl, rfl⟩)
      | (go_at_call 21; refine (HR.out _ _ _ _ _).mono ?_; rintro e w2 ⟨rfl, X, Y, rfl⟩))
    exact bodyPost_ret (results_cell_row rfl _ _ (w.heap.size + 1) 24 _ (0, 0) _ rfl (by first | exact heap_snd _ _ _ | exact heap_snd4 _ _ _ _ _) Try.underlying24 rfl (by kernel_rfl)) rfl ⟨by first | rfl | simp, by first | exact ⟨_, _, rfl⟩ | exact bl2 HB.out _ _ | exact bl4 HB.out _ _ _ _⟩
theorem btgt_any (w : World) (g s : Gn) : Calls Try.prog 56 #[g.val, s.val] w fun e w' => e = .returned (g.btgt s).val ∧ Below w.heap.size w w' := by
  have HL := hide fun w => layPast_any w g g.c
  obtain ⟨c, b, o1, o2⟩ := g
  obtain ⟨sc, sb, so1, so2⟩ := s
  have HB := hide (Below.refl w.heap.size w)
  unfold Gn.btgt
  generalize (Gn.lay ⟨c, b, o1, o2⟩ c) = h at *
  obtain ⟨hc, hb, ho1, ho2⟩ := h
  unfold Gn.val at *
  dsimp only at *
  by_cases h0 : sb = 0
  · subst h0
    rw [if_pos rfl]
    go_enter Try.func56, Try.ntmps56
    go_wp2_with (first
      | (go_at_call 52; refine (HL.out _).mono ?_; rintro e w2 ⟨rfl, X, Y, rfl⟩))
    exact bodyPost_ret (results_cell_row rfl _ _ (w.heap.size + 2) 24 _ (0, 0) _ rfl (by first | exact heap_trd _ _ _ _ | exact heap_trd5 _ _ _ _ _ _) Try.underlying24 rfl (by kernel_rfl)) rfl ⟨by first | rfl | simp, by first | exact ⟨_, _, rfl⟩ | exact bl3 HB.out _ _ _ | exact bl5 HB.out _ _ _ _ _⟩
  rw [if_neg h0]
  by_cases h : sb = c
  · subst h
    rw [if_pos rfl]
    go_enter Try.func56, Try.ntmps56
    go_wp2_with (first
      | (go_at_call 52; refine (HL.out _).mono ?_; rintro e w2 ⟨rfl, X, Y, rfl⟩))
    exact bodyPost_ret (results_cell_row rfl _ _ (w.heap.size + 2) 24 _ (0, 0) _ rfl (by first | exact heap_trd _ _ _ _ | exact heap_trd5 _ _ _ _ _ _) Try.underlying24 rfl (by kernel_rfl)) rfl ⟨by first | rfl | simp, by first | exact ⟨_, _, rfl⟩ | exact bl3 HB.out _ _ _ | exact bl5 HB.out _ _ _ _ _⟩
  · rw [if_neg h]
    go_enter Try.func56, Try.ntmps56
    go_wp2_with (first
      | (go_at_call 52; refine (HL.out _).mono ?_; rintro e w2 ⟨rfl, X, Y, rfl⟩))
    exact bodyPost_ret (results_cell_row rfl _ _ (w.heap.size + 2) 24 _ (0, 0) _ rfl (by first | exact heap_trd _ _ _ _ | exact heap_trd5 _ _ _ _ _ _) Try.underlying24 rfl (by kernel_rfl)) rfl ⟨by first | rfl | simp, by first | exact ⟨_, _, rfl⟩ | exact bl3 HB.out _ _ _ | exact bl5 HB.out _ _ _ _ _⟩
theorem esrc_any (w : World) (g : Gn) : Calls Try.prog 54 #[g.val] w fun e w' => e = .returned g.esrc.val ∧ Below w.heap.size w w' := by
  have HL := hide fun w => layPast_any w g g.b
  have HE := hide (Gn.lay_c g g.b)
  obtain ⟨c, b, o1, o2⟩ := g
  have HB := hide (Below.refl w.heap.size w)
  unfold Gn.esrc
  generalize (Gn.lay ⟨c, b, o1, o2⟩ b) = h at *
  obtain ⟨hc, hb, ho1, ho2⟩ := h
  have he : hc = c := HE.out
  subst he
  clear HE
  unfold Gn.val at *
  dsimp only at *
  go_enter Try.func54, Try.ntmps54
  go_wp2_with (first
    | (go_at_call 52; refine (HL.out _).mono ?_; rintro e w2 ⟨rfl, X, Y, rfl⟩))
  exact bodyPost_ret (results_cell_row rfl _ _ (w.heap.size + 1) 24 _ (0, 0) _ rfl (by first | exact heap_snd _ _ _ | exact heap_snd4 _ _ _ _ _) Try.underlying24 rfl (by kernel_rfl)) rfl ⟨by first | rfl | simp, by first | exact ⟨_, _, rfl⟩ | exact bl2 HB.out _ _ | exact bl4 HB.out _ _ _ _⟩
theorem etgt_any (w : World) (g s : Gn) : Calls Try.prog 55 #[g.val, s.val] w fun e w' => e = .returned (g.etgt s).val ∧ Below w.heap.size w w' := by
  obtain ⟨c, b, o1, o2⟩ := g
  obtain ⟨sc, sb, so1, so2⟩ := s
  have HB := hide (Below.refl w.heap.size w)
  unfold Gn.etgt Gn.val
  dsimp only
  go_enter Try.func55, Try.ntmps55
  go_wp2_with fail
  exact bodyPost_ret (results_cell_row rfl _ _ (w.heap.size + 2) 24 _ (0, 0) _ rfl (by first | exact heap_trd _ _ _ _ | exact heap_trd5 _ _ _ _ _ _) Try.underlying24 rfl (by kernel_rfl)) rfl ⟨by first | rfl | simp, by first | exact ⟨_, _, rfl⟩ | exact bl3 HB.out _ _ _ | exact bl5 HB.out _ _ _ _ _⟩
end Go.Proofs.Ytlmfdbimchhjjab
