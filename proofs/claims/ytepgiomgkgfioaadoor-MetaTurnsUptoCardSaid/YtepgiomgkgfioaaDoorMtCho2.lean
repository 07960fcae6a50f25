import Derived.Test.YtepgiomgkgfioaaDoorMtCho
namespace Go.Proofs.YtepgiomgkgfioaaDoor
open Go.RowKit Go.Lib
set_option linter.unusedVariables false
set_option linter.unusedSimpArgs false
set_option maxRecDepth 20000

set_option maxHeartbeats 1000000 in
theorem cho_F (w : World) (v1 v2 : Value) (l1 l2 : List Nat) (h1 : BSl w v1 l1) (h2 : BSl w v2 l2) (hT : Tabs w) (sa sb : Sup) (ea eb : Int) (u1 : uns l1 = (sa, ea)) (u2 : uns l2 = (sb, eb)) (h : ea = 0) (k : eb = 0) (hq : sa.seq = sb.seq) : Calls Tryd.prog 12 #[v1, v2] w fun e w' => ChoPost w (sa, 0, 0) e w' := by
  have HU1 : Hid (∀ x, Below w.heap.size w x → Calls Tryd.prog 27 #[v1] x fun e w' => e = .returned (.tuple #[sa.val, .int .i64 ea]) ∧ Below x.heap.size x w') := hide fun x hb => (unseal_any x v1 l1 (h1.below hb) (hT.below hb)).mono (by rintro e w' ⟨he, hb⟩; rw [u1] at he; exact ⟨he, hb⟩)
  have HU2 : Hid (∀ x, Below w.heap.size w x → Calls Tryd.prog 27 #[v2] x fun e w' => e = .returned (.tuple #[sb.val, .int .i64 eb]) ∧ Below x.heap.size x w') := hide fun x hb => (unseal_any x v2 l2 (h2.below hb) (hT.below hb)).mono (by rintro e w' ⟨he, hb⟩; rw [u2] at he; exact ⟨he, hb⟩)
  have HB0 := hide (below_alloc w (.cells zSup 27))
  clear h1 h2 hT u1 u2
  subst h
  subst k
  have q3 : ¬ sa.seq < sb.seq := by omega
  have q4 : sb.seq ≤ sa.seq := by omega
  have HQ := hide hq
  clear hq
  unfold Sup.val Sup.row at HU1 HU2
  unfold zSup at HB0
  go_enter Tryd.func12, Tryd.ntmps12
  go_wp2_with (first
    | (go_at_call_of 27 v1; refine (HU1.out _ HB0.out).mono ?_; rintro e w2 ⟨rfl, hb2⟩; have HC2 : Hid (CR w (w2.alloc (.cells sa.row 27)) w2.heap.size sa) := hide (CR.start sa hb2); clear hb2)
    | (go_at_call_of 27 v2; refine (HU2.out _ HC2.out.bel).mono ?_; rintro e w3 ⟨rfl, hb3⟩; have HC3 : Hid (∀ o, CR w (w3.alloc o) w2.heap.size sa) := hide fun o => (HC2.out.below hb3).below ((Below.refl _ _).alloc (Nat.le_refl _) o); clear hb3; have a0 : ∀ o, (w3.alloc o).cell? ⟨w2.heap.size, 0, none⟩ = some (.int .u64 (sa.seq : Int)) := fun o => cell_of_row _ _ _ _ _ _ (HC3.out o).ra; have a1 : ∀ o, (w3.alloc o).cell? ⟨w2.heap.size, 1, none⟩ = some (.int .i64 sa.blocks) := fun o => cell_of_row _ _ _ _ _ _ (HC3.out o).ra; have a2 : ∀ o, (w3.alloc o).cell? ⟨w2.heap.size, 2, none⟩ = some (.int .i64 sa.size) := fun o => cell_of_row _ _ _ _ _ _ (HC3.out o).ra; have a3 : ∀ o, (w3.alloc o).cell? ⟨w2.heap.size, 3, none⟩ = some (.int .i64 sa.slots) := fun o => cell_of_row _ _ _ _ _ _ (HC3.out o).ra; have a4 : ∀ o, (w3.alloc o).cell? ⟨w2.heap.size, 4, none⟩ = some (.int .u64 (sa.g0 : Int)) := fun o => cell_of_row _ _ _ _ _ _ (HC3.out o).ra; have a5 : ∀ o, (w3.alloc o).cell? ⟨w2.heap.size, 5, none⟩ = some (.int .u64 (sa.g1 : Int)) := fun o => cell_of_row _ _ _ _ _ _ (HC3.out o).ra; have a6 : ∀ o, (w3.alloc o).cell? ⟨w2.heap.size, 6, none⟩ = some (.int .u64 (sa.g2 : Int)) := fun o => cell_of_row _ _ _ _ _ _ (HC3.out o).ra; have a7 : ∀ o, (w3.alloc o).cell? ⟨w2.heap.size, 7, none⟩ = some (.int .u64 (sa.g3 : Int)) := fun o => cell_of_row _ _ _ _ _ _ (HC3.out o).ra; have a8 : ∀ o, (w3.alloc o).cell? ⟨w2.heap.size, 8, none⟩ = some (.int .u32 (sa.flags : Int)) := fun o => cell_of_row _ _ _ _ _ _ (HC3.out o).ra; have a9 : ∀ o, (w3.alloc o).cell? ⟨w2.heap.size, 9, none⟩ = some (.int .i64 sa.mark) := fun o => cell_of_row _ _ _ _ _ _ (HC3.out o).ra)
    | (refine wpList_load_row rfl 27 _ rfl w2.heap.size rfl 27 sa.row (0, 0) _ (HC3.out _).ra Tryd.underlying27 rfl (sup_size sa) ?_)
    | (refine wpList_load_row rfl 27 _ rfl w3.heap.size rfl 27 sb.row (0, 0) _ (Go.heap_alloc_new _ _) Tryd.underlying27 rfl (sup_size sb) ?_)
    | (refine wpList_store_row rfl 27 (.tmp 4) _ rfl w.heap.size sa.row rfl rfl 27 zSup (HC3.out _).rs (sup_size _) rfl (oneSup _) ?_))
  all_goals obtain ⟨k1, k2⟩ := cho_end (HC3.out (.cells sb.row 27)) sa
  all_goals exact bodyPost_ret (results_row_tmp2 rfl _ _ w.heap.size 27 sa.row (0, 0) _ rfl k1 Tryd.underlying27 rfl (sup_size sa)) rfl ⟨rfl, k2⟩
theorem choose_any (w : World) (v1 v2 : Value) (l1 l2 : List Nat) (h1 : BSl w v1 l1) (h2 : BSl w v2 l2) (hT : Tabs w) : Calls Tryd.prog 12 #[v1, v2] w fun e w' => ChoPost w (cho (uns l1) (uns l2)) e w' := by
  obtain ⟨sa, ea, u1⟩ : ∃ sa ea, uns l1 = (sa, ea) := ⟨_, _, rfl⟩
  obtain ⟨sb, eb, u2⟩ : ∃ sb eb, uns l2 = (sb, eb) := ⟨_, _, rfl⟩
  rw [u1, u2]
  unfold cho
  dsimp only
  by_cases ha : ea = 0
  · by_cases hb : eb = 0
    · rw [if_neg (by simp [ha]), if_neg (by simp [ha])]
      rcases Nat.lt_trichotomy sa.seq sb.seq with h | h | h
      · rw [if_neg (by omega)]
        exact cho_D w v1 v2 l1 l2 h1 h2 hT sa sb ea eb u1 u2 ha hb h
      · rw [if_pos (by omega)]
        exact cho_F w v1 v2 l1 l2 h1 h2 hT sa sb ea eb u1 u2 ha hb h
      · rw [if_pos (by omega)]
        exact cho_E w v1 v2 l1 l2 h1 h2 hT sa sb ea eb u1 u2 ha hb h
    · rw [if_neg (by simp [ha]), if_neg (by simp [ha]), if_pos (.inl hb)]
      exact cho_C w v1 v2 l1 l2 h1 h2 hT sa sb ea eb u1 u2 ha hb
  · by_cases hb : eb = 0
    · rw [if_neg (by simp [hb]), if_pos ha]
      exact cho_B w v1 v2 l1 l2 h1 h2 hT sa sb ea eb u1 u2 ha hb
    · rw [if_pos ⟨ha, hb⟩]
      exact cho_A w v1 v2 l1 l2 h1 h2 hT sa sb ea eb u1 u2 ha hb
end Go.Proofs.YtepgiomgkgfioaaDoor
