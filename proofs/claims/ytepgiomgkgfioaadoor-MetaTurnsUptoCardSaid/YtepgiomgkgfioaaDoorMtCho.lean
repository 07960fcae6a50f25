import Derived.Test.YtepgiomgkgfioaaDoorMtLaw0
namespace Go.Proofs.YtepgiomgkgfioaaDoor
open Go.RowKit Go.Lib
set_option linter.unusedVariables false
set_option linter.unusedSimpArgs false
set_option maxRecDepth 20000

/-- what Choose says of what Unseal says -/
def cho (x y : Sup × Int) : Sup × Int × Int := if x.2 ≠ 0 ∧ y.2 ≠ 0 then (sup0, 0, 54) else if x.2 ≠ 0 then (y.1, 1, 0) else if y.2 ≠ 0 ∨ y.1.seq ≤ x.1.seq then (x.1, 0, 0) else (y.1, 1, 0)
def ChoPost (w : World) (r : Sup × Int × Int) (e : Ending) (w' : World) : Prop := e = .returned (.tuple #[r.1.val, .int .i64 r.2.1, .int .i64 r.2.2]) ∧ Below w.heap.size w w'
theorem results_row_tmp2 {P : Program} {fn : Func} {p u v : Tmp} {ty : TypeId} (h : fn.results = #[.cell p ty, .tmp u, .tmp v]) (tmps : Array Value) (w : World) (g : Nat) (t : TypeId) (cs : Array Value) (fr : Nat × Nat) (d : TypeDesc)
    (hp : tmps.getD p undef = .pointer (some ⟨g, 0, none⟩)) (hg : w.heap[g]? = some (.cells cs t fr))
    (hu : P.underlying ty = some d) (hd : (match d with | .struct _ | .array _ _ => true | _ => false) = true) (hi : (P.info? ty).map (·.size) = some cs.size) :
    (results fn tmps).run P w = .ok (.tuple #[.agg cs, tmps.getD u undef, tmps.getD v undef]) w := by
  have hp' : tmps[p]?.getD undef = .pointer (some ⟨g, 0, none⟩) := by simpa using hp
  simp [results, h, hp', asAddr, run_loadVar_row w g t ty cs fr d hg hu hd hi]
/-- the walk of Choose: its result's block, and a's -/
structure CR (w wr : World) (ab : Nat) (sa : Sup) : Prop where
  bel : Below w.heap.size w wr
  rs : wr.heap[w.heap.size]? = some (.cells zSup 27 (0, 0))
  ra : wr.heap[ab]? = some (.cells sa.row 27 (0, 0))
theorem CR.below {w wr w' : World} {ab : Nat} {sa : Sup} (h : CR w wr ab sa) (hb : Below wr.heap.size wr w') : CR w w' ab sa :=
  ⟨h.bel.trans (hb.mono h.bel.size), (hb.block _ (Array.getElem?_eq_some_iff.1 h.rs).1).trans h.rs, (hb.block _ (Array.getElem?_eq_some_iff.1 h.ra).1).trans h.ra⟩
theorem CR.start {w w2 : World} (sa : Sup) (hb : Below (w.alloc (.cells zSup 27)).heap.size (w.alloc (.cells zSup 27)) w2) : CR w (w2.alloc (.cells sa.row 27)) w2.heap.size sa := by
  have hs := hb.size
  rw [World.size_alloc] at hs
  refine ⟨(((Below.refl _ _).alloc (Nat.le_refl _) _).trans (hb.mono (by simp))).alloc (by omega) _, ?_, Go.heap_alloc_new _ _⟩
  rw [Below.heap_alloc _ _ _ (by omega)]
  exact (hb.block _ (by simp)).trans (Go.heap_alloc_new _ _)
theorem oneSup (s : Sup) : s.row.all (·.oneCell') = true := by simp [Sup.row, Value.oneCell']
theorem cho_end {w w4 : World} {ab : Nat} {sa : Sup} (h : CR w w4 ab sa) (s : Sup) : (w4.setRow w.heap.size s.row).heap[w.heap.size]? = some (.cells s.row 27 (0, 0)) ∧ Below w.heap.size w (w4.setRow w.heap.size s.row) :=
  ⟨setRow_heap w4 w.heap.size zSup s.row 27 (0, 0) h.rs, h.bel.trans ⟨rfl, rfl, rfl, by simp, fun k hk => setRow_other _ _ _ _ (by omega)⟩⟩
set_option maxHeartbeats 1000000 in
theorem cho_A (w : World) (v1 v2 : Value) (l1 l2 : List Nat) (h1 : BSl w v1 l1) (h2 : BSl w v2 l2) (hT : Tabs w) (sa sb : Sup) (ea eb : Int) (u1 : uns l1 = (sa, ea)) (u2 : uns l2 = (sb, eb)) (h : ¬ ea = 0) (k : ¬ eb = 0) : Calls Tryd.prog 12 #[v1, v2] w fun e w' => ChoPost w (sup0, 0, 54) e w' := by
  have HU1 : Hid (∀ x, Below w.heap.size w x → Calls Tryd.prog 27 #[v1] x fun e w' => e = .returned (.tuple #[sa.val, .int .i64 ea]) ∧ Below x.heap.size x w') := hide fun x hb => (unseal_any x v1 l1 (h1.below hb) (hT.below hb)).mono (by rintro e w' ⟨he, hb⟩; rw [u1] at he; exact ⟨he, hb⟩)
  have HU2 : Hid (∀ x, Below w.heap.size w x → Calls Tryd.prog 27 #[v2] x fun e w' => e = .returned (.tuple #[sb.val, .int .i64 eb]) ∧ Below x.heap.size x w') := hide fun x hb => (unseal_any x v2 l2 (h2.below hb) (hT.below hb)).mono (by rintro e w' ⟨he, hb⟩; rw [u2] at he; exact ⟨he, hb⟩)
  have HB0 := hide (below_alloc w (.cells zSup 27))
  clear h1 h2 hT u1 u2
  have nea : (ea == 0) = false := by rw [beq_eq_false_iff_ne]; exact h
  have mea : (ea != 0) = true := by simp [bne, nea]
  have neb : (eb == 0) = false := by rw [beq_eq_false_iff_ne]; exact k
  have meb : (eb != 0) = true := by simp [bne, neb]
  unfold Sup.val Sup.row at HU1 HU2
  unfold zSup at HB0
  go_enter Tryd.func12, Tryd.ntmps12
  go_wp2_with (first
    | (go_at_call_of 27 v1; refine (HU1.out _ HB0.out).mono ?_; rintro e w2 ⟨rfl, hb2⟩; have HC2 : Hid (CR w (w2.alloc (.cells sa.row 27)) w2.heap.size sa) := hide (CR.start sa hb2); clear hb2)
    | (go_at_call_of 27 v2; refine (HU2.out _ HC2.out.bel).mono ?_; rintro e w3 ⟨rfl, hb3⟩; have HC3 : Hid (∀ o, CR w (w3.alloc o) w2.heap.size sa) := hide fun o => (HC2.out.below hb3).below ((Below.refl _ _).alloc (Nat.le_refl _) o); clear hb3; have a0 : ∀ o, (w3.alloc o).cell? ⟨w2.heap.size, 0, none⟩ = some (.int .u64 (sa.seq : Int)) := fun o => cell_of_row _ _ _ _ _ _ (HC3.out o).ra; have a1 : ∀ o, (w3.alloc o).cell? ⟨w2.heap.size, 1, none⟩ = some (.int .i64 sa.blocks) := fun o => cell_of_row _ _ _ _ _ _ (HC3.out o).ra; have a2 : ∀ o, (w3.alloc o).cell? ⟨w2.heap.size, 2, none⟩ = some (.int .i64 sa.size) := fun o => cell_of_row _ _ _ _ _ _ (HC3.out o).ra; have a3 : ∀ o, (w3.alloc o).cell? ⟨w2.heap.size, 3, none⟩ = some (.int .i64 sa.slots) := fun o => cell_of_row _ _ _ _ _ _ (HC3.out o).ra; have a4 : ∀ o, (w3.alloc o).cell? ⟨w2.heap.size, 4, none⟩ = some (.int .u64 (sa.g0 : Int)) := fun o => cell_of_row _ _ _ _ _ _ (HC3.out o).ra; have a5 : ∀ o, (w3.alloc o).cell? ⟨w2.heap.size, 5, none⟩ = some (.int .u64 (sa.g1 : Int)) := fun o => cell_of_row _ _ _ _ _ _ (HC3.out o).ra; have a6 : ∀ o, (w3.alloc o).cell? ⟨w2.heap.size, 6, none⟩ = some (.int .u64 (sa.g2 : Int)) := fun o => cell_of_row _ _ _ _ _ _ (HC3.out o).ra; have a7 : ∀ o, (w3.alloc o).cell? ⟨w2.heap.size, 7, none⟩ = some (.int .u64 (sa.g3 : Int)) := fun o => cell_of_row _ _ _ _ _ _ (HC3.out o).ra; have a8 : ∀ o, (w3.alloc o).cell? ⟨w2.heap.size, 8, none⟩ = some (.int .u32 (sa.flags : Int)) := fun o => cell_of_row _ _ _ _ _ _ (HC3.out o).ra; have a9 : ∀ o, (w3.alloc o).cell? ⟨w2.heap.size, 9, none⟩ = some (.int .i64 sa.mark) := fun o => cell_of_row _ _ _ _ _ _ (HC3.out o).ra)
    | (refine wpList_load_row rfl 27 _ rfl w2.heap.size rfl 27 sa.row (0, 0) _ (HC3.out _).ra Tryd.underlying27 rfl (sup_size sa) ?_)
    | (refine wpList_load_row rfl 27 _ rfl w3.heap.size rfl 27 sb.row (0, 0) _ (Go.heap_alloc_new _ _) Tryd.underlying27 rfl (sup_size sb) ?_)
    | (refine wpList_store_row rfl 27 (.tmp 4) _ rfl w.heap.size sup0.row rfl rfl 27 zSup (HC3.out _).rs (sup_size _) rfl (oneSup _) ?_))
  all_goals obtain ⟨k1, k2⟩ := cho_end (HC3.out (.cells sb.row 27)) sup0
  all_goals exact bodyPost_ret (results_row_tmp2 rfl _ _ w.heap.size 27 sup0.row (0, 0) _ rfl k1 Tryd.underlying27 rfl (sup_size sup0)) rfl ⟨rfl, k2⟩
set_option maxHeartbeats 1000000 in
theorem cho_B (w : World) (v1 v2 : Value) (l1 l2 : List Nat) (h1 : BSl w v1 l1) (h2 : BSl w v2 l2) (hT : Tabs w) (sa sb : Sup) (ea eb : Int) (u1 : uns l1 = (sa, ea)) (u2 : uns l2 = (sb, eb)) (h : ¬ ea = 0) (k : eb = 0) : Calls Tryd.prog 12 #[v1, v2] w fun e w' => ChoPost w (sb, 1, 0) e w' := by
  have HU1 : Hid (∀ x, Below w.heap.size w x → Calls Tryd.prog 27 #[v1] x fun e w' => e = .returned (.tuple #[sa.val, .int .i64 ea]) ∧ Below x.heap.size x w') := hide fun x hb => (unseal_any x v1 l1 (h1.below hb) (hT.below hb)).mono (by rintro e w' ⟨he, hb⟩; rw [u1] at he; exact ⟨he, hb⟩)
  have HU2 : Hid (∀ x, Below w.heap.size w x → Calls Tryd.prog 27 #[v2] x fun e w' => e = .returned (.tuple #[sb.val, .int .i64 eb]) ∧ Below x.heap.size x w') := hide fun x hb => (unseal_any x v2 l2 (h2.below hb) (hT.below hb)).mono (by rintro e w' ⟨he, hb⟩; rw [u2] at he; exact ⟨he, hb⟩)
  have HB0 := hide (below_alloc w (.cells zSup 27))
  clear h1 h2 hT u1 u2
  have nea : (ea == 0) = false := by rw [beq_eq_false_iff_ne]; exact h
  have mea : (ea != 0) = true := by simp [bne, nea]
  subst k
  unfold Sup.val Sup.row at HU1 HU2
  unfold zSup at HB0
  go_enter Tryd.func12, Tryd.ntmps12
  go_wp2_with (first
    | (go_at_call_of 27 v1; refine (HU1.out _ HB0.out).mono ?_; rintro e w2 ⟨rfl, hb2⟩; have HC2 : Hid (CR w (w2.alloc (.cells sa.row 27)) w2.heap.size sa) := hide (CR.start sa hb2); clear hb2)
    | (go_at_call_of 27 v2; refine (HU2.out _ HC2.out.bel).mono ?_; rintro e w3 ⟨rfl, hb3⟩; have HC3 : Hid (∀ o, CR w (w3.alloc o) w2.heap.size sa) := hide fun o => (HC2.out.below hb3).below ((Below.refl _ _).alloc (Nat.le_refl _) o); clear hb3; have a0 : ∀ o, (w3.alloc o).cell? ⟨w2.heap.size, 0, none⟩ = some (.int .u64 (sa.seq : Int)) := fun o => cell_of_row _ _ _ _ _ _ (HC3.out o).ra; have a1 : ∀ o, (w3.alloc o).cell? ⟨w2.heap.size, 1, none⟩ = some (.int .i64 sa.blocks) := fun o => cell_of_row _ _ _ _ _ _ (HC3.out o).ra; have a2 : ∀ o, (w3.alloc o).cell? ⟨w2.heap.size, 2, none⟩ = some (.int .i64 sa.size) := fun o => cell_of_row _ _ _ _ _ _ (HC3.out o).ra; have a3 : ∀ o, (w3.alloc o).cell? ⟨w2.heap.size, 3, none⟩ = some (.int .i64 sa.slots) := fun o => cell_of_row _ _ _ _ _ _ (HC3.out o).ra; have a4 : ∀ o, (w3.alloc o).cell? ⟨w2.heap.size, 4, none⟩ = some (.int .u64 (sa.g0 : Int)) := fun o => cell_of_row _ _ _ _ _ _ (HC3.out o).ra; have a5 : ∀ o, (w3.alloc o).cell? ⟨w2.heap.size, 5, none⟩ = some (.int .u64 (sa.g1 : Int)) := fun o => cell_of_row _ _ _ _ _ _ (HC3.out o).ra; have a6 : ∀ o, (w3.alloc o).cell? ⟨w2.heap.size, 6, none⟩ = some (.int .u64 (sa.g2 : Int)) := fun o => cell_of_row _ _ _ _ _ _ (HC3.out o).ra; have a7 : ∀ o, (w3.alloc o).cell? ⟨w2.heap.size, 7, none⟩ = some (.int .u64 (sa.g3 : Int)) := fun o => cell_of_row _ _ _ _ _ _ (HC3.out o).ra; have a8 : ∀ o, (w3.alloc o).cell? ⟨w2.heap.size, 8, none⟩ = some (.int .u32 (sa.flags : Int)) := fun o => cell_of_row _ _ _ _ _ _ (HC3.out o).ra; have a9 : ∀ o, (w3.alloc o).cell? ⟨w2.heap.size, 9, none⟩ = some (.int .i64 sa.mark) := fun o => cell_of_row _ _ _ _ _ _ (HC3.out o).ra)
    | (refine wpList_load_row rfl 27 _ rfl w2.heap.size rfl 27 sa.row (0, 0) _ (HC3.out _).ra Tryd.underlying27 rfl (sup_size sa) ?_)
    | (refine wpList_load_row rfl 27 _ rfl w3.heap.size rfl 27 sb.row (0, 0) _ (Go.heap_alloc_new _ _) Tryd.underlying27 rfl (sup_size sb) ?_)
    | (refine wpList_store_row rfl 27 (.tmp 4) _ rfl w.heap.size sb.row rfl rfl 27 zSup (HC3.out _).rs (sup_size _) rfl (oneSup _) ?_))
  all_goals obtain ⟨k1, k2⟩ := cho_end (HC3.out (.cells sb.row 27)) sb
  all_goals exact bodyPost_ret (results_row_tmp2 rfl _ _ w.heap.size 27 sb.row (0, 0) _ rfl k1 Tryd.underlying27 rfl (sup_size sb)) rfl ⟨rfl, k2⟩
set_option maxHeartbeats 1000000 in
theorem cho_C (w : World) (v1 v2 : Value) (l1 l2 : List Nat) (h1 : BSl w v1 l1) (h2 : BSl w v2 l2) (hT : Tabs w) (sa sb : Sup) (ea eb : Int) (u1 : uns l1 = (sa, ea)) (u2 : uns l2 = (sb, eb)) (h : ea = 0) (k : ¬ eb = 0) : Calls Tryd.prog 12 #[v1, v2] w fun e w' => ChoPost w (sa, 0, 0) e w' := by
  have HU1 : Hid (∀ x, Below w.heap.size w x → Calls Tryd.prog 27 #[v1] x fun e w' => e = .returned (.tuple #[sa.val, .int .i64 ea]) ∧ Below x.heap.size x w') := hide fun x hb => (unseal_any x v1 l1 (h1.below hb) (hT.below hb)).mono (by rintro e w' ⟨he, hb⟩; rw [u1] at he; exact ⟨he, hb⟩)
  have HU2 : Hid (∀ x, Below w.heap.size w x → Calls Tryd.prog 27 #[v2] x fun e w' => e = .returned (.tuple #[sb.val, .int .i64 eb]) ∧ Below x.heap.size x w') := hide fun x hb => (unseal_any x v2 l2 (h2.below hb) (hT.below hb)).mono (by rintro e w' ⟨he, hb⟩; rw [u2] at he; exact ⟨he, hb⟩)
  have HB0 := hide (below_alloc w (.cells zSup 27))
  clear h1 h2 hT u1 u2
  subst h
  have neb : (eb == 0) = false := by rw [beq_eq_false_iff_ne]; exact k
  have meb : (eb != 0) = true := by simp [bne, neb]
  unfold Sup.val Sup.row at HU1 HU2
  unfold zSup at HB0
  go_enter Tryd.func12, Tryd.ntmps12
  go_wp2_with (first
    | (go_at_call_of 27 v1; refine (HU1.out _ HB0.out).mono ?_; rintro e w2 ⟨rfl, hb2⟩; have HC2 : Hid (CR w (w2.alloc (.cells sa.row 27)) w2.heap.size sa) := hide (CR.start sa hb2); clear hb2)
    | (go_at_call_of 27 v2; refine (HU2.out _ HC2.out.bel).mono ?_; rintro e w3 ⟨rfl, hb3⟩; have HC3 : Hid (∀ o, CR w (w3.alloc o) w2.heap.size sa) := hide fun o => (HC2.out.below hb3).below ((Below.refl _ _).alloc (Nat.le_refl _) o); clear hb3; have a0 : ∀ o, (w3.alloc o).cell? ⟨w2.heap.size, 0, none⟩ = some (.int .u64 (sa.seq : Int)) := fun o => cell_of_row _ _ _ _ _ _ (HC3.out o).ra; have a1 : ∀ o, (w3.alloc o).cell? ⟨w2.heap.size, 1, none⟩ = some (.int .i64 sa.blocks) := fun o => cell_of_row _ _ _ _ _ _ (HC3.out o).ra; have a2 : ∀ o, (w3.alloc o).cell? ⟨w2.heap.size, 2, none⟩ = some (.int .i64 sa.size) := fun o => cell_of_row _ _ _ _ _ _ (HC3.out o).ra; have a3 : ∀ o, (w3.alloc o).cell? ⟨w2.heap.size, 3, none⟩ = some (.int .i64 sa.slots) := fun o => cell_of_row _ _ _ _ _ _ (HC3.out o).ra; have a4 : ∀ o, (w3.alloc o).cell? ⟨w2.heap.size, 4, none⟩ = some (.int .u64 (sa.g0 : Int)) := fun o => cell_of_row _ _ _ _ _ _ (HC3.out o).ra; have a5 : ∀ o, (w3.alloc o).cell? ⟨w2.heap.size, 5, none⟩ = some (.int .u64 (sa.g1 : Int)) := fun o => cell_of_row _ _ _ _ _ _ (HC3.out o).ra; have a6 : ∀ o, (w3.alloc o).cell? ⟨w2.heap.size, 6, none⟩ = some (.int .u64 (sa.g2 : Int)) := fun o => cell_of_row _ _ _ _ _ _ (HC3.out o).ra; have a7 : ∀ o, (w3.alloc o).cell? ⟨w2.heap.size, 7, none⟩ = some (.int .u64 (sa.g3 : Int)) := fun o => cell_of_row _ _ _ _ _ _ (HC3.out o).ra; have a8 : ∀ o, (w3.alloc o).cell? ⟨w2.heap.size, 8, none⟩ = some (.int .u32 (sa.flags : Int)) := fun o => cell_of_row _ _ _ _ _ _ (HC3.out o).ra; have a9 : ∀ o, (w3.alloc o).cell? ⟨w2.heap.size, 9, none⟩ = some (.int .i64 sa.mark) := fun o => cell_of_row _ _ _ _ _ _ (HC3.out o).ra)
    | (refine wpList_load_row rfl 27 _ rfl w2.heap.size rfl 27 sa.row (0, 0) _ (HC3.out _).ra Tryd.underlying27 rfl (sup_size sa) ?_)
    | (refine wpList_load_row rfl 27 _ rfl w3.heap.size rfl 27 sb.row (0, 0) _ (Go.heap_alloc_new _ _) Tryd.underlying27 rfl (sup_size sb) ?_)
    | (refine wpList_store_row rfl 27 (.tmp 4) _ rfl w.heap.size sa.row rfl rfl 27 zSup (HC3.out _).rs (sup_size _) rfl (oneSup _) ?_))
  all_goals obtain ⟨k1, k2⟩ := cho_end (HC3.out (.cells sb.row 27)) sa
  all_goals exact bodyPost_ret (results_row_tmp2 rfl _ _ w.heap.size 27 sa.row (0, 0) _ rfl k1 Tryd.underlying27 rfl (sup_size sa)) rfl ⟨rfl, k2⟩
set_option maxHeartbeats 1000000 in
theorem cho_D (w : World) (v1 v2 : Value) (l1 l2 : List Nat) (h1 : BSl w v1 l1) (h2 : BSl w v2 l2) (hT : Tabs w) (sa sb : Sup) (ea eb : Int) (u1 : uns l1 = (sa, ea)) (u2 : uns l2 = (sb, eb)) (h : ea = 0) (k : eb = 0) (hq : sa.seq < sb.seq) : Calls Tryd.prog 12 #[v1, v2] w fun e w' => ChoPost w (sb, 1, 0) e w' := by
  have HU1 : Hid (∀ x, Below w.heap.size w x → Calls Tryd.prog 27 #[v1] x fun e w' => e = .returned (.tuple #[sa.val, .int .i64 ea]) ∧ Below x.heap.size x w') := hide fun x hb => (unseal_any x v1 l1 (h1.below hb) (hT.below hb)).mono (by rintro e w' ⟨he, hb⟩; rw [u1] at he; exact ⟨he, hb⟩)
  have HU2 : Hid (∀ x, Below w.heap.size w x → Calls Tryd.prog 27 #[v2] x fun e w' => e = .returned (.tuple #[sb.val, .int .i64 eb]) ∧ Below x.heap.size x w') := hide fun x hb => (unseal_any x v2 l2 (h2.below hb) (hT.below hb)).mono (by rintro e w' ⟨he, hb⟩; rw [u2] at he; exact ⟨he, hb⟩)
  have HB0 := hide (below_alloc w (.cells zSup 27))
  clear h1 h2 hT u1 u2
  subst h
  subst k
  have q1 : ((sa.seq : Int) == (sb.seq : Int)) = false := by rw [beq_eq_false_iff_ne]; omega
  have q2 : (sa.seq == sb.seq) = false := by rw [beq_eq_false_iff_ne]; omega
  unfold Sup.val Sup.row at HU1 HU2
  unfold zSup at HB0
  go_enter Tryd.func12, Tryd.ntmps12
  go_wp2_with (first
    | (go_at_call_of 27 v1; refine (HU1.out _ HB0.out).mono ?_; rintro e w2 ⟨rfl, hb2⟩; have HC2 : Hid (CR w (w2.alloc (.cells sa.row 27)) w2.heap.size sa) := hide (CR.start sa hb2); clear hb2)
    | (go_at_call_of 27 v2; refine (HU2.out _ HC2.out.bel).mono ?_; rintro e w3 ⟨rfl, hb3⟩; have HC3 : Hid (∀ o, CR w (w3.alloc o) w2.heap.size sa) := hide fun o => (HC2.out.below hb3).below ((Below.refl _ _).alloc (Nat.le_refl _) o); clear hb3; have a0 : ∀ o, (w3.alloc o).cell? ⟨w2.heap.size, 0, none⟩ = some (.int .u64 (sa.seq : Int)) := fun o => cell_of_row _ _ _ _ _ _ (HC3.out o).ra; have a1 : ∀ o, (w3.alloc o).cell? ⟨w2.heap.size, 1, none⟩ = some (.int .i64 sa.blocks) := fun o => cell_of_row _ _ _ _ _ _ (HC3.out o).ra; have a2 : ∀ o, (w3.alloc o).cell? ⟨w2.heap.size, 2, none⟩ = some (.int .i64 sa.size) := fun o => cell_of_row _ _ _ _ _ _ (HC3.out o).ra; have a3 : ∀ o, (w3.alloc o).cell? ⟨w2.heap.size, 3, none⟩ = some (.int .i64 sa.slots) := fun o => cell_of_row _ _ _ _ _ _ (HC3.out o).ra; have a4 : ∀ o, (w3.alloc o).cell? ⟨w2.heap.size, 4, none⟩ = some (.int .u64 (sa.g0 : Int)) := fun o => cell_of_row _ _ _ _ _ _ (HC3.out o).ra; have a5 : ∀ o, (w3.alloc o).cell? ⟨w2.heap.size, 5, none⟩ = some (.int .u64 (sa.g1 : Int)) := fun o => cell_of_row _ _ _ _ _ _ (HC3.out o).ra; have a6 : ∀ o, (w3.alloc o).cell? ⟨w2.heap.size, 6, none⟩ = some (.int .u64 (sa.g2 : Int)) := fun o => cell_of_row _ _ _ _ _ _ (HC3.out o).ra; have a7 : ∀ o, (w3.alloc o).cell? ⟨w2.heap.size, 7, none⟩ = some (.int .u64 (sa.g3 : Int)) := fun o => cell_of_row _ _ _ _ _ _ (HC3.out o).ra; have a8 : ∀ o, (w3.alloc o).cell? ⟨w2.heap.size, 8, none⟩ = some (.int .u32 (sa.flags : Int)) := fun o => cell_of_row _ _ _ _ _ _ (HC3.out o).ra; have a9 : ∀ o, (w3.alloc o).cell? ⟨w2.heap.size, 9, none⟩ = some (.int .i64 sa.mark) := fun o => cell_of_row _ _ _ _ _ _ (HC3.out o).ra)
    | (refine wpList_load_row rfl 27 _ rfl w2.heap.size rfl 27 sa.row (0, 0) _ (HC3.out _).ra Tryd.underlying27 rfl (sup_size sa) ?_)
    | (refine wpList_load_row rfl 27 _ rfl w3.heap.size rfl 27 sb.row (0, 0) _ (Go.heap_alloc_new _ _) Tryd.underlying27 rfl (sup_size sb) ?_)
    | (refine wpList_store_row rfl 27 (.tmp 4) _ rfl w.heap.size sb.row rfl rfl 27 zSup (HC3.out _).rs (sup_size _) rfl (oneSup _) ?_))
  all_goals obtain ⟨k1, k2⟩ := cho_end (HC3.out (.cells sb.row 27)) sb
  all_goals exact bodyPost_ret (results_row_tmp2 rfl _ _ w.heap.size 27 sb.row (0, 0) _ rfl k1 Tryd.underlying27 rfl (sup_size sb)) rfl ⟨rfl, k2⟩
set_option maxHeartbeats 1000000 in
theorem cho_E (w : World) (v1 v2 : Value) (l1 l2 : List Nat) (h1 : BSl w v1 l1) (h2 : BSl w v2 l2) (hT : Tabs w) (sa sb : Sup) (ea eb : Int) (u1 : uns l1 = (sa, ea)) (u2 : uns l2 = (sb, eb)) (h : ea = 0) (k : eb = 0) (hq : sb.seq < sa.seq) : Calls Tryd.prog 12 #[v1, v2] w fun e w' => ChoPost w (sa, 0, 0) e w' := by
  have HU1 : Hid (∀ x, Below w.heap.size w x → Calls Tryd.prog 27 #[v1] x fun e w' => e = .returned (.tuple #[sa.val, .int .i64 ea]) ∧ Below x.heap.size x w') := hide fun x hb => (unseal_any x v1 l1 (h1.below hb) (hT.below hb)).mono (by rintro e w' ⟨he, hb⟩; rw [u1] at he; exact ⟨he, hb⟩)
  have HU2 : Hid (∀ x, Below w.heap.size w x → Calls Tryd.prog 27 #[v2] x fun e w' => e = .returned (.tuple #[sb.val, .int .i64 eb]) ∧ Below x.heap.size x w') := hide fun x hb => (unseal_any x v2 l2 (h2.below hb) (hT.below hb)).mono (by rintro e w' ⟨he, hb⟩; rw [u2] at he; exact ⟨he, hb⟩)
  have HB0 := hide (below_alloc w (.cells zSup 27))
  clear h1 h2 hT u1 u2
  subst h
  subst k
  have q1 : ((sa.seq : Int) == (sb.seq : Int)) = false := by rw [beq_eq_false_iff_ne]; omega
  have q2 : (sa.seq == sb.seq) = false := by rw [beq_eq_false_iff_ne]; omega
  unfold Sup.val Sup.row at HU1 HU2
  unfold zSup at HB0
  go_enter Tryd.func12, Tryd.ntmps12
  go_wp2_with (first
    | (go_at_call_of 27 v1; refine (HU1.out _ HB0.out).mono ?_; rintro e w2 ⟨rfl, hb2⟩; have HC2 : Hid (CR w (w2.alloc (.cells sa.row 27)) w2.heap.size sa) := hide (CR.start sa hb2); clear hb2)
    | (go_at_call_of 27 v2; refine (HU2.out _ HC2.out.bel).mono ?_; rintro e w3 ⟨rfl, hb3⟩; have HC3 : Hid (∀ o, CR w (w3.alloc o) w2.heap.size sa) := hide fun o => (HC2.out.below hb3).below ((Below.refl _ _).alloc (Nat.le_refl _) o); clear hb3; have a0 : ∀ o, (w3.alloc o).cell? ⟨w2.heap.size, 0, none⟩ = some (.int .u64 (sa.seq : Int)) := fun o => cell_of_row _ _ _ _ _ _ (HC3.out o).ra; have a1 : ∀ o, (w3.alloc o).cell? ⟨w2.heap.size, 1, none⟩ = some (.int .i64 sa.blocks) := fun o => cell_of_row _ _ _ _ _ _ (HC3.out o).ra; have a2 : ∀ o, (w3.alloc o).cell? ⟨w2.heap.size, 2, none⟩ = some (.int .i64 sa.size) := fun o => cell_of_row _ _ _ _ _ _ (HC3.out o).ra; have a3 : ∀ o, (w3.alloc o).cell? ⟨w2.heap.size, 3, none⟩ = some (.int .i64 sa.slots) := fun o => cell_of_row _ _ _ _ _ _ (HC3.out o).ra; have a4 : ∀ o, (w3.alloc o).cell? ⟨w2.heap.size, 4, none⟩ = some (.int .u64 (sa.g0 : Int)) := fun o => cell_of_row _ _ _ _ _ _ (HC3.out o).ra; have a5 : ∀ o, (w3.alloc o).cell? ⟨w2.heap.size, 5, none⟩ = some (.int .u64 (sa.g1 : Int)) := fun o => cell_of_row _ _ _ _ _ _ (HC3.out o).ra; have a6 : ∀ o, (w3.alloc o).cell? ⟨w2.heap.size, 6, none⟩ = some (.int .u64 (sa.g2 : Int)) := fun o => cell_of_row _ _ _ _ _ _ (HC3.out o).ra; have a7 : ∀ o, (w3.alloc o).cell? ⟨w2.heap.size, 7, none⟩ = some (.int .u64 (sa.g3 : Int)) := fun o => cell_of_row _ _ _ _ _ _ (HC3.out o).ra; have a8 : ∀ o, (w3.alloc o).cell? ⟨w2.heap.size, 8, none⟩ = some (.int .u32 (sa.flags : Int)) := fun o => cell_of_row _ _ _ _ _ _ (HC3.out o).ra; have a9 : ∀ o, (w3.alloc o).cell? ⟨w2.heap.size, 9, none⟩ = some (.int .i64 sa.mark) := fun o => cell_of_row _ _ _ _ _ _ (HC3.out o).ra)
    | (refine wpList_load_row rfl 27 _ rfl w2.heap.size rfl 27 sa.row (0, 0) _ (HC3.out _).ra Tryd.underlying27 rfl (sup_size sa) ?_)
    | (refine wpList_load_row rfl 27 _ rfl w3.heap.size rfl 27 sb.row (0, 0) _ (Go.heap_alloc_new _ _) Tryd.underlying27 rfl (sup_size sb) ?_)
    | (refine wpList_store_row rfl 27 (.tmp 4) _ rfl w.heap.size sa.row rfl rfl 27 zSup (HC3.out _).rs (sup_size _) rfl (oneSup _) ?_))
  all_goals obtain ⟨k1, k2⟩ := cho_end (HC3.out (.cells sb.row 27)) sa
  all_goals exact bodyPost_ret (results_row_tmp2 rfl _ _ w.heap.size 27 sa.row (0, 0) _ rfl k1 Tryd.underlying27 rfl (sup_size sa)) rfl ⟨rfl, k2⟩
end Go.Proofs.YtepgiomgkgfioaaDoor
