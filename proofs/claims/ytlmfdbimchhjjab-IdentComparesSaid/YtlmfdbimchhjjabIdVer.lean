import Derived.Test.YtlmfdbimchhjjabIdGens
namespace Go.Proofs.Ytlmfdbimchhjjab
open Go.RowKit
set_option linter.unusedVariables false
set_option linter.unusedSimpArgs false
set_option maxRecDepth 20000

def vd (k r : Int) : Value := .agg #[.int .i64 k, .int .i64 r]
/-- the kind as the other side sees it -/
def mirK (k : Int) : Int := if k = 1 then 2 else if k = 2 then 1 else if k = 3 then 4 else if k = 4 then 3 else k
def okK (k : Int) : Bool := decide (0 ≤ k ∧ k ≤ 7)
def okD (k : Int) : Bool := decide (0 ≤ k ∧ k ≤ 2)
def isSp (k : Int) : Bool := decide (k = 5 ∨ k = 6)
def isFu (k : Int) : Bool := decide (k = 3 ∨ k = 4 ∨ k = 6)
def rk (own full : Bool) : Int := if own then (if full then 3 else 1) else (if full then 4 else 2)
theorem validKind_any (w : World) (k : Int) : Calls Try.prog 48 #[.int .i64 k] w fun e w' => e = .returned (.bool (okK k)) ∧ w' = w := by
  by_cases h : 0 ≤ k
  · rw [show okK k = decide (k ≤ 7) by simp [okK, h]]
    go_enter Try.func48, Try.ntmps48
    go_wp2_with fail
    go_ret
    exact ⟨rfl, rfl⟩
  · rw [show okK k = false by simp [okK, h]]
    go_enter Try.func48, Try.ntmps48
    go_wp2_with fail
    go_ret
    exact ⟨rfl, rfl⟩
theorem validDisk_any (w : World) (k : Int) : Calls Try.prog 49 #[.int .i64 k] w fun e w' => e = .returned (.bool (okD k)) ∧ w' = w := by
  by_cases h : 0 ≤ k
  · rw [show okD k = decide (k ≤ 2) by simp [okD, h]]
    go_enter Try.func49, Try.ntmps49
    go_wp2_with fail
    go_ret
    exact ⟨rfl, rfl⟩
  · rw [show okD k = false by simp [okD, h]]
    go_enter Try.func49, Try.ntmps49
    go_wp2_with fail
    go_ret
    exact ⟨rfl, rfl⟩
theorem isSplit_any (w : World) (k : Int) : Calls Try.prog 64 #[.int .i64 k] w fun e w' => e = .returned (.bool (isSp k)) ∧ w' = w := by
  by_cases h : k = 5
  · rw [show isSp k = true by simp [isSp, h]]
    go_enter Try.func64, Try.ntmps64
    go_wp2_with fail
    go_ret
    exact ⟨rfl, rfl⟩
  · rw [show isSp k = (k == 6) by simp [isSp, h]; rfl]
    go_enter Try.func64, Try.ntmps64
    go_wp2_with fail
    go_ret
    exact ⟨by first | rfl | simp [h], rfl⟩
theorem isFull_any (w : World) (k : Int) : Calls Try.prog 66 #[.int .i64 k] w fun e w' => e = .returned (.bool (isFu k)) ∧ w' = w := by
  by_cases h : k = 3
  · rw [show isFu k = true by simp [isFu, h]]
    go_enter Try.func66, Try.ntmps66
    go_wp2_with fail
    go_ret
    exact ⟨rfl, rfl⟩
  by_cases h4 : k = 4
  · rw [show isFu k = true by simp [isFu, h4]]
    go_enter Try.func66, Try.ntmps66
    go_wp2_with fail
    go_ret
    exact ⟨by first | rfl | simp [h4], rfl⟩
  · rw [show isFu k = (k == 6) by simp [isFu, h, h4]; rfl]
    go_enter Try.func66, Try.ntmps66
    go_wp2_with fail
    go_ret
    exact ⟨by first | rfl | simp [h, h4], rfl⟩
theorem resyncKind_any (w : World) (o f : Bool) : Calls Try.prog 65 #[.bool o, .bool f] w fun e w' => e = .returned (.int .i64 (rk o f)) ∧ w' = w := by
  cases o <;> cases f
  all_goals
    go_enter Try.func65, Try.ntmps65
    go_wp2_with fail
    go_ret
    exact ⟨rfl, rfl⟩
theorem mirror_any (w : World) (k r : Int) : Calls Try.prog 7 #[vd k r] w fun e w' => e = .returned (vd (mirK k) r) ∧ ∃ X Y, w' = (w.alloc X).alloc Y := by
  unfold mirK vd
  by_cases h1 : k = 1
  · rw [if_pos h1]
    go_enter Try.func7, Try.ntmps7
    go_wp2_with fail
    exact bodyPost_ret (results_cell_row rfl _ _ (w.heap.size + 1) 27 _ (0, 0) _ rfl (heap_snd _ _ _) Try.underlying27 rfl (by kernel_rfl)) rfl ⟨rfl, _, _, rfl⟩
  rw [if_neg h1]
  by_cases h2 : k = 2
  · rw [if_pos h2]
    go_enter Try.func7, Try.ntmps7
    go_wp2_with fail
    exact bodyPost_ret (results_cell_row rfl _ _ (w.heap.size + 1) 27 _ (0, 0) _ rfl (heap_snd _ _ _) Try.underlying27 rfl (by kernel_rfl)) rfl ⟨rfl, _, _, rfl⟩
  rw [if_neg h2]
  by_cases h3 : k = 3
  · rw [if_pos h3]
    go_enter Try.func7, Try.ntmps7
    go_wp2_with fail
    exact bodyPost_ret (results_cell_row rfl _ _ (w.heap.size + 1) 27 _ (0, 0) _ rfl (heap_snd _ _ _) Try.underlying27 rfl (by kernel_rfl)) rfl ⟨rfl, _, _, rfl⟩
  rw [if_neg h3]
  by_cases h4 : k = 4
  · rw [if_pos h4]
    go_enter Try.func7, Try.ntmps7
    go_wp2_with fail
    exact bodyPost_ret (results_cell_row rfl _ _ (w.heap.size + 1) 27 _ (0, 0) _ rfl (heap_snd _ _ _) Try.underlying27 rfl (by kernel_rfl)) rfl ⟨rfl, _, _, rfl⟩
  · rw [if_neg h4]
    go_enter Try.func7, Try.ntmps7
    go_wp2_with fail
    exact bodyPost_ret (results_cell_row rfl _ _ (w.heap.size + 1) 27 _ (0, 0) _ rfl (heap_snd _ _ _) Try.underlying27 rfl (by kernel_rfl)) rfl ⟨rfl, _, _, rfl⟩
theorem heap_snd3 (w : World) (A B X : Obj) : (((w.alloc A).alloc B).alloc X).heap[w.heap.size + 1]? = some B := by
  rw [Below.heap_alloc _ _ _ (by simp), heap_snd]
theorem rmirror_any (w : World) (k r : Int) : Calls Try.prog 17 #[vd k r] w fun e w' => e = .returned (vd (mirK k) r) ∧ ∃ X Y Z, w' = ((w.alloc X).alloc Y).alloc Z := by
  unfold vd
  by_cases hk : k = 0 ∨ k = 1 ∨ k = 2 ∨ k = 3 ∨ k = 4
  · rcases hk with rfl | rfl | rfl | rfl | rfl
    all_goals
      go_enter Try.func17, Try.ntmps17
      go_wp2_with fail
      exact bodyPost_ret (results_cell_row rfl _ _ (w.heap.size + 1) 27 _ (0, 0) _ rfl (heap_snd3 _ _ _ _) Try.underlying27 rfl (by kernel_rfl)) rfl ⟨rfl, _, _, _, rfl⟩
  · rw [show mirK k = k by simp [mirK]; omega]
    by_cases h0 : 0 ≤ k
    · have h5 : ¬ k < 5 := by omega
      go_enter Try.func17, Try.ntmps17
      go_wp2_with fail
      exact bodyPost_ret (results_cell_row rfl _ _ (w.heap.size + 1) 27 _ (0, 0) _ rfl (heap_snd3 _ _ _ _) Try.underlying27 rfl (by kernel_rfl)) rfl ⟨rfl, _, _, _, rfl⟩
    · clear hk
      go_enter Try.func17, Try.ntmps17
      go_wp2_with fail
      exact bodyPost_ret (results_cell_row rfl _ _ (w.heap.size + 1) 27 _ (0, 0) _ rfl (heap_snd3 _ _ _ _) Try.underlying27 rfl (by kernel_rfl)) rfl ⟨rfl, _, _, _, rfl⟩
/-- is b the verdict a, seen from the other side? -/
def trn (ak ar bk br : Int) : Bool := decide (ar = br) && decide (bk = mirK ak)
theorem turned_any (w : World) (ak ar bk br : Int) : Calls Try.prog 8 #[vd ak ar, vd bk br] w fun e w' => e = .returned (.bool (trn ak ar bk br)) ∧ ∃ X Y, w' = (w.alloc X).alloc Y := by
  unfold trn mirK vd
  by_cases hr : ar = br
  · subst hr
    by_cases h1 : ak = 1
    · subst h1
      go_enter Try.func8, Try.ntmps8
      go_wp2_with fail
      go_ret
      exact ⟨by simp; rfl, _, _, rfl⟩
    by_cases h2 : ak = 2
    · subst h2
      go_enter Try.func8, Try.ntmps8
      go_wp2_with fail
      go_ret
      exact ⟨by simp; rfl, _, _, rfl⟩
    by_cases h3 : ak = 3
    · subst h3
      go_enter Try.func8, Try.ntmps8
      go_wp2_with fail
      go_ret
      exact ⟨by simp; rfl, _, _, rfl⟩
    by_cases h4 : ak = 4
    · subst h4
      go_enter Try.func8, Try.ntmps8
      go_wp2_with fail
      go_ret
      exact ⟨by simp; rfl, _, _, rfl⟩
    · go_enter Try.func8, Try.ntmps8
      go_wp2_with fail
      go_ret
      exact ⟨by simp [h1, h2, h3, h4, eq_comm]; rfl, _, _, rfl⟩
  · have hr2 : (ar != br) = true := by simpa using hr
    go_enter Try.func8, Try.ntmps8
    go_wp2_with fail
    all_goals
      go_ret
      exact ⟨by simp [hr], _, _, rfl⟩
theorem num_any (w : World) (e : Int) : Calls Try.prog 20 #[.int .i64 e] w fun x w' => x = .returned (.int .i64 e) ∧ w' = w := by
  go_enter Try.func20, Try.ntmps20
  go_wp2_with fail
  go_ret
  exact ⟨by first | rfl | simp, rfl⟩
theorem results_row_tmp {P : Program} {fn : Func} {p u : Tmp} {ty : TypeId} (h : fn.results = #[.cell p ty, .tmp u]) (tmps : Array Value) (w : World) (g : Nat) (t : TypeId) (cs : Array Value) (fr : Nat × Nat) (d : TypeDesc)
    (hp : tmps.getD p undef = .pointer (some ⟨g, 0, none⟩)) (hg : w.heap[g]? = some (.cells cs t fr))
    (hu : P.underlying ty = some d) (hd : (match d with | .struct _ | .array _ _ => true | _ => false) = true) (hi : (P.info? ty).map (·.size) = some cs.size) :
    (results fn tmps).run P w = .ok (.tuple #[.agg cs, tmps.getD u undef]) w := by
  have hp' : tmps[p]?.getD undef = .pointer (some ⟨g, 0, none⟩) := by simpa using hp
  simp [results, h, hp', asAddr, run_loadVar_row w g t ty cs fr d hg hu hd hi]
/-- a verdict whose source is the own side or the peer -/
def srcK (own : Bool) (k : Int) : Int := rk own (isFu k)
def srcR (own : Bool) (k r : Int) : Int := if k = srcK own k then r else 20
theorem settleSource_any (w : World) (k r : Int) (own : Bool) : Calls Try.prog 51 #[vd k r, .bool own] w fun e w' => e = .returned (vd (srcK own k) (srcR own k r)) ∧ ∃ X Y, w' = (w.alloc X).alloc Y := by
  have H1 := hide fun w => isFull_any w k
  have H2 := hide fun w => resyncKind_any w own (isFu k)
  unfold srcR srcK vd
  generalize isFu k = u at *
  generalize rk own u = q at *
  by_cases h : k = q
  · subst h
    rw [if_pos rfl]
    go_enter Try.func51, Try.ntmps51
    go_wp2_with (first
      | (go_at_call 66; refine (H1.out _).mono ?_; rintro e w2 ⟨rfl, rfl⟩)
      | (go_at_call 65; refine (H2.out _).mono ?_; rintro e w2 ⟨rfl, rfl⟩))
    all_goals
      exact bodyPost_ret (results_cell_row rfl _ _ (w.heap.size + 1) 27 _ (0, 0) _ rfl (by first | exact heap_snd _ _ _ | exact heap_snd4 _ _ _ _ _) Try.underlying27 rfl (by kernel_rfl)) rfl ⟨by first | rfl | simp, by first | exact ⟨_, _, rfl⟩⟩
  · rw [if_neg h]
    have h2 : (k == q) = false := by simpa using h
    go_enter Try.func51, Try.ntmps51
    go_wp2_with (first
      | (go_at_call 66; refine (H1.out _).mono ?_; rintro e w2 ⟨rfl, rfl⟩)
      | (go_at_call 65; refine (H2.out _).mono ?_; rintro e w2 ⟨rfl, rfl⟩))
    all_goals
      exact bodyPost_ret (results_cell_row rfl _ _ (w.heap.size + 1) 27 _ (0, 0) _ rfl (by first | exact heap_snd _ _ _ | exact heap_snd4 _ _ _ _ _) Try.underlying27 rfl (by kernel_rfl)) rfl ⟨by first | rfl | simp, by first | exact ⟨_, _, rfl⟩⟩
def worK (k : Int) : Bool := decide (k = 0 ∨ k = 5 ∨ k = 6)
theorem settleW_yes (w : World) (k r : Int) (h : worK k = true) : Calls Try.prog 50 #[vd k r] w fun e w' => e = .returned (.tuple #[vd k r, .int .i64 0]) ∧ ∃ X Y, w' = (w.alloc X).alloc Y := by
  have hk : k = 0 ∨ k = 5 ∨ k = 6 := by simpa [worK] using h
  have H1 := hide isSplit_any
  unfold isSp at H1
  clear h
  unfold vd
  rcases hk with rfl | rfl | rfl
  all_goals
    go_enter Try.func50, Try.ntmps50
    go_wp2_with (first
      | (go_at_call 64; refine (H1.out _ _).mono ?_; rintro e w2 ⟨rfl, rfl⟩))
    all_goals
      exact bodyPost_ret (results_row_tmp rfl _ _ (w.heap.size + 1) 27 _ (0, 0) _ rfl (by first | exact heap_snd _ _ _ | exact heap_snd4 _ _ _ _ _) Try.underlying27 rfl (by kernel_rfl)) rfl ⟨by first | rfl | simp, by first | exact ⟨_, _, rfl⟩ | exact bl2 HB.out _ _ | exact bl4 HB.out _ _ _ _⟩
theorem settleW_no (w : World) (k r : Int) (h : worK k = false) : Calls Try.prog 50 #[vd k r] w fun e w' => e = .returned (.tuple #[vd 0 0, .int .i64 172]) ∧ ∃ X Y, w' = (w.alloc X).alloc Y := by
  have hk : ¬ (k = 0 ∨ k = 5 ∨ k = 6) := by simpa [worK] using h
  have h0 : ¬ k = 0 := by omega
  have H1 := hide fun w => isSplit_any w k
  rw [show isSp k = false by simp [isSp]; omega] at H1
  clear h hk
  unfold vd
  go_enter Try.func50, Try.ntmps50
  go_wp2_with (first
    | (go_at_call 64; refine (H1.out _).mono ?_; rintro e w2 ⟨rfl, rfl⟩))
  all_goals
    exact bodyPost_ret (results_row_tmp rfl _ _ (w.heap.size + 1) 27 _ (0, 0) _ rfl (by first | exact heap_snd _ _ _ | exact heap_snd4 _ _ _ _ _) Try.underlying27 rfl (by kernel_rfl)) rfl ⟨by first | rfl | simp, by first | exact ⟨_, _, rfl⟩ | exact bl2 HB.out _ _ | exact bl4 HB.out _ _ _ _⟩
/-- what Settle says: the kind, the rule, the error -/
def setl (k r o p : Int) : Int × Int × Int :=
  if okK k = false then (0, 0, 1) else if okD o = false ∨ okD p = false then (0, 0, 61) else if k = 7 then (k, r, 0)
  else if o = 0 ∧ p = 0 then (if worK k = true then (k, r, 0) else (0, 0, 172))
  else if o = 0 ∨ p = 0 then (srcK (decide (p = 0)) k, srcR (decide (p = 0)) k r, 0)
  else if k = 0 ∧ o ≠ p then (srcK (decide (p = 1)) k, srcR (decide (p = 1)) k r, 0)
  else (k, r, 0)
def setV (x : Int × Int × Int) : Value := .tuple #[vd x.1 x.2.1, .int .i64 x.2.2]
theorem okK_cases {k : Int} (h : okK k = true) : k = 0 ∨ k = 1 ∨ k = 2 ∨ k = 3 ∨ k = 4 ∨ k = 5 ∨ k = 6 ∨ k = 7 := by
  have : 0 ≤ k ∧ k ≤ 7 := by simpa [okK] using h
  omega
theorem okD_cases {k : Int} (h : okD k = true) : k = 0 ∨ k = 1 ∨ k = 2 := by
  have : 0 ≤ k ∧ k ≤ 2 := by simpa [okD] using h
  omega
end Go.Proofs.Ytlmfdbimchhjjab
