import Derived.Test.YthjokefhojlbpaaABase
namespace Go.Proofs.Ythjokefhojlbpaa
open Go.RowKit
set_option linter.unusedVariables false
set_option linter.unusedSimpArgs false
set_option maxRecDepth 20000

theorem results_row {P : Program} {fn : Func} {p : Tmp} {ty : TypeId} (h : fn.results = #[.cell p ty]) (tmps : Array Value) (w : World) (g : Nat) (t : TypeId) (cs : Array Value) (fr : Nat × Nat) (d : TypeDesc)
    (hp : tmps.getD p undef = .pointer (some ⟨g, 0, none⟩)) (hg : w.heap[g]? = some (.cells cs t fr))
    (hu : P.underlying ty = some d) (hd : (match d with | .struct _ | .array _ _ => true | _ => false) = true) (hi : (P.info? ty).map (·.size) = some cs.size) :
    (results fn tmps).run P w = .ok (.agg cs) w := by
  have hp' : tmps[p]?.getD undef = .pointer (some ⟨g, 0, none⟩) := by simpa using hp
  simp [results, h, hp', asAddr, run_loadVar_row w g t ty cs fr d hg hu hd hi]
def okSz (n : Int) : Bool := n == 128 || n == 256 || n == 512 || n == 1024
theorem okSz_iff {n : Int} : okSz n = true ↔ (n = 128 ∨ n = 256 ∨ n = 512 ∨ n = 1024) := by simp [okSz, or_assoc]
theorem okSz_lo {n : Int} (h : ¬ 128 ≤ n) : okSz n = false := by
  cases e : okSz n with
  | false => rfl
  | true => have := okSz_iff.1 e; omega
theorem okSz_hi {n : Int} (h : ¬ n ≤ 1024) : okSz n = false := by
  cases e : okSz n with
  | false => rfl
  | true => have := okSz_iff.1 e; omega
theorem pow_all : ∀ m : Nat, m < 1025 → 128 ≤ m → (bits BinOp.and .i64 (m : Int) ((m : Int) - 1) == 0) = okSz m := by decide +kernel
theorem isSize_any (w : World) (n : Int) : Calls Try.prog 42 #[.int .i64 n] w fun e w' => e = .returned (.bool (okSz n)) ∧ w' = w := by
  by_cases h1 : 128 ≤ n
  · by_cases h2 : n ≤ 1024
    · go_enter Try.func42, Try.ntmps42
      go_wp2_with fail
      go_ret
      refine ⟨?_, rfl⟩
      obtain ⟨m, rfl⟩ : ∃ m : Nat, n = m := ⟨n.toNat, by omega⟩
      have h := pow_all m (by omega) (by omega)
      rw [← h]
      rfl
    · rw [okSz_hi h2]
      go_enter Try.func42, Try.ntmps42
      go_wp2_with fail
      go_ret
      exact ⟨rfl, rfl⟩
  · rw [okSz_lo h1]
    go_enter Try.func42, Try.ntmps42
    go_wp2_with fail
    go_ret
    exact ⟨rfl, rfl⟩
/-- may a queue have these numbers? -/
def okQ (a b c : Int) : Bool := decide (1 ≤ a) && decide (a ≤ 4096) && okSz b && decide (1 ≤ c) && decide (c ≤ 256)
theorem okQ_yes {a b c : Int} (h : okQ a b c = true) : 1 ≤ a ∧ a ≤ 4096 ∧ okSz b = true ∧ 1 ≤ c ∧ c ≤ 256 := by
  unfold okQ at h
  simp only [Bool.and_eq_true, decide_eq_true_eq] at h
  obtain ⟨⟨⟨⟨h1, h2⟩, h3⟩, h4⟩, h5⟩ := h
  exact ⟨h1, h2, h3, h4, h5⟩
theorem okQ_no {a b c : Int} (h : okQ a b c = false) : a < 1 ∨ (1 ≤ a ∧ 4096 < a) ∨ (1 ≤ a ∧ a ≤ 4096 ∧ okSz b = false) ∨ (1 ≤ a ∧ a ≤ 4096 ∧ okSz b = true ∧ c < 1) ∨ (1 ≤ a ∧ a ≤ 4096 ∧ okSz b = true ∧ 1 ≤ c ∧ 256 < c) := by
  have h' : ¬ (1 ≤ a ∧ a ≤ 4096 ∧ okSz b = true ∧ 1 ≤ c ∧ c ≤ 256) := fun hh => by
    obtain ⟨h1, h2, h3, h4, h5⟩ := hh
    simp [okQ, h1, h2, h3, h4, h5] at h
  cases e : okSz b with
  | true => simp only [e] at h' ⊢; simp at h' ⊢; omega
  | false => simp; omega
theorem two_new (w : World) (A B : Obj) : ((w.alloc A).alloc B).heap[w.heap.size]? = some A ∧ ((w.alloc A).alloc B).heap[w.heap.size + 1]? = some B ∧ Below w.heap.size w ((w.alloc A).alloc B) := by
  have s1 : (w.alloc A).heap.size = w.heap.size + 1 := by simp
  refine ⟨?_, ?_, ((Below.refl _ w).alloc (Nat.le_refl _) _).alloc (by simp) _⟩
  · rw [RowKit.Below.heap_alloc _ _ _ (by omega)]; exact Go.heap_alloc_new _ _
  · rw [← s1]; exact Go.heap_alloc_new _ _
theorem szTR : (Try.prog.info? 85).map (·.size) = some 2 := by kernel_rfl
theorem szTO : (Try.prog.info? 88).map (·.size) = some 2 := by kernel_rfl
set_option maxHeartbeats 1000000 in
theorem newTR_any (w : World) : Calls Try.prog 34 #[] w fun e w' => e = .returned (.agg #[.map (some (w.heap.size + 1)), .slice none 0 0]) ∧ w' = (w.alloc (.cells #[.map (some (w.heap.size + 1)), .slice none 0 0] 85)).alloc (.map #[] 0) := by
  have hmm := fun W : World => run_makeMap (P := Try.prog) 83 W
  go_enter Try.func34, Try.ntmps34
  go_wp2_with fail
  exact bodyPost_ret (results_row (fn := Try.f34) (p := 0) (ty := 85) (by kernel_rfl) _ _ w.heap.size 85 #[.map (some (w.heap.size + 1)), .slice none 0 0] (0, 0) _ rfl (two_new ..).1 Try.underlying85 rfl szTR) rfl ⟨rfl, rfl⟩
set_option maxHeartbeats 1000000 in
theorem newTO_any (w : World) : Calls Try.prog 35 #[] w fun e w' => e = .returned (.agg #[.map (some (w.heap.size + 1)), .slice none 0 0]) ∧ w' = (w.alloc (.cells #[.map (some (w.heap.size + 1)), .slice none 0 0] 88)).alloc (.map #[] 0) := by
  have hmm := fun W : World => run_makeMap (P := Try.prog) 86 W
  go_enter Try.func35, Try.ntmps35
  go_wp2_with fail
  exact bodyPost_ret (results_row (fn := Try.f35) (p := 0) (ty := 88) (by kernel_rfl) _ _ w.heap.size 88 #[.map (some (w.heap.size + 1)), .slice none 0 0] (0, 0) _ rfl (two_new ..).1 Try.underlying88 rfl szTO) rfl ⟨rfl, rfl⟩
/-- a queue's cells -/
def qRow (a b c : Int) (mr : Nat) (vr : Value) (mo : Nat) (vo : Value) (l : Int) : Array Value := #[.int .i64 a, .int .i64 b, .int .i64 c, .map (some mr), vr, .map (some mo), vo, .int .i64 l]
/-- what New answers -/
def NewQ (w : World) (a b c : Int) (e : Ending) (w' : World) : Prop := ∃ p mr mo, e = .returned (.tuple #[.pointer (some ⟨p, 0, none⟩), .int .i64 0]) ∧ w'.heap[p]? = some (.cells (qRow a b c mr (.slice none 0 0) mo (.slice none 0 0) 0) 90 (0, 0)) ∧ w'.heap[mr]? = some (.map #[] 0) ∧ w'.heap[mo]? = some (.map #[] 0) ∧ w.heap.size ≤ p ∧ w.heap.size ≤ mr ∧ w.heap.size ≤ mo ∧ mr ≠ mo ∧ Below w.heap.size w w'
set_option maxHeartbeats 1000000 in
theorem bNew_yes (w : World) (a b c : Int) (h : okQ a b c = true) : Calls Try.prog 23 #[.int .i64 a, .int .i64 b, .int .i64 c] w (NewQ w a b c) := by
  obtain ⟨h1, h2, h3, h4, h5⟩ := okQ_yes h
  clear h
  have HS := hide (isSize_any w b)
  rw [h3] at HS
  have HR := hide fun x => newTR_any x
  have HO := hide fun x => newTO_any x
  go_enter Try.func23, Try.ntmps23
  go_wp2_with (first
    | (go_at_call 42; refine HS.out.mono ?_; rintro e x ⟨rfl, hx⟩; have hx := hx.symm; subst hx)
    | (go_at_call 34; refine (HR.out _).mono ?_; rintro e x ⟨rfl, hx⟩; have HX := hide (two_new w (.cells #[.map (some (w.heap.size + 1)), .slice none 0 0] 85) (.map #[] 0)); rw [← hx] at HX; have HZ : Hid (x.heap.size = w.heap.size + 2) := (by rw [hx]; simp [Hid]); clear hx)
    | (go_at_call 35; refine (HO.out _).mono ?_; rintro e y ⟨rfl, hy⟩; have HY := hide (two_new x (.cells #[.map (some (x.heap.size + 1)), .slice none 0 0] 88) (.map #[] 0)); rw [← hy] at HY; have HYZ : Hid (y.heap.size = x.heap.size + 2) := (by rw [hy]; simp [Hid]); clear hy))
  go_ret2
  have zx := HZ.out
  have zy := HYZ.out
  have b1 := (HX.out.2.2).trans (HY.out.2.2.mono HX.out.2.2.size)
  refine ⟨y.heap.size, w.heap.size + 1, x.heap.size + 1, rfl, Go.heap_alloc_new _ _, ?_, ?_, by omega, by omega, by omega, by omega, b1.alloc b1.size _⟩
  · rw [RowKit.Below.heap_alloc _ _ _ (by omega), HY.out.2.2.block _ (by omega)]; exact HX.out.2.1
  · rw [RowKit.Below.heap_alloc _ _ _ (by omega)]; exact HY.out.2.1
set_option maxHeartbeats 1000000 in
theorem bNew_no (w : World) (a b c : Int) (h : okQ a b c = false) : Calls Try.prog 23 #[.int .i64 a, .int .i64 b, .int .i64 c] w fun e w' => e = .returned (.tuple #[.pointer none, .int .i64 1]) ∧ w' = w := by
  have HS := hide (isSize_any w b)
  rcases okQ_no h with h1 | ⟨h1, h2⟩ | ⟨h1, h2, h3⟩ | ⟨h1, h2, h3, h4⟩ | ⟨h1, h2, h3, h4, h5⟩
  all_goals
    clear h
    try rw [h3] at HS
    go_enter Try.func23, Try.ntmps23
    go_wp2_with (go_at_call 42; refine HS.out.mono ?_; rintro e x ⟨rfl, rfl⟩)
    go_ret2
    exact ⟨rfl, rfl⟩
def rqRow (a b c : Int) (vo vu : Value) (l : Int) : Array Value := #[.int .i64 a, .int .i64 b, .int .i64 c, vo, vu, .int .i64 l]
set_option maxHeartbeats 1000000 in
theorem rNew_yes (w : World) (a b c : Int) (h : okQ a b c = true) : Calls Try.prog 24 #[.int .i64 a, .int .i64 b, .int .i64 c] w fun e w' => e = .returned (.tuple #[.pointer (some ⟨w.heap.size, 0, none⟩), .int .i64 0]) ∧ w' = w.alloc (.cells (rqRow a b c (.slice none 0 0) (.slice none 0 0) 0) 110) := by
  obtain ⟨h1, h2, h3, h4, h5⟩ := okQ_yes h
  clear h
  rcases okSz_iff.1 h3 with rfl | rfl | rfl | rfl
  all_goals
    go_enter Try.func24, Try.ntmps24
    go_wp2_with fail
    go_ret2
    exact ⟨rfl, rfl⟩
set_option maxHeartbeats 1000000 in
theorem rNew_no (w : World) (a b c : Int) (h : okQ a b c = false) : Calls Try.prog 24 #[.int .i64 a, .int .i64 b, .int .i64 c] w fun e w' => e = .returned (.tuple #[.pointer none, .int .i64 1]) ∧ w' = w := by
  by_cases h0 : okSz b = true
  · rcases okQ_no h with h1 | ⟨h1, h2⟩ | ⟨h1, h2, h3⟩ | ⟨h1, h2, h3, h4⟩ | ⟨h1, h2, h3, h4, h5⟩
    case inr.inr.inl => rw [h0] at h3; cases h3
    all_goals
      clear h
      rcases okSz_iff.1 h0 with rfl | rfl | rfl | rfl
      all_goals
        go_enter Try.func24, Try.ntmps24
        go_wp2_with fail
        go_ret2
        exact ⟨rfl, rfl⟩
  · have h1 : ¬ b = 128 := fun e => h0 (okSz_iff.2 (.inl e))
    have h2 : ¬ b = 256 := fun e => h0 (okSz_iff.2 (.inr (.inl e)))
    have h3 : ¬ b = 512 := fun e => h0 (okSz_iff.2 (.inr (.inr (.inl e))))
    have h4 : ¬ b = 1024 := fun e => h0 (okSz_iff.2 (.inr (.inr (.inr e))))
    clear h h0
    by_cases ha : a < 1
    · go_enter Try.func24, Try.ntmps24
      go_wp2_with fail
      go_ret2
      exact ⟨rfl, rfl⟩
    · by_cases ha2 : 4096 < a
      · go_enter Try.func24, Try.ntmps24
        go_wp2_with fail
        go_ret2
        exact ⟨rfl, rfl⟩
      · go_enter Try.func24, Try.ntmps24
        go_wp2_with fail
        go_ret2
        exact ⟨rfl, rfl⟩
theorem num_any (w : World) (z : Int) : Calls Try.prog 16 #[.int .i64 z] w fun e w' => e = .returned (.int .i64 z) ∧ w' = w := by
  go_enter Try.func16, Try.ntmps16
  go_wp2
  go_ret
  exact ⟨rfl, rfl⟩
theorem box3 {x : World} {g : Nat} {a b c : Value} {t : TypeId} (h : x.heap[g]? = some (.cells #[a, b, c] t (0, 0))) : x.cell? ⟨g, 0, none⟩ = some a ∧ x.cell? ⟨g, 1, none⟩ = some b ∧ x.cell? ⟨g, 2, none⟩ = some c :=
  ⟨by rw [cell_of_row _ _ _ _ _ _ h]; rfl, by rw [cell_of_row _ _ _ _ _ _ h]; rfl, by rw [cell_of_row _ _ _ _ _ _ h]; rfl⟩
set_option maxHeartbeats 1000000 in
theorem madeN_any (w : World) (a b c : Int) : Calls Try.prog 9 #[.agg #[.int .i64 a, .int .i64 b, .int .i64 c]] w fun e w' => ∃ v, e = .returned (.tuple #[v, .bool true]) ∧ Below w.heap.size w w' := by
  have HB0 := hide ((Below.refl w.heap.size w).alloc (Nat.le_refl _) (.cells #[.int .i64 a, .int .i64 b, .int .i64 c] 23))
  have C0 := Go.heap_alloc_new w (.cells #[.int .i64 a, .int .i64 b, .int .i64 c] 23)
  cases h : okQ a b c with
  | true =>
    have HK := hide fun y => bNew_yes y a b c h
    have HR := hide fun y => rNew_yes y a b c h
    clear h
    go_enter Try.func9, Try.ntmps9
    go_wp2_with (first
      | (go_at_call 23; refine (HK.out _).mono ?_; rintro e' x ⟨p, mr, mo, rfl, -, -, -, -, -, -, -, hx⟩; have HX := hide (HB0.out.trans (hx.mono HB0.out.size)); have c1 : x.heap[w.heap.size]? = some (.cells #[.int .i64 a, .int .i64 b, .int .i64 c] 23 (0, 0)) := (hx.block _ (by simp)).trans C0; obtain ⟨d0, d1, d2⟩ := box3 c1; clear HK hx)
      | (go_at_call 24; refine (HR.out _).mono ?_; rintro e' y ⟨rfl, hy⟩; subst hy; clear HR)
      | (go_at_call 16; refine (num_any _ _).mono ?_; rintro e' y ⟨rfl, rfl⟩))
    go_ret2
    exact ⟨_, rfl, (HX.out.alloc HX.out.size _).alloc (Nat.le_trans HX.out.size (by simp)) _⟩
  | false =>
    have HK := hide fun y => bNew_no y a b c h
    have HR := hide fun y => rNew_no y a b c h
    clear h
    go_enter Try.func9, Try.ntmps9
    go_wp2_with (first
      | (go_at_call 23; refine (HK.out _).mono ?_; rintro e' x ⟨rfl, hx⟩; subst hx; clear HK)
      | (go_at_call 24; refine (HR.out _).mono ?_; rintro e' y ⟨rfl, hy⟩; subst hy; clear HR)
      | (go_at_call 16; refine (num_any _ _).mono ?_; rintro e' y ⟨rfl, rfl⟩))
    go_ret2
    exact ⟨_, rfl, HB0.out.alloc HB0.out.size _⟩
theorem news_law (w : World) (a b c : Int) : Calls Try.prog 3 #[.agg #[.int .i64 a, .int .i64 b, .int .i64 c]] w fun e w' => e = .returned (.bool true) ∧ Below w.heap.size w w' := by
  have HM := hide fun x => madeN_any x a b c
  have HB0 := hide ((Below.refl w.heap.size w).alloc (Nat.le_refl _) (.cells #[.int .i64 a, .int .i64 b, .int .i64 c] 23))
  go_enter Try.func3, Try.ntmps3
  go_wp2_with (go_at_call 9; refine (HM.out _).mono ?_; rintro e' x ⟨v, rfl, hx⟩; have HX := hide (HB0.out.trans (hx.mono HB0.out.size)); clear hx)
  go_ret
  exact ⟨rfl, HX.out⟩
end Go.Proofs.Ythjokefhojlbpaa
