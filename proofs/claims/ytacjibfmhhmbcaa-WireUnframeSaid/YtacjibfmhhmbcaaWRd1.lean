import Derived.Test.YtacjibfmhhmbcaaWDec4
namespace Go.Proofs.Ytacjibfmhhmbcaa
open Go.RowKit
open Num
set_option linter.unusedVariables false
set_option linter.unusedSimpArgs false

set_option maxHeartbeats 1000000 in
theorem rd_short (w : World) (v : Value) (l : List Nat) (h : BSl w v l) (hl : l.length < 26) : Calls Try.prog 15 #[v] w fun e w' => decPost l w e w' := by
  have HE := hide (derr_71 hl)
  obtain ⟨a, cap, rfl, h1, hm, _, _, _⟩ := h
  unfold maxLen at hm
  rename_i dead1 dead2 dead3
  clear dead1 dead2 dead3
  go_enter Try.func15, Try.ntmps15
  go_wp2
  exact bodyPost_ret (results_row_tmp (p := 2) (u := 3) rfl _ _ w.heap.size 25 _ (0, 0) _ rfl (Go.heap_alloc_new w _) Try.underlying25 rfl (by kernel_rfl)) rfl (decPost_bad HE.out (by decide) ((Below.refl _ _).alloc (Nat.le_refl _) _))

set_option maxHeartbeats 1000000 in
theorem rd_mark (w : World) (v : Value) (l : List Nat) (h : BSl w v l) (hl : ¬ l.length < 26) (h2 : l.getD 0 0 ≠ 82 ∨ l.getD 1 0 ≠ 70 ∨ l.getD 3 0 ≠ 1) : Calls Try.prog 15 #[v] w fun e w' => decPost l w e w' := by
  have HE := hide (derr_72 hl h2)
  have HZ := hide ((Below.refl w.heap.size w).alloc (Nat.le_refl _) (.cells #[.int .i64 0, .int .u32 0, .int .u32 0, .int .u32 0, .int .u32 0, .slice none 0 0] 25))
  have HZR := hide (Go.heap_alloc_new w (.cells #[.int .i64 0, .int .u32 0, .int .u32 0, .int .u32 0, .int .u32 0, .slice none 0 0] 25))
  have hx := h.below HZ.out
  obtain ⟨b, off, cap, rfl, h1, hm, hlt, hc, _⟩ := dec_open hx hl
  have c0 := hc 0 (by omega)
  rw [Nat.add_zero] at c0
  have c1 := hc 1 (by omega)
  have c2 := hc 2 (by omega)
  have c3 := hc 3 (by omega)
  have c20 := hc 20 (by omega)
  have c21 := hc 21 (by omega)
  have l2 := hlt 2 (by omega)
  have l20 := hlt 20 (by omega)
  have l21 := hlt 21 (by omega)
  have hn : bv (sg l 20 2) = 256 * l.getD 20 0 + l.getD 21 0 := by rw [sg2 (by omega), bv2]
  have HB := hide h
  have HX := hide hx
  unfold maxLen at hm
  rename_i dead1
  clear hc hlt h hx dead1
  clear hn
  generalize l.getD 0 0 = x0 at *
  generalize l.getD 1 0 = x1 at *
  generalize l.getD 2 0 = x2 at *
  generalize l.getD 3 0 = x3 at *
  by_cases h0 : x0 = 82
  · have b0 : ((x0 : Int) != 82) = false := by subst h0; rfl
    by_cases h1' : x1 = 70
    · have b1 : ((x1 : Int) != 70) = false := by subst h1'; rfl
      have b3 : ((x3 : Int) != 1) = true := by simp only [bne_iff_ne]; omega
      clear h2 h0 h1'
      go_enter Try.func15, Try.ntmps15
      go_wp2
      exact bodyPost_ret (results_row_tmp (p := 2) (u := 3) rfl _ _ w.heap.size 25 _ (0, 0) _ rfl (Go.heap_alloc_new w _) Try.underlying25 rfl (by kernel_rfl)) rfl (decPost_bad HE.out (by decide) ((Below.refl _ _).alloc (Nat.le_refl _) _))
    · have b1 : ((x1 : Int) != 70) = true := by simp only [bne_iff_ne]; omega
      clear h2 h0 h1'
      go_enter Try.func15, Try.ntmps15
      go_wp2
      exact bodyPost_ret (results_row_tmp (p := 2) (u := 3) rfl _ _ w.heap.size 25 _ (0, 0) _ rfl (Go.heap_alloc_new w _) Try.underlying25 rfl (by kernel_rfl)) rfl (decPost_bad HE.out (by decide) ((Below.refl _ _).alloc (Nat.le_refl _) _))
  · have b0 : ((x0 : Int) != 82) = true := by simp only [bne_iff_ne]; omega
    clear h2 h0
    go_enter Try.func15, Try.ntmps15
    go_wp2
    exact bodyPost_ret (results_row_tmp (p := 2) (u := 3) rfl _ _ w.heap.size 25 _ (0, 0) _ rfl (Go.heap_alloc_new w _) Try.underlying25 rfl (by kernel_rfl)) rfl (decPost_bad HE.out (by decide) ((Below.refl _ _).alloc (Nat.le_refl _) _))

set_option maxHeartbeats 1000000 in
theorem rd_kind (w : World) (v : Value) (l : List Nat) (h : BSl w v l) (hl : ¬ l.length < 26) (h2 : ¬ (l.getD 0 0 ≠ 82 ∨ l.getD 1 0 ≠ 70 ∨ l.getD 3 0 ≠ 1)) (h3 : ¬ (1 ≤ l.getD 2 0 ∧ l.getD 2 0 ≤ 4)) : Calls Try.prog 15 #[v] w fun e w' => decPost l w e w' := by
  have HE := hide ((derr_head hl h2 (by rw [ferr_74 (by omega)]; decide)).trans (ferr_74 (by omega)))
  have HZ := hide ((Below.refl w.heap.size w).alloc (Nat.le_refl _) (.cells #[.int .i64 0, .int .u32 0, .int .u32 0, .int .u32 0, .int .u32 0, .slice none 0 0] 25))
  have HZR := hide (Go.heap_alloc_new w (.cells #[.int .i64 0, .int .u32 0, .int .u32 0, .int .u32 0, .int .u32 0, .slice none 0 0] 25))
  have hx := h.below HZ.out
  obtain ⟨b, off, cap, rfl, h1, hm, hlt, hc, _⟩ := dec_open hx hl
  have c0 := hc 0 (by omega)
  rw [Nat.add_zero] at c0
  have c1 := hc 1 (by omega)
  have c2 := hc 2 (by omega)
  have c3 := hc 3 (by omega)
  have c20 := hc 20 (by omega)
  have c21 := hc 21 (by omega)
  have l2 := hlt 2 (by omega)
  have l20 := hlt 20 (by omega)
  have l21 := hlt 21 (by omega)
  have hn : bv (sg l 20 2) = 256 * l.getD 20 0 + l.getD 21 0 := by rw [sg2 (by omega), bv2]
  have HB := hide h
  have HX := hide hx
  unfold maxLen at hm
  rename_i dead1
  clear hc hlt h hx dead1
  have e0 : l.getD 0 0 = 82 := by omega
  have e1 : l.getD 1 0 = 70 := by omega
  have e3 : l.getD 3 0 = 1 := by omega
  rw [e0] at c0
  rw [e1] at c1
  rw [e3] at c3
  clear e0 e1 e3 h2
  clear hn
  generalize l.getD 2 0 = kk at *
  generalize l.getD 20 0 = n1 at *
  generalize l.getD 21 0 = n2 at *
  by_cases h4 : kk < 1
  · go_enter Try.func15, Try.ntmps15
    go_wp2
    exact bodyPost_ret (results_row_tmp (p := 2) (u := 3) rfl _ _ w.heap.size 25 _ (0, 0) _ rfl (Go.heap_alloc_new w _) Try.underlying25 rfl (by kernel_rfl)) rfl (decPost_bad HE.out (by decide) ((Below.refl _ _).alloc (Nat.le_refl _) _))
  · have h5 : 4 < kk := by omega
    go_enter Try.func15, Try.ntmps15
    go_wp2
    exact bodyPost_ret (results_row_tmp (p := 2) (u := 3) rfl _ _ w.heap.size 25 _ (0, 0) _ rfl (Go.heap_alloc_new w _) Try.underlying25 rfl (by kernel_rfl)) rfl (decPost_bad HE.out (by decide) ((Below.refl _ _).alloc (Nat.le_refl _) _))

set_option maxHeartbeats 1000000 in
theorem rd_wrong (w : World) (v : Value) (l : List Nat) (h : BSl w v l) (hl : ¬ l.length < 26) (h2 : ¬ (l.getD 0 0 ≠ 82 ∨ l.getD 1 0 ≠ 70 ∨ l.getD 3 0 ≠ 1)) (h3 : 1 ≤ l.getD 2 0 ∧ l.getD 2 0 ≤ 4) (h4 : wro (l.getD 2 0 : Nat) (bv (sg l 20 2)) = true) : Calls Try.prog 15 #[v] w fun e w' => decPost l w e w' := by
  have HE := hide (show derr l = 75 from (derr_head hl h2 (by rw [wro_ferr (by omega) (by omega), h4]; decide)).trans (by rw [wro_ferr (by omega) (by omega), h4]; rfl))
  have HZ := hide ((Below.refl w.heap.size w).alloc (Nat.le_refl _) (.cells #[.int .i64 0, .int .u32 0, .int .u32 0, .int .u32 0, .int .u32 0, .slice none 0 0] 25))
  have HZR := hide (Go.heap_alloc_new w (.cells #[.int .i64 0, .int .u32 0, .int .u32 0, .int .u32 0, .int .u32 0, .slice none 0 0] 25))
  have hx := h.below HZ.out
  obtain ⟨b, off, cap, rfl, h1, hm, hlt, hc, _⟩ := dec_open hx hl
  have c0 := hc 0 (by omega)
  rw [Nat.add_zero] at c0
  have c1 := hc 1 (by omega)
  have c2 := hc 2 (by omega)
  have c3 := hc 3 (by omega)
  have c20 := hc 20 (by omega)
  have c21 := hc 21 (by omega)
  have l2 := hlt 2 (by omega)
  have l20 := hlt 20 (by omega)
  have l21 := hlt 21 (by omega)
  have hn : bv (sg l 20 2) = 256 * l.getD 20 0 + l.getD 21 0 := by rw [sg2 (by omega), bv2]
  have HB := hide h
  have HX := hide hx
  unfold maxLen at hm
  rename_i dead1
  have hni : ((bv (sg l 20 2) : Nat) : Int) = 256 * (l.getD 20 0 : Int) + (l.getD 21 0 : Int) := by omega
  have HWR : Hid (∀ x : World, Calls Try.prog 19 #[.int .i64 ((l.getD 2 0 : Nat) : Int), .int .i64 (256 * (l.getD 20 0 : Int) + (l.getD 21 0 : Int))] x fun e w' => e = .returned (.bool (wro (l.getD 2 0 : Nat) (bv (sg l 20 2)))) ∧ w' = x) := hide fun x => by have := wrong_any x (l.getD 2 0 : Nat) (bv (sg l 20 2)) (by omega) (by omega); rw [hni] at this; exact this
  clear hni
  clear hc hlt h hx dead1
  have e0 : l.getD 0 0 = 82 := by omega
  have e1 : l.getD 1 0 = 70 := by omega
  have e3 : l.getD 3 0 = 1 := by omega
  rw [e0] at c0
  rw [e1] at c1
  rw [e3] at c3
  clear e0 e1 e3 h2
  rw [h4] at HWR
  clear hn h4
  generalize l.getD 2 0 = kk at *
  generalize l.getD 20 0 = n1 at *
  generalize l.getD 21 0 = n2 at *
  obtain ⟨h31, h32⟩ := h3
  go_enter Try.func15, Try.ntmps15
  go_wp2_with fail
  go_quiet (fail)
  go_wp2_with (go_at_call 19; refine (HWR.out _).mono ?_; rintro e w' ⟨rfl, rfl⟩)
  exact bodyPost_ret (results_row_tmp (p := 2) (u := 3) rfl _ _ w.heap.size 25 _ (0, 0) _ rfl (set6 (show ((w.alloc (.cells #[.int .i64 0, .int .u32 0, .int .u32 0, .int .u32 0, .int .u32 0, .slice none 0 0] 25)).drewN nq).heap[w.heap.size]? = _ from HZR.out) (.int .i64 0) (.int .u32 0) (.int .u32 0) (.int .u32 0) (.int .u32 0) (.slice none 0 0)) Try.underlying25 rfl (by kernel_rfl)) rfl (decPost_bad HE.out (by decide) (bel_set6 (below_drewN HZ.out nq) (Nat.le_refl _) (.int .i64 0) (.int .u32 0) (.int .u32 0) (.int .u32 0) (.int .u32 0) (.slice none 0 0)))

set_option maxHeartbeats 1000000 in
theorem rd_less (w : World) (v : Value) (l : List Nat) (h : BSl w v l) (hl : ¬ l.length < 26) (h2 : ¬ (l.getD 0 0 ≠ 82 ∨ l.getD 1 0 ≠ 70 ∨ l.getD 3 0 ≠ 1)) (h3 : 1 ≤ l.getD 2 0 ∧ l.getD 2 0 ≤ 4) (h4 : wro (l.getD 2 0 : Nat) (bv (sg l 20 2)) = false) (h5 : l.length < 26 + bv (sg l 20 2)) : Calls Try.prog 15 #[v] w fun e w' => decPost l w e w' := by
  have HE := hide ((derr_rest hl h2 (by rw [wro_ferr (by omega) (by omega), h4]; rfl)).trans (if_pos h5))
  have HZ := hide ((Below.refl w.heap.size w).alloc (Nat.le_refl _) (.cells #[.int .i64 0, .int .u32 0, .int .u32 0, .int .u32 0, .int .u32 0, .slice none 0 0] 25))
  have HZR := hide (Go.heap_alloc_new w (.cells #[.int .i64 0, .int .u32 0, .int .u32 0, .int .u32 0, .int .u32 0, .slice none 0 0] 25))
  have hx := h.below HZ.out
  obtain ⟨b, off, cap, rfl, h1, hm, hlt, hc, _⟩ := dec_open hx hl
  have c0 := hc 0 (by omega)
  rw [Nat.add_zero] at c0
  have c1 := hc 1 (by omega)
  have c2 := hc 2 (by omega)
  have c3 := hc 3 (by omega)
  have c20 := hc 20 (by omega)
  have c21 := hc 21 (by omega)
  have l2 := hlt 2 (by omega)
  have l20 := hlt 20 (by omega)
  have l21 := hlt 21 (by omega)
  have hn : bv (sg l 20 2) = 256 * l.getD 20 0 + l.getD 21 0 := by rw [sg2 (by omega), bv2]
  have HB := hide h
  have HX := hide hx
  unfold maxLen at hm
  rename_i dead1
  have hni : ((bv (sg l 20 2) : Nat) : Int) = 256 * (l.getD 20 0 : Int) + (l.getD 21 0 : Int) := by omega
  have HWR : Hid (∀ x : World, Calls Try.prog 19 #[.int .i64 ((l.getD 2 0 : Nat) : Int), .int .i64 (256 * (l.getD 20 0 : Int) + (l.getD 21 0 : Int))] x fun e w' => e = .returned (.bool (wro (l.getD 2 0 : Nat) (bv (sg l 20 2)))) ∧ w' = x) := hide fun x => by have := wrong_any x (l.getD 2 0 : Nat) (bv (sg l 20 2)) (by omega) (by omega); rw [hni] at this; exact this
  clear hni
  clear hc hlt h hx dead1
  have e0 : l.getD 0 0 = 82 := by omega
  have e1 : l.getD 1 0 = 70 := by omega
  have e3 : l.getD 3 0 = 1 := by omega
  rw [e0] at c0
  rw [e1] at c1
  rw [e3] at c3
  clear e0 e1 e3 h2
  rw [h4] at HWR
  rw [hn] at h5
  clear hn h4
  generalize l.getD 2 0 = kk at *
  generalize l.getD 20 0 = n1 at *
  generalize l.getD 21 0 = n2 at *
  obtain ⟨h31, h32⟩ := h3
  go_enter Try.func15, Try.ntmps15
  go_wp2_with fail
  go_quiet (fail)
  go_wp2_with (go_at_call 19; refine (HWR.out _).mono ?_; rintro e w' ⟨rfl, rfl⟩)
  exact bodyPost_ret (results_row_tmp (p := 2) (u := 3) rfl _ _ w.heap.size 25 _ (0, 0) _ rfl (set6 (show ((w.alloc (.cells #[.int .i64 0, .int .u32 0, .int .u32 0, .int .u32 0, .int .u32 0, .slice none 0 0] 25)).drewN nq).heap[w.heap.size]? = _ from HZR.out) (.int .i64 0) (.int .u32 0) (.int .u32 0) (.int .u32 0) (.int .u32 0) (.slice none 0 0)) Try.underlying25 rfl (by kernel_rfl)) rfl (decPost_bad HE.out (by decide) (bel_set6 (below_drewN HZ.out nq) (Nat.le_refl _) (.int .i64 0) (.int .u32 0) (.int .u32 0) (.int .u32 0) (.int .u32 0) (.slice none 0 0)))

set_option maxHeartbeats 1000000 in
theorem rd_more (w : World) (v : Value) (l : List Nat) (h : BSl w v l) (hl : ¬ l.length < 26) (h2 : ¬ (l.getD 0 0 ≠ 82 ∨ l.getD 1 0 ≠ 70 ∨ l.getD 3 0 ≠ 1)) (h3 : 1 ≤ l.getD 2 0 ∧ l.getD 2 0 ≤ 4) (h4 : wro (l.getD 2 0 : Nat) (bv (sg l 20 2)) = false) (h5 : 26 + bv (sg l 20 2) < l.length) : Calls Try.prog 15 #[v] w fun e w' => decPost l w e w' := by
  have HE := hide ((derr_rest hl h2 (by rw [wro_ferr (by omega) (by omega), h4]; rfl)).trans ((if_neg (by omega)).trans (if_pos h5)))
  have HZ := hide ((Below.refl w.heap.size w).alloc (Nat.le_refl _) (.cells #[.int .i64 0, .int .u32 0, .int .u32 0, .int .u32 0, .int .u32 0, .slice none 0 0] 25))
  have HZR := hide (Go.heap_alloc_new w (.cells #[.int .i64 0, .int .u32 0, .int .u32 0, .int .u32 0, .int .u32 0, .slice none 0 0] 25))
  have hx := h.below HZ.out
  obtain ⟨b, off, cap, rfl, h1, hm, hlt, hc, _⟩ := dec_open hx hl
  have c0 := hc 0 (by omega)
  rw [Nat.add_zero] at c0
  have c1 := hc 1 (by omega)
  have c2 := hc 2 (by omega)
  have c3 := hc 3 (by omega)
  have c20 := hc 20 (by omega)
  have c21 := hc 21 (by omega)
  have l2 := hlt 2 (by omega)
  have l20 := hlt 20 (by omega)
  have l21 := hlt 21 (by omega)
  have hn : bv (sg l 20 2) = 256 * l.getD 20 0 + l.getD 21 0 := by rw [sg2 (by omega), bv2]
  have HB := hide h
  have HX := hide hx
  unfold maxLen at hm
  rename_i dead1
  have hni : ((bv (sg l 20 2) : Nat) : Int) = 256 * (l.getD 20 0 : Int) + (l.getD 21 0 : Int) := by omega
  have HWR : Hid (∀ x : World, Calls Try.prog 19 #[.int .i64 ((l.getD 2 0 : Nat) : Int), .int .i64 (256 * (l.getD 20 0 : Int) + (l.getD 21 0 : Int))] x fun e w' => e = .returned (.bool (wro (l.getD 2 0 : Nat) (bv (sg l 20 2)))) ∧ w' = x) := hide fun x => by have := wrong_any x (l.getD 2 0 : Nat) (bv (sg l 20 2)) (by omega) (by omega); rw [hni] at this; exact this
  clear hni
  clear hc hlt h hx dead1
  have e0 : l.getD 0 0 = 82 := by omega
  have e1 : l.getD 1 0 = 70 := by omega
  have e3 : l.getD 3 0 = 1 := by omega
  rw [e0] at c0
  rw [e1] at c1
  rw [e3] at c3
  clear e0 e1 e3 h2
  rw [h4] at HWR
  rw [hn] at h5
  clear hn h4
  generalize l.getD 2 0 = kk at *
  generalize l.getD 20 0 = n1 at *
  generalize l.getD 21 0 = n2 at *
  obtain ⟨h31, h32⟩ := h3
  go_enter Try.func15, Try.ntmps15
  go_wp2_with fail
  go_quiet (fail)
  go_wp2_with (go_at_call 19; refine (HWR.out _).mono ?_; rintro e w' ⟨rfl, rfl⟩)
  exact bodyPost_ret (results_row_tmp (p := 2) (u := 3) rfl _ _ w.heap.size 25 _ (0, 0) _ rfl (set6 (show ((w.alloc (.cells #[.int .i64 0, .int .u32 0, .int .u32 0, .int .u32 0, .int .u32 0, .slice none 0 0] 25)).drewN nq).heap[w.heap.size]? = _ from HZR.out) (.int .i64 0) (.int .u32 0) (.int .u32 0) (.int .u32 0) (.int .u32 0) (.slice none 0 0)) Try.underlying25 rfl (by kernel_rfl)) rfl (decPost_bad HE.out (by decide) (bel_set6 (below_drewN HZ.out nq) (Nat.le_refl _) (.int .i64 0) (.int .u32 0) (.int .u32 0) (.int .u32 0) (.int .u32 0) (.slice none 0 0)))
end Go.Proofs.Ytacjibfmhhmbcaa
