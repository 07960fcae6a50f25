import Derived.Test.YtedhohamdbplhaaDoorWDec
namespace Go.Proofs.YtedhohamdbplhaaDoor
open Go.RowKit
open Num
set_option linter.unusedVariables false
set_option linter.unusedSimpArgs false
set_option maxRecDepth 20000

theorem bv2_lt {l : List Nat} (hb : ∀ x ∈ l, x < 256) (h : l.length = 2) : bv l < 65536 := by
  have := bv_lt l hb
  rw [h] at this
  exact this

set_option maxHeartbeats 1000000 in
theorem dec_head (w : World) (v : Value) (l : List Nat) (h : BSl w v l) (hl : ¬ l.length < 26) (h2 : ¬ (l.getD 0 0 ≠ 82 ∨ l.getD 1 0 ≠ 70 ∨ l.getD 3 0 ≠ 1)) (h3 : ferr (l.getD 2 0 : Nat) (bv (sg l 20 2)) ≠ 0) : Calls Tryd.prog 15 #[v] w fun e w' => decPost l w e w' := by
  have HE := hide (derr_head hl h2 h3)
  have HZ := hide ((Below.refl w.heap.size w).alloc (Nat.le_refl _) (.cells #[.int .i64 0, .int .u32 0, .int .u32 0, .int .u32 0, .int .u32 0, .slice none 0 0] 48))
  have HZR := hide (Go.heap_alloc_new w (.cells #[.int .i64 0, .int .u32 0, .int .u32 0, .int .u32 0, .int .u32 0, .slice none 0 0] 48))
  have hx := h.below HZ.out
  obtain ⟨b, off, cap, rfl, h1, hm, hlt, hc, hcv⟩ := dec_open hx hl
  have c3 := hc 3 (by omega)
  have c2 := hc 2 (by omega)
  have l2 := hlt 2 (by omega)
  have e0 : l.getD 0 0 = 82 := by omega
  have e1 : l.getD 1 0 = 70 := by omega
  have e3 : l.getD 3 0 = 1 := by omega
  rw [e0, e1] at hcv
  rw [e3] at c3
  have HR := hide fun n => readNumber_any _ _ _ ((hx.seg 20 2 (by omega)).drewN n) (by rw [sg_len (by omega)]; decide)
  have hn : bv (sg l 20 2) < 65536 := bv2_lt (fun x hy => h.bytes x (sg_mem hy)) (sg_len (by omega))
  have HCH := hide fun x => checkHead_any x (l.getD 2 0 : Nat) (bv (sg l 20 2)) (by omega) (by omega)
  have HX := hide hx
  have HBY := hide h.bytes
  unfold maxLen at hm
  clear hc hlt h hx e0 e1 e3 h2
  generalize hq : ferr (l.getD 2 0 : Nat) (bv (sg l 20 2)) = q at *
  have hqb : ((q : Int) == 0) = false := by simp only [beq_eq_false_iff_ne]; omega
  have HQ := hide h3
  clear hq h3
  generalize l.getD 2 0 = kk at *
  generalize bv (sg l 20 2) = n at *
  have i1 : (2 : Int) < (l.length : Int) := by omega
  have i2 : (22 : Int) ≤ (cap : Int) := by omega
  have i3 : (26 : Int) ≤ (l.length : Int) := by omega
  have i4 : (26 : Int) ≤ (cap : Int) := by omega
  have i5 : (l.length : Int) ≤ (cap : Int) := by omega
  have j20 : ¬ cap = 20 := by omega
  have j22 : ¬ cap = 22 := by omega
  obtain ⟨pa, hpa⟩ : ∃ pa, (if cap = 26 then some (⟨b, off, none⟩ : Addr) else some ⟨b, off + 26, none⟩) = pa := ⟨_, rfl⟩
  have hwk : IntKind.i64.wrap (kk : Int) = (kk : Int) := by simp [IntKind.wrap, IntKind.bits, IntKind.signed]; omega
  have hwn : IntKind.i64.wrap (n : Int) = (n : Int) := by simp [IntKind.wrap, IntKind.bits, IntKind.signed]; omega
  go_enter Tryd.func15, Tryd.ntmps15
  go_wp2_with fail
  go_region_held3 (fun w' => w'.cell? ⟨b, off + 2, none⟩ = some (.int .u8 (kk : Int))) (exact c2)
    ((go_at_call 33; refine (HR.out 1).mono ?_; rintro e w' ⟨rfl, rfl⟩))
  clear HR
  go_wp2_with (go_at_call 30; refine (HCH.out _).mono ?_; rintro e w' ⟨rfl, rfl⟩)
  exact bodyPost_ret (results_row_tmp (p := 2) (u := 3) rfl _ _ w.heap.size 48 _ (0, 0) _ rfl (set6 (show ((w.alloc (.cells #[.int .i64 0, .int .u32 0, .int .u32 0, .int .u32 0, .int .u32 0, .slice none 0 0] 48)).drewN 1).heap[w.heap.size]? = _ from HZR.out) (.int .i64 0) (.int .u32 0) (.int .u32 0) (.int .u32 0) (.int .u32 0) (.slice none 0 0)) Tryd.underlying48 rfl (by kernel_rfl)) rfl (decPost_bad HE.out (by first | decide | exact HQ.out) (bel_set6 (below_drewN HZ.out 1) (Nat.le_refl _) (.int .i64 0) (.int .u32 0) (.int .u32 0) (.int .u32 0) (.int .u32 0) (.slice none 0 0)))

set_option maxHeartbeats 1000000 in
theorem dec_less (w : World) (v : Value) (l : List Nat) (h : BSl w v l) (hl : ¬ l.length < 26) (h2 : ¬ (l.getD 0 0 ≠ 82 ∨ l.getD 1 0 ≠ 70 ∨ l.getD 3 0 ≠ 1)) (h3 : ferr (l.getD 2 0 : Nat) (bv (sg l 20 2)) = 0) (h5 : l.length < 26 + bv (sg l 20 2)) : Calls Tryd.prog 15 #[v] w fun e w' => decPost l w e w' := by
  have HE := hide ((derr_rest hl h2 h3).trans (if_pos h5))
  have HZ := hide ((Below.refl w.heap.size w).alloc (Nat.le_refl _) (.cells #[.int .i64 0, .int .u32 0, .int .u32 0, .int .u32 0, .int .u32 0, .slice none 0 0] 48))
  have HZR := hide (Go.heap_alloc_new w (.cells #[.int .i64 0, .int .u32 0, .int .u32 0, .int .u32 0, .int .u32 0, .slice none 0 0] 48))
  have hx := h.below HZ.out
  obtain ⟨b, off, cap, rfl, h1, hm, hlt, hc, hcv⟩ := dec_open hx hl
  have c3 := hc 3 (by omega)
  have c2 := hc 2 (by omega)
  have l2 := hlt 2 (by omega)
  have e0 : l.getD 0 0 = 82 := by omega
  have e1 : l.getD 1 0 = 70 := by omega
  have e3 : l.getD 3 0 = 1 := by omega
  rw [e0, e1] at hcv
  rw [e3] at c3
  have HR := hide fun n => readNumber_any _ _ _ ((hx.seg 20 2 (by omega)).drewN n) (by rw [sg_len (by omega)]; decide)
  have hn : bv (sg l 20 2) < 65536 := bv2_lt (fun x hy => h.bytes x (sg_mem hy)) (sg_len (by omega))
  have HCH := hide fun x => checkHead_any x (l.getD 2 0 : Nat) (bv (sg l 20 2)) (by omega) (by omega)
  have HX := hide hx
  have HBY := hide h.bytes
  unfold maxLen at hm
  have HC0 : Hid (∀ x : World, Calls Tryd.prog 30 #[.int .i64 ((l.getD 2 0 : Nat) : Int), .int .i64 ((bv (sg l 20 2) : Nat) : Int)] x fun e w' => e = .returned (.int .i64 0) ∧ w' = x) := hide fun x => by have := HCH.out x; rw [h3] at this; exact this
  clear HCH
  clear h3
  clear hc hlt h hx e0 e1 e3 h2
  generalize l.getD 2 0 = kk at *
  generalize bv (sg l 20 2) = n at *
  have i1 : (2 : Int) < (l.length : Int) := by omega
  have i2 : (22 : Int) ≤ (cap : Int) := by omega
  have i3 : (26 : Int) ≤ (l.length : Int) := by omega
  have i4 : (26 : Int) ≤ (cap : Int) := by omega
  have i5 : (l.length : Int) ≤ (cap : Int) := by omega
  have j20 : ¬ cap = 20 := by omega
  have j22 : ¬ cap = 22 := by omega
  obtain ⟨pa, hpa⟩ : ∃ pa, (if cap = 26 then some (⟨b, off, none⟩ : Addr) else some ⟨b, off + 26, none⟩) = pa := ⟨_, rfl⟩
  have hwk : IntKind.i64.wrap (kk : Int) = (kk : Int) := by simp [IntKind.wrap, IntKind.bits, IntKind.signed]; omega
  have hwn : IntKind.i64.wrap (n : Int) = (n : Int) := by simp [IntKind.wrap, IntKind.bits, IntKind.signed]; omega
  go_enter Tryd.func15, Tryd.ntmps15
  go_wp2_with fail
  go_region_held3 (fun w' => w'.cell? ⟨b, off + 2, none⟩ = some (.int .u8 (kk : Int))) (exact c2)
    ((go_at_call 33; refine (HR.out 1).mono ?_; rintro e w' ⟨rfl, rfl⟩))
  clear HR
  go_wp2_with (go_at_call 30; refine (HC0.out _).mono ?_; rintro e w' ⟨rfl, rfl⟩)
  exact bodyPost_ret (results_row_tmp (p := 2) (u := 3) rfl _ _ w.heap.size 48 _ (0, 0) _ rfl (set6 (show ((w.alloc (.cells #[.int .i64 0, .int .u32 0, .int .u32 0, .int .u32 0, .int .u32 0, .slice none 0 0] 48)).drewN 1).heap[w.heap.size]? = _ from HZR.out) (.int .i64 0) (.int .u32 0) (.int .u32 0) (.int .u32 0) (.int .u32 0) (.slice none 0 0)) Tryd.underlying48 rfl (by kernel_rfl)) rfl (decPost_bad HE.out (by first | decide | exact HQ.out) (bel_set6 (below_drewN HZ.out 1) (Nat.le_refl _) (.int .i64 0) (.int .u32 0) (.int .u32 0) (.int .u32 0) (.int .u32 0) (.slice none 0 0)))

set_option maxHeartbeats 1000000 in
theorem dec_more (w : World) (v : Value) (l : List Nat) (h : BSl w v l) (hl : ¬ l.length < 26) (h2 : ¬ (l.getD 0 0 ≠ 82 ∨ l.getD 1 0 ≠ 70 ∨ l.getD 3 0 ≠ 1)) (h3 : ferr (l.getD 2 0 : Nat) (bv (sg l 20 2)) = 0) (h5 : 26 + bv (sg l 20 2) < l.length) : Calls Tryd.prog 15 #[v] w fun e w' => decPost l w e w' := by
  have HE := hide ((derr_rest hl h2 h3).trans ((if_neg (by omega)).trans (if_pos h5)))
  have HZ := hide ((Below.refl w.heap.size w).alloc (Nat.le_refl _) (.cells #[.int .i64 0, .int .u32 0, .int .u32 0, .int .u32 0, .int .u32 0, .slice none 0 0] 48))
  have HZR := hide (Go.heap_alloc_new w (.cells #[.int .i64 0, .int .u32 0, .int .u32 0, .int .u32 0, .int .u32 0, .slice none 0 0] 48))
  have hx := h.below HZ.out
  obtain ⟨b, off, cap, rfl, h1, hm, hlt, hc, hcv⟩ := dec_open hx hl
  have c3 := hc 3 (by omega)
  have c2 := hc 2 (by omega)
  have l2 := hlt 2 (by omega)
  have e0 : l.getD 0 0 = 82 := by omega
  have e1 : l.getD 1 0 = 70 := by omega
  have e3 : l.getD 3 0 = 1 := by omega
  rw [e0, e1] at hcv
  rw [e3] at c3
  have HR := hide fun n => readNumber_any _ _ _ ((hx.seg 20 2 (by omega)).drewN n) (by rw [sg_len (by omega)]; decide)
  have hn : bv (sg l 20 2) < 65536 := bv2_lt (fun x hy => h.bytes x (sg_mem hy)) (sg_len (by omega))
  have HCH := hide fun x => checkHead_any x (l.getD 2 0 : Nat) (bv (sg l 20 2)) (by omega) (by omega)
  have HX := hide hx
  have HBY := hide h.bytes
  unfold maxLen at hm
  have HC0 : Hid (∀ x : World, Calls Tryd.prog 30 #[.int .i64 ((l.getD 2 0 : Nat) : Int), .int .i64 ((bv (sg l 20 2) : Nat) : Int)] x fun e w' => e = .returned (.int .i64 0) ∧ w' = x) := hide fun x => by have := HCH.out x; rw [h3] at this; exact this
  clear HCH
  clear h3
  clear hc hlt h hx e0 e1 e3 h2
  generalize l.getD 2 0 = kk at *
  generalize bv (sg l 20 2) = n at *
  have i1 : (2 : Int) < (l.length : Int) := by omega
  have i2 : (22 : Int) ≤ (cap : Int) := by omega
  have i3 : (26 : Int) ≤ (l.length : Int) := by omega
  have i4 : (26 : Int) ≤ (cap : Int) := by omega
  have i5 : (l.length : Int) ≤ (cap : Int) := by omega
  have j20 : ¬ cap = 20 := by omega
  have j22 : ¬ cap = 22 := by omega
  obtain ⟨pa, hpa⟩ : ∃ pa, (if cap = 26 then some (⟨b, off, none⟩ : Addr) else some ⟨b, off + 26, none⟩) = pa := ⟨_, rfl⟩
  have hwk : IntKind.i64.wrap (kk : Int) = (kk : Int) := by simp [IntKind.wrap, IntKind.bits, IntKind.signed]; omega
  have hwn : IntKind.i64.wrap (n : Int) = (n : Int) := by simp [IntKind.wrap, IntKind.bits, IntKind.signed]; omega
  go_enter Tryd.func15, Tryd.ntmps15
  go_wp2_with fail
  go_region_held3 (fun w' => w'.cell? ⟨b, off + 2, none⟩ = some (.int .u8 (kk : Int))) (exact c2)
    ((go_at_call 33; refine (HR.out 1).mono ?_; rintro e w' ⟨rfl, rfl⟩))
  clear HR
  go_wp2_with (go_at_call 30; refine (HC0.out _).mono ?_; rintro e w' ⟨rfl, rfl⟩)
  exact bodyPost_ret (results_row_tmp (p := 2) (u := 3) rfl _ _ w.heap.size 48 _ (0, 0) _ rfl (set6 (show ((w.alloc (.cells #[.int .i64 0, .int .u32 0, .int .u32 0, .int .u32 0, .int .u32 0, .slice none 0 0] 48)).drewN 1).heap[w.heap.size]? = _ from HZR.out) (.int .i64 0) (.int .u32 0) (.int .u32 0) (.int .u32 0) (.int .u32 0) (.slice none 0 0)) Tryd.underlying48 rfl (by kernel_rfl)) rfl (decPost_bad HE.out (by first | decide | exact HQ.out) (bel_set6 (below_drewN HZ.out 1) (Nat.le_refl _) (.int .i64 0) (.int .u32 0) (.int .u32 0) (.int .u32 0) (.int .u32 0) (.slice none 0 0)))
end Go.Proofs.YtedhohamdbplhaaDoor
