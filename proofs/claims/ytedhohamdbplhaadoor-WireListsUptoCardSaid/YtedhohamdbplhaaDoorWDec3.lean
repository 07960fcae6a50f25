import Derived.Test.YtedhohamdbplhaaDoorWDec2
namespace Go.Proofs.YtedhohamdbplhaaDoor
open Go.RowKit
open Num
set_option linter.unusedVariables false
set_option linter.unusedSimpArgs false
set_option maxRecDepth 20000

theorem BSl.tail {w : World} {b off cap : Nat} {l : List Nat} (h : BSl w (.slice (some ⟨b, off, none⟩) l.length cap) l) (h26 : 26 ≤ l.length) : BSl w (.slice (if cap = 26 then some (⟨b, off, none⟩ : Addr) else some ⟨b, off + 26, none⟩) (l.length - 26) (cap - 26)) (l.drop 26) := by
  obtain ⟨_, _, e, h1, h2, _, h4, _⟩ := id h
  simp only [Value.slice.injEq, Option.some.injEq] at e
  obtain ⟨rfl, _, rfl⟩ := e
  by_cases hc : cap = 26
  · have hl : l.length = 26 := by omega
    have hd : l.drop 26 = [] := List.drop_eq_nil_of_le (by omega)
    rw [hd, if_pos hc, hc, hl]
    exact ⟨_, 0, rfl, Nat.le_refl _, by unfold maxLen; omega, by simp, by simp, by simp⟩
  · rw [if_neg hc, ← sg_rest]
    exact h.seg 26 (l.length - 26) (by omega)
theorem row6f {x : World} {g : Nat} {v0 v1 v2 v3 v4 v5 : Value} {t : TypeId} (hr : x.heap[g]? = some (.cells #[v0, v1, v2, v3, v4, v5] t (0, 0))) :
    x.cell? ⟨g, 0, none⟩ = some v0 ∧ x.cell? ⟨g, 1, none⟩ = some v1 ∧ x.cell? ⟨g, 2, none⟩ = some v2 ∧ x.cell? ⟨g, 3, none⟩ = some v3 ∧ x.cell? ⟨g, 4, none⟩ = some v4 ∧ x.cell? ⟨g, 5, none⟩ = some v5 ∧ x.frozen? ⟨g, 0, none⟩ = false ∧ x.frozen? ⟨g, 1, none⟩ = false ∧ x.frozen? ⟨g, 2, none⟩ = false ∧ x.frozen? ⟨g, 3, none⟩ = false ∧ x.frozen? ⟨g, 4, none⟩ = false ∧ x.frozen? ⟨g, 5, none⟩ = false :=
  ⟨by rw [cell_of_row _ _ _ _ _ _ hr]; rfl, by rw [cell_of_row _ _ _ _ _ _ hr]; rfl, by rw [cell_of_row _ _ _ _ _ _ hr]; rfl, by rw [cell_of_row _ _ _ _ _ _ hr]; rfl, by rw [cell_of_row _ _ _ _ _ _ hr]; rfl, by rw [cell_of_row _ _ _ _ _ _ hr]; rfl, frozen_of_row _ _ _ _ _ hr, frozen_of_row _ _ _ _ _ hr, frozen_of_row _ _ _ _ _ hr, frozen_of_row _ _ _ _ _ hr, frozen_of_row _ _ _ _ _ hr, frozen_of_row _ _ _ _ _ hr⟩
theorem BSl.front {w : World} {b off cap : Nat} {l : List Nat} (h : BSl w (.slice (some ⟨b, off, none⟩) l.length cap) l) (h26 : 26 ≤ l.length) : BSl w (.slice (some ⟨b, off, none⟩) 22 cap) (l.take 22) := by
  have := h.seg 0 22 (by omega)
  rw [sg_zero] at this
  exact this

set_option maxHeartbeats 1000000 in
theorem dec_sum (w : World) (v : Value) (l : List Nat) (h : BSl w v l) (hl : ¬ l.length < 26) (h2 : ¬ (l.getD 0 0 ≠ 82 ∨ l.getD 1 0 ≠ 70 ∨ l.getD 3 0 ≠ 1)) (h3 : ferr (l.getD 2 0 : Nat) (bv (sg l 20 2)) = 0) (h5 : l.length = 26 + bv (sg l 20 2)) (h6 : bv (sg l 22 4) ≠ crcM (crcM (crcM 0 (l.take 22)) [0, 0, 0, 0]) (l.drop 26)) : Calls Tryd.prog 15 #[v] w fun e w' => decPost l w e w' := by
  have HE := hide ((derr_rest hl h2 h3).trans ((if_neg (by omega)).trans ((if_neg (by omega)).trans (if_pos h6))))
  have HZ := hide ((Below.refl w.heap.size w).alloc (Nat.le_refl _) (.cells #[.int .i64 0, .int .u32 0, .int .u32 0, .int .u32 0, .int .u32 0, .slice none 0 0] 48))
  have HZR := hide (Go.heap_alloc_new w (.cells #[.int .i64 0, .int .u32 0, .int .u32 0, .int .u32 0, .int .u32 0, .slice none 0 0] 48))
  have hx := h.below HZ.out
  obtain ⟨b, off, cap, rfl, h1, hm, hlt, hc, hcv⟩ := dec_open hx hl
  have c3 := hc 3 (by omega)
  have c2 := hc 2 (by omega)
  have l2 := hlt 2 (by omega)
  have e0 : l.getD 0 0 = 82 := by omega
  have e1 : l.getD 1 0 = 70 := by omega
  have e3 : l.getD 3 0 = 1 := by omega
  rw [e0, e1] at hcv
  rw [e3] at c3
  have HR := hide fun n => readNumber_any _ _ _ ((hx.seg 20 2 (by omega)).drewN n) (by rw [sg_len (by omega)]; decide)
  have hn : bv (sg l 20 2) < 65536 := bv2_lt (fun x hy => h.bytes x (sg_mem hy)) (sg_len (by omega))
  have HCH := hide fun x => checkHead_any x (l.getD 2 0 : Nat) (bv (sg l 20 2)) (by omega) (by omega)
  have HX := hide hx
  have HBY := hide h.bytes
  unfold maxLen at hm
  have HC0 : Hid (∀ x : World, Calls Tryd.prog 30 #[.int .i64 ((l.getD 2 0 : Nat) : Int), .int .i64 ((bv (sg l 20 2) : Nat) : Int)] x fun e w' => e = .returned (.int .i64 0) ∧ w' = x) := hide fun x => by have := HCH.out x; rw [h3] at this; exact this
  clear HCH
  clear h3
  have h5a := Nat.le_of_eq h5
  have h5b := Nat.le_of_eq h5.symm
  have H5 := hide h5
  clear h5
  clear hc hlt h hx e0 e1 e3 h2
  generalize l.getD 2 0 = kk at *
  generalize bv (sg l 20 2) = n at *
  have i1 : (2 : Int) < (l.length : Int) := by omega
  have i2 : (22 : Int) ≤ (cap : Int) := by omega
  have i3 : (26 : Int) ≤ (l.length : Int) := by omega
  have i4 : (26 : Int) ≤ (cap : Int) := by omega
  have i5 : (l.length : Int) ≤ (cap : Int) := by omega
  have j20 : ¬ cap = 20 := by omega
  have j22 : ¬ cap = 22 := by omega
  obtain ⟨pa, hpa⟩ : ∃ pa, (if cap = 26 then some (⟨b, off, none⟩ : Addr) else some ⟨b, off + 26, none⟩) = pa := ⟨_, rfl⟩
  have HPL : Hid (BSl (w.alloc (.cells #[.int .i64 0, .int .u32 0, .int .u32 0, .int .u32 0, .int .u32 0, .slice none 0 0] 48)) (.slice pa (l.length - 26) (cap - 26)) (l.drop 26)) := hide (by rw [← hpa]; exact HX.out.tail (by omega))
  have HR2 : Hid (∀ k, Calls Tryd.prog 33 #[.slice (some ⟨b, off + 22, none⟩) 4 (cap - 22)] ((w.alloc (.cells #[.int .i64 0, .int .u32 0, .int .u32 0, .int .u32 0, .int .u32 0, .slice none 0 0] 48)).drewN k) fun e w' => e = .returned (.int .u32 (bv (sg l 22 4) : Nat)) ∧ w' = (w.alloc (.cells #[.int .i64 0, .int .u32 0, .int .u32 0, .int .u32 0, .int .u32 0, .slice none 0 0] 48)).drewN k) := hide fun k => readNumber_any _ _ _ ((HX.out.seg 22 4 (by omega)).drewN k) (by rw [sg_len (by omega)]; decide)
  have HFS : Hid (∀ k, Calls Tryd.prog 32 #[.slice (some ⟨b, off, none⟩) 22 cap, .slice pa (l.length - 26) (cap - 26)] ((w.alloc (.cells #[.int .i64 0, .int .u32 0, .int .u32 0, .int .u32 0, .int .u32 0, .slice none 0 0] 48)).drewN k) fun e w' => e = .returned (.int .u32 (crcM (crcM (crcM 0 (l.take 22)) [0, 0, 0, 0]) (l.drop 26) : Nat)) ∧ Below ((w.alloc (.cells #[.int .i64 0, .int .u32 0, .int .u32 0, .int .u32 0, .int .u32 0, .slice none 0 0] 48)).drewN k).heap.size ((w.alloc (.cells #[.int .i64 0, .int .u32 0, .int .u32 0, .int .u32 0, .int .u32 0, .slice none 0 0] 48)).drewN k) w') := hide fun k => frameSum_any _ _ _ _ _ ((HX.out.front (by omega)).drewN k) (HPL.out.drewN k)
  have hs1 : bv (sg l 22 4) < 4294967296 := by
    have := bv_lt (sg l 22 4) (fun x hy => HBY.out x (sg_mem hy))
    rw [sg_len (by omega)] at this
    exact this
  generalize bv (sg l 22 4) = z1 at *
  generalize crcM (crcM (crcM 0 (l.take 22)) [0, 0, 0, 0]) (l.drop 26) = z2 at *
  have hzz : ((z1 : Int) == (z2 : Int)) = false := by simp only [beq_eq_false_iff_ne]; omega
  have hwk : IntKind.i64.wrap (kk : Int) = (kk : Int) := by simp [IntKind.wrap, IntKind.bits, IntKind.signed]; omega
  have hwn : IntKind.i64.wrap (n : Int) = (n : Int) := by simp [IntKind.wrap, IntKind.bits, IntKind.signed]; omega
  go_enter Tryd.func15, Tryd.ntmps15
  go_wp2_with fail
  go_region_held3 (fun w' => w'.cell? ⟨b, off + 2, none⟩ = some (.int .u8 (kk : Int))) (exact c2)
    ((go_at_call 33; refine (HR.out 1).mono ?_; rintro e w' ⟨rfl, rfl⟩))
  clear HR
  go_wp2_with (go_at_call 30; refine (HC0.out _).mono ?_; rintro e w' ⟨rfl, rfl⟩)
  go_region_held3 (fun _ => True) (trivial)
    ((first
      | (go_at_call 33; go_loud (refine (HR2.out 2).mono ?_); rintro e w' ⟨rfl, rfl⟩)
      | (go_at_call 32; go_loud (refine (HFS.out 2).mono ?_); rintro e w3 ⟨rfl, hb3⟩)))
  have HZ3 : Hid (w3.heap[w.heap.size]? = some (.cells #[.int .i64 0, .int .u32 0, .int .u32 0, .int .u32 0, .int .u32 0, .slice none 0 0] 48 (0, 0))) := hide (by rw [hb3.block _ (by show w.heap.size < (w.alloc _).heap.size; simp)]; exact HZR.out)
  have HB3 : Hid (Below w.heap.size w w3) := hide ((below_drewN HZ.out 2).trans (hb3.mono (by show w.heap.size ≤ (w.alloc _).heap.size; simp)))
  have HX3 : Hid (BSl w3 (.slice (some ⟨b, off, none⟩) l.length cap) l) := hide ((HX.out.drewN 2).below hb3)
  have HPL3 : Hid (BSl w3 (.slice pa (l.length - 26) (cap - 26)) (l.drop 26)) := hide ((HPL.out.drewN 2).below hb3)
  have HSZ3 : Hid (w.heap.size < w3.heap.size) := hide (Nat.lt_of_lt_of_le (by show w.heap.size < (w.alloc _).heap.size; simp) hb3.size)
  clear hb3 HR2 HFS HX HPL HC0
  obtain ⟨r0, r1, r2, r3, r4, r5, q0, q1, q2, q3, q4, q5⟩ := row6f HZ3.out
  go_wp2_with fail
  exact bodyPost_ret (results_row_tmp (p := 2) (u := 3) rfl _ _ w.heap.size 48 _ (0, 0) _ rfl (set6 HZ3.out (.int .i64 0) (.int .u32 0) (.int .u32 0) (.int .u32 0) (.int .u32 0) (.slice none 0 0)) Tryd.underlying48 rfl (by kernel_rfl)) rfl (decPost_bad HE.out (by first | decide | exact HQ.out) (bel_set6 HB3.out (Nat.le_refl _) (.int .i64 0) (.int .u32 0) (.int .u32 0) (.int .u32 0) (.int .u32 0) (.slice none 0 0)))
end Go.Proofs.YtedhohamdbplhaaDoor
