import Derived.Test.YtlpmpicmpklaoacGreatELaw9
namespace Go.Proofs.YtlpmpicmpklaoacGreat
open Go.RowKit Go.Maps Go.Sort
set_option linter.unusedVariables false
set_option linter.unusedSimpArgs false
set_option maxRecDepth 20000

theorem PAll.alloc {w0 w : World} {pp nx k : Nat} {S : St} (h : PAll w0 w pp S nx k) (o : Obj) : PAll w0 (w.alloc o) pp S nx k := by
  obtain ⟨L, RL, wh, bv, hP⟩ := h
  exact ⟨L, RL, wh, bv, hP.below ((Below.refl _ _).alloc (Nat.le_refl _) o)⟩
def StepPost (w0 : World) (pp : Nat) (S' : St) (nx k : Nat) (e : Ending) (w' : World) : Prop := e = .returned (.bool true) ∧ ∃ nx' k', PAll w0 w' pp S' nx' k' ∧ nx' ≤ nx + 1 ∧ k' ≤ k + 2

set_option maxHeartbeats 1000000 in
theorem step_1 {w0 w : World} {pp nx k : Nat} {S : St} (h : PAll w0 w pp S nx k) (bl ct : Int) (dv : Value) (dl : List Nat) (hbl : i64ok bl) (hct : i64ok ct) (hdat : Dat w0 dv dl) (hb : ∀ k, (S.cache k).length + 2 ≤ 268435456) (hnx : nx ≤ 1152921504606846976) (hk : k ≤ 1152921504606) :
    Calls Tryz.prog 9 #[.pointer (some ⟨pp, 0, none⟩), .agg #[.int .i64 1, .int .i64 bl, .int .i64 ct, dv]] w fun e w' => StepPost w0 pp (S.read bl) nx k e w' := by
  have HPA := hide (h.alloc (.cells #[.int .i64 1, .int .i64 bl, .int .i64 ct, dv] 43))
  have HBL := hide hbl
  have HCT := hide hct
  have HDA := hide hdat
  have HC2 := hide hb
  have HC1 : Hid (∀ k, (S.cache k).length + 1 ≤ 268435456) := hide fun k => by have := hb k; omega
  have HNX := hide hnx
  have HKK := hide hk
  clear h hbl hct hdat hb hnx hk
  have HCC := hide (look_1 HPA.out bl ct dv HBL.out HC1.out)
  have hbox := Go.heap_alloc_new w (.cells #[.int .i64 1, .int .i64 bl, .int .i64 ct, dv] 43)
  have b0 : (w.alloc (.cells #[.int .i64 1, .int .i64 bl, .int .i64 ct, dv] 43)).cell? ⟨w.heap.size, 0, none⟩ = some (.int .i64 1) := by rw [cell_of_row _ _ _ _ _ _ hbox]; rfl
  have b1 : (w.alloc (.cells #[.int .i64 1, .int .i64 bl, .int .i64 ct, dv] 43)).cell? ⟨w.heap.size, 1, none⟩ = some (.int .i64 bl) := by rw [cell_of_row _ _ _ _ _ _ hbox]; rfl
  have b2 : (w.alloc (.cells #[.int .i64 1, .int .i64 bl, .int .i64 ct, dv] 43)).cell? ⟨w.heap.size, 2, none⟩ = some (.int .i64 ct) := by rw [cell_of_row _ _ _ _ _ _ hbox]; rfl
  have b3 : (w.alloc (.cells #[.int .i64 1, .int .i64 bl, .int .i64 ct, dv] 43)).cell? ⟨w.heap.size, 3, none⟩ = some dv := by rw [cell_of_row _ _ _ _ _ _ hbox]; rfl
  clear hbox
  go_enter Tryz.func9, Tryz.ntmps9
  go_wp2_with (go_at_call 11; refine HCC.out.mono ?_; rintro e w2 ⟨rfl, hP2⟩)
  go_ret
  exact ⟨rfl, _, _, hP2, by omega, by omega⟩
set_option maxHeartbeats 1000000 in
theorem step_8 {w0 w : World} {pp nx k : Nat} {S : St} (h : PAll w0 w pp S nx k) (bl ct : Int) (dv : Value) (dl : List Nat) (hbl : i64ok bl) (hct : i64ok ct) (hdat : Dat w0 dv dl) (hb : ∀ k, (S.cache k).length + 2 ≤ 268435456) (hnx : nx ≤ 1152921504606846976) (hk : k ≤ 1152921504606) :
    Calls Tryz.prog 9 #[.pointer (some ⟨pp, 0, none⟩), .agg #[.int .i64 8, .int .i64 bl, .int .i64 ct, dv]] w fun e w' => StepPost w0 pp S nx k e w' := by
  have HPA := hide (h.alloc (.cells #[.int .i64 8, .int .i64 bl, .int .i64 ct, dv] 43))
  have HBL := hide hbl
  have HCT := hide hct
  have HDA := hide hdat
  have HC2 := hide hb
  have HC1 : Hid (∀ k, (S.cache k).length + 1 ≤ 268435456) := hide fun k => by have := hb k; omega
  have HNX := hide hnx
  have HKK := hide hk
  clear h hbl hct hdat hb hnx hk
  have HCC := hide (look_8 HPA.out bl ct dv HBL.out HC1.out)
  have hbox := Go.heap_alloc_new w (.cells #[.int .i64 8, .int .i64 bl, .int .i64 ct, dv] 43)
  have b0 : (w.alloc (.cells #[.int .i64 8, .int .i64 bl, .int .i64 ct, dv] 43)).cell? ⟨w.heap.size, 0, none⟩ = some (.int .i64 8) := by rw [cell_of_row _ _ _ _ _ _ hbox]; rfl
  have b1 : (w.alloc (.cells #[.int .i64 8, .int .i64 bl, .int .i64 ct, dv] 43)).cell? ⟨w.heap.size, 1, none⟩ = some (.int .i64 bl) := by rw [cell_of_row _ _ _ _ _ _ hbox]; rfl
  have b2 : (w.alloc (.cells #[.int .i64 8, .int .i64 bl, .int .i64 ct, dv] 43)).cell? ⟨w.heap.size, 2, none⟩ = some (.int .i64 ct) := by rw [cell_of_row _ _ _ _ _ _ hbox]; rfl
  have b3 : (w.alloc (.cells #[.int .i64 8, .int .i64 bl, .int .i64 ct, dv] 43)).cell? ⟨w.heap.size, 3, none⟩ = some dv := by rw [cell_of_row _ _ _ _ _ _ hbox]; rfl
  clear hbox
  go_enter Tryz.func9, Tryz.ntmps9
  go_wp2_with (go_at_call 11; refine HCC.out.mono ?_; rintro e w2 ⟨rfl, hP2⟩)
  go_ret
  exact ⟨rfl, _, _, hP2, by omega, by omega⟩
set_option maxHeartbeats 1000000 in
theorem step_9 {w0 w : World} {pp nx k : Nat} {S : St} (h : PAll w0 w pp S nx k) (bl ct : Int) (dv : Value) (dl : List Nat) (hbl : i64ok bl) (hct : i64ok ct) (hdat : Dat w0 dv dl) (hb : ∀ k, (S.cache k).length + 2 ≤ 268435456) (hnx : nx ≤ 1152921504606846976) (hk : k ≤ 1152921504606) :
    Calls Tryz.prog 9 #[.pointer (some ⟨pp, 0, none⟩), .agg #[.int .i64 9, .int .i64 bl, .int .i64 ct, dv]] w fun e w' => StepPost w0 pp S nx k e w' := by
  have HPA := hide (h.alloc (.cells #[.int .i64 9, .int .i64 bl, .int .i64 ct, dv] 43))
  have HBL := hide hbl
  have HCT := hide hct
  have HDA := hide hdat
  have HC2 := hide hb
  have HC1 : Hid (∀ k, (S.cache k).length + 1 ≤ 268435456) := hide fun k => by have := hb k; omega
  have HNX := hide hnx
  have HKK := hide hk
  clear h hbl hct hdat hb hnx hk
  have HCC := hide (look_9 HPA.out bl ct dv)
  have hbox := Go.heap_alloc_new w (.cells #[.int .i64 9, .int .i64 bl, .int .i64 ct, dv] 43)
  have b0 : (w.alloc (.cells #[.int .i64 9, .int .i64 bl, .int .i64 ct, dv] 43)).cell? ⟨w.heap.size, 0, none⟩ = some (.int .i64 9) := by rw [cell_of_row _ _ _ _ _ _ hbox]; rfl
  have b1 : (w.alloc (.cells #[.int .i64 9, .int .i64 bl, .int .i64 ct, dv] 43)).cell? ⟨w.heap.size, 1, none⟩ = some (.int .i64 bl) := by rw [cell_of_row _ _ _ _ _ _ hbox]; rfl
  have b2 : (w.alloc (.cells #[.int .i64 9, .int .i64 bl, .int .i64 ct, dv] 43)).cell? ⟨w.heap.size, 2, none⟩ = some (.int .i64 ct) := by rw [cell_of_row _ _ _ _ _ _ hbox]; rfl
  have b3 : (w.alloc (.cells #[.int .i64 9, .int .i64 bl, .int .i64 ct, dv] 43)).cell? ⟨w.heap.size, 3, none⟩ = some dv := by rw [cell_of_row _ _ _ _ _ _ hbox]; rfl
  clear hbox
  go_enter Tryz.func9, Tryz.ntmps9
  go_wp2_with (go_at_call 11; refine HCC.out.mono ?_; rintro e w2 ⟨rfl, hP2⟩)
  go_ret
  exact ⟨rfl, _, _, hP2, by omega, by omega⟩
set_option maxHeartbeats 1000000 in
theorem step_6 {w0 w : World} {pp nx k : Nat} {S : St} (h : PAll w0 w pp S nx k) (bl ct : Int) (dv : Value) (dl : List Nat) (hbl : i64ok bl) (hct : i64ok ct) (hdat : Dat w0 dv dl) (hb : ∀ k, (S.cache k).length + 2 ≤ 268435456) (hnx : nx ≤ 1152921504606846976) (hk : k ≤ 1152921504606) :
    Calls Tryz.prog 9 #[.pointer (some ⟨pp, 0, none⟩), .agg #[.int .i64 6, .int .i64 bl, .int .i64 ct, dv]] w fun e w' => StepPost w0 pp S nx k e w' := by
  have HPA := hide (h.alloc (.cells #[.int .i64 6, .int .i64 bl, .int .i64 ct, dv] 43))
  have HBL := hide hbl
  have HCT := hide hct
  have HDA := hide hdat
  have HC2 := hide hb
  have HC1 : Hid (∀ k, (S.cache k).length + 1 ≤ 268435456) := hide fun k => by have := hb k; omega
  have HNX := hide hnx
  have HKK := hide hk
  clear h hbl hct hdat hb hnx hk
  have HCC := hide (look_6 HPA.out bl ct dv HC1.out)
  have hbox := Go.heap_alloc_new w (.cells #[.int .i64 6, .int .i64 bl, .int .i64 ct, dv] 43)
  have b0 : (w.alloc (.cells #[.int .i64 6, .int .i64 bl, .int .i64 ct, dv] 43)).cell? ⟨w.heap.size, 0, none⟩ = some (.int .i64 6) := by rw [cell_of_row _ _ _ _ _ _ hbox]; rfl
  have b1 : (w.alloc (.cells #[.int .i64 6, .int .i64 bl, .int .i64 ct, dv] 43)).cell? ⟨w.heap.size, 1, none⟩ = some (.int .i64 bl) := by rw [cell_of_row _ _ _ _ _ _ hbox]; rfl
  have b2 : (w.alloc (.cells #[.int .i64 6, .int .i64 bl, .int .i64 ct, dv] 43)).cell? ⟨w.heap.size, 2, none⟩ = some (.int .i64 ct) := by rw [cell_of_row _ _ _ _ _ _ hbox]; rfl
  have b3 : (w.alloc (.cells #[.int .i64 6, .int .i64 bl, .int .i64 ct, dv] 43)).cell? ⟨w.heap.size, 3, none⟩ = some dv := by rw [cell_of_row _ _ _ _ _ _ hbox]; rfl
  clear hbox
  go_enter Tryz.func9, Tryz.ntmps9
  go_wp2_with (go_at_call 11; refine HCC.out.mono ?_; rintro e w2 ⟨rfl, hP2⟩)
  go_ret
  exact ⟨rfl, _, _, hP2, by omega, by omega⟩
set_option maxHeartbeats 1000000 in
theorem step_7 {w0 w : World} {pp nx k : Nat} {S : St} (h : PAll w0 w pp S nx k) (bl ct : Int) (dv : Value) (dl : List Nat) (hbl : i64ok bl) (hct : i64ok ct) (hdat : Dat w0 dv dl) (hb : ∀ k, (S.cache k).length + 2 ≤ 268435456) (hnx : nx ≤ 1152921504606846976) (hk : k ≤ 1152921504606) :
    Calls Tryz.prog 9 #[.pointer (some ⟨pp, 0, none⟩), .agg #[.int .i64 7, .int .i64 bl, .int .i64 ct, dv]] w fun e w' => StepPost w0 pp S nx k e w' := by
  have HPA := hide (h.alloc (.cells #[.int .i64 7, .int .i64 bl, .int .i64 ct, dv] 43))
  have HBL := hide hbl
  have HCT := hide hct
  have HDA := hide hdat
  have HC2 := hide hb
  have HC1 : Hid (∀ k, (S.cache k).length + 1 ≤ 268435456) := hide fun k => by have := hb k; omega
  have HNX := hide hnx
  have HKK := hide hk
  clear h hbl hct hdat hb hnx hk
  have HCC := hide (tell_7 HPA.out bl ct dv HBL.out HC1.out)
  have hbox := Go.heap_alloc_new w (.cells #[.int .i64 7, .int .i64 bl, .int .i64 ct, dv] 43)
  have b0 : (w.alloc (.cells #[.int .i64 7, .int .i64 bl, .int .i64 ct, dv] 43)).cell? ⟨w.heap.size, 0, none⟩ = some (.int .i64 7) := by rw [cell_of_row _ _ _ _ _ _ hbox]; rfl
  have b1 : (w.alloc (.cells #[.int .i64 7, .int .i64 bl, .int .i64 ct, dv] 43)).cell? ⟨w.heap.size, 1, none⟩ = some (.int .i64 bl) := by rw [cell_of_row _ _ _ _ _ _ hbox]; rfl
  have b2 : (w.alloc (.cells #[.int .i64 7, .int .i64 bl, .int .i64 ct, dv] 43)).cell? ⟨w.heap.size, 2, none⟩ = some (.int .i64 ct) := by rw [cell_of_row _ _ _ _ _ _ hbox]; rfl
  have b3 : (w.alloc (.cells #[.int .i64 7, .int .i64 bl, .int .i64 ct, dv] 43)).cell? ⟨w.heap.size, 3, none⟩ = some dv := by rw [cell_of_row _ _ _ _ _ _ hbox]; rfl
  clear hbox
  go_enter Tryz.func9, Tryz.ntmps9
  go_wp2_with (go_at_call 20; refine HCC.out.mono ?_; rintro e w2 ⟨rfl, hP2⟩)
  go_ret
  exact ⟨rfl, _, _, hP2, by omega, by omega⟩
set_option maxHeartbeats 1000000 in
theorem step_12 {w0 w : World} {pp nx k : Nat} {S : St} (h : PAll w0 w pp S nx k) (bl ct : Int) (dv : Value) (dl : List Nat) (hbl : i64ok bl) (hct : i64ok ct) (hdat : Dat w0 dv dl) (hb : ∀ k, (S.cache k).length + 2 ≤ 268435456) (hnx : nx ≤ 1152921504606846976) (hk : k ≤ 1152921504606) :
    Calls Tryz.prog 9 #[.pointer (some ⟨pp, 0, none⟩), .agg #[.int .i64 12, .int .i64 bl, .int .i64 ct, dv]] w fun e w' => StepPost w0 pp S nx k e w' := by
  have HPA := hide (h.alloc (.cells #[.int .i64 12, .int .i64 bl, .int .i64 ct, dv] 43))
  have HBL := hide hbl
  have HCT := hide hct
  have HDA := hide hdat
  have HC2 := hide hb
  have HC1 : Hid (∀ k, (S.cache k).length + 1 ≤ 268435456) := hide fun k => by have := hb k; omega
  have HNX := hide hnx
  have HKK := hide hk
  clear h hbl hct hdat hb hnx hk
  have HCC := hide (tell_12 HPA.out bl ct dv HBL.out HC1.out)
  have hbox := Go.heap_alloc_new w (.cells #[.int .i64 12, .int .i64 bl, .int .i64 ct, dv] 43)
  have b0 : (w.alloc (.cells #[.int .i64 12, .int .i64 bl, .int .i64 ct, dv] 43)).cell? ⟨w.heap.size, 0, none⟩ = some (.int .i64 12) := by rw [cell_of_row _ _ _ _ _ _ hbox]; rfl
  have b1 : (w.alloc (.cells #[.int .i64 12, .int .i64 bl, .int .i64 ct, dv] 43)).cell? ⟨w.heap.size, 1, none⟩ = some (.int .i64 bl) := by rw [cell_of_row _ _ _ _ _ _ hbox]; rfl
  have b2 : (w.alloc (.cells #[.int .i64 12, .int .i64 bl, .int .i64 ct, dv] 43)).cell? ⟨w.heap.size, 2, none⟩ = some (.int .i64 ct) := by rw [cell_of_row _ _ _ _ _ _ hbox]; rfl
  have b3 : (w.alloc (.cells #[.int .i64 12, .int .i64 bl, .int .i64 ct, dv] 43)).cell? ⟨w.heap.size, 3, none⟩ = some dv := by rw [cell_of_row _ _ _ _ _ _ hbox]; rfl
  clear hbox
  go_enter Tryz.func9, Tryz.ntmps9
  go_wp2_with (go_at_call 20; refine HCC.out.mono ?_; rintro e w2 ⟨rfl, hP2⟩)
  go_ret
  exact ⟨rfl, _, _, hP2, by omega, by omega⟩
set_option maxHeartbeats 1000000 in
theorem step_14 {w0 w : World} {pp nx k : Nat} {S : St} (h : PAll w0 w pp S nx k) (bl ct : Int) (dv : Value) (dl : List Nat) (hbl : i64ok bl) (hct : i64ok ct) (hdat : Dat w0 dv dl) (hb : ∀ k, (S.cache k).length + 2 ≤ 268435456) (hnx : nx ≤ 1152921504606846976) (hk : k ≤ 1152921504606) :
    Calls Tryz.prog 9 #[.pointer (some ⟨pp, 0, none⟩), .agg #[.int .i64 14, .int .i64 bl, .int .i64 ct, dv]] w fun e w' => StepPost w0 pp S nx k e w' := by
  have HPA := hide (h.alloc (.cells #[.int .i64 14, .int .i64 bl, .int .i64 ct, dv] 43))
  have HBL := hide hbl
  have HCT := hide hct
  have HDA := hide hdat
  have HC2 := hide hb
  have HC1 : Hid (∀ k, (S.cache k).length + 1 ≤ 268435456) := hide fun k => by have := hb k; omega
  have HNX := hide hnx
  have HKK := hide hk
  clear h hbl hct hdat hb hnx hk
  have HCC := hide (tell_14 HPA.out bl ct dv HBL.out HC1.out)
  have hbox := Go.heap_alloc_new w (.cells #[.int .i64 14, .int .i64 bl, .int .i64 ct, dv] 43)
  have b0 : (w.alloc (.cells #[.int .i64 14, .int .i64 bl, .int .i64 ct, dv] 43)).cell? ⟨w.heap.size, 0, none⟩ = some (.int .i64 14) := by rw [cell_of_row _ _ _ _ _ _ hbox]; rfl
  have b1 : (w.alloc (.cells #[.int .i64 14, .int .i64 bl, .int .i64 ct, dv] 43)).cell? ⟨w.heap.size, 1, none⟩ = some (.int .i64 bl) := by rw [cell_of_row _ _ _ _ _ _ hbox]; rfl
  have b2 : (w.alloc (.cells #[.int .i64 14, .int .i64 bl, .int .i64 ct, dv] 43)).cell? ⟨w.heap.size, 2, none⟩ = some (.int .i64 ct) := by rw [cell_of_row _ _ _ _ _ _ hbox]; rfl
  have b3 : (w.alloc (.cells #[.int .i64 14, .int .i64 bl, .int .i64 ct, dv] 43)).cell? ⟨w.heap.size, 3, none⟩ = some dv := by rw [cell_of_row _ _ _ _ _ _ hbox]; rfl
  clear hbox
  go_enter Tryz.func9, Tryz.ntmps9
  go_wp2_with (go_at_call 20; refine HCC.out.mono ?_; rintro e w2 ⟨rfl, hP2⟩)
  go_ret
  exact ⟨rfl, _, _, hP2, by omega, by omega⟩
set_option maxHeartbeats 1000000 in
theorem step_15 {w0 w : World} {pp nx k : Nat} {S : St} (h : PAll w0 w pp S nx k) (bl ct : Int) (dv : Value) (dl : List Nat) (hbl : i64ok bl) (hct : i64ok ct) (hdat : Dat w0 dv dl) (hb : ∀ k, (S.cache k).length + 2 ≤ 268435456) (hnx : nx ≤ 1152921504606846976) (hk : k ≤ 1152921504606) :
    Calls Tryz.prog 9 #[.pointer (some ⟨pp, 0, none⟩), .agg #[.int .i64 15, .int .i64 bl, .int .i64 ct, dv]] w fun e w' => StepPost w0 pp S nx k e w' := by
  have HPA := hide (h.alloc (.cells #[.int .i64 15, .int .i64 bl, .int .i64 ct, dv] 43))
  have HBL := hide hbl
  have HCT := hide hct
  have HDA := hide hdat
  have HC2 := hide hb
  have HC1 : Hid (∀ k, (S.cache k).length + 1 ≤ 268435456) := hide fun k => by have := hb k; omega
  have HNX := hide hnx
  have HKK := hide hk
  clear h hbl hct hdat hb hnx hk
  have HCC := hide (tell_15 HPA.out bl ct dv HBL.out HC1.out)
  have hbox := Go.heap_alloc_new w (.cells #[.int .i64 15, .int .i64 bl, .int .i64 ct, dv] 43)
  have b0 : (w.alloc (.cells #[.int .i64 15, .int .i64 bl, .int .i64 ct, dv] 43)).cell? ⟨w.heap.size, 0, none⟩ = some (.int .i64 15) := by rw [cell_of_row _ _ _ _ _ _ hbox]; rfl
  have b1 : (w.alloc (.cells #[.int .i64 15, .int .i64 bl, .int .i64 ct, dv] 43)).cell? ⟨w.heap.size, 1, none⟩ = some (.int .i64 bl) := by rw [cell_of_row _ _ _ _ _ _ hbox]; rfl
  have b2 : (w.alloc (.cells #[.int .i64 15, .int .i64 bl, .int .i64 ct, dv] 43)).cell? ⟨w.heap.size, 2, none⟩ = some (.int .i64 ct) := by rw [cell_of_row _ _ _ _ _ _ hbox]; rfl
  have b3 : (w.alloc (.cells #[.int .i64 15, .int .i64 bl, .int .i64 ct, dv] 43)).cell? ⟨w.heap.size, 3, none⟩ = some dv := by rw [cell_of_row _ _ _ _ _ _ hbox]; rfl
  clear hbox
  go_enter Tryz.func9, Tryz.ntmps9
  go_wp2_with (go_at_call 20; refine HCC.out.mono ?_; rintro e w2 ⟨rfl, hP2⟩)
  go_ret
  exact ⟨rfl, _, _, hP2, by omega, by omega⟩
set_option maxHeartbeats 1000000 in
theorem step_2 {w0 w : World} {pp nx k : Nat} {S : St} (h : PAll w0 w pp S nx k) (bl ct : Int) (dv : Value) (dl : List Nat) (hbl : i64ok bl) (hct : i64ok ct) (hdat : Dat w0 dv dl) (hb : ∀ k, (S.cache k).length + 2 ≤ 268435456) (hnx : nx ≤ 1152921504606846976) (hk : k ≤ 1152921504606) :
    Calls Tryz.prog 9 #[.pointer (some ⟨pp, 0, none⟩), .agg #[.int .i64 2, .int .i64 bl, .int .i64 ct, dv]] w fun e w' => StepPost w0 pp (S.write bl dl) nx k e w' := by
  have HPA := hide (h.alloc (.cells #[.int .i64 2, .int .i64 bl, .int .i64 ct, dv] 43))
  have HBL := hide hbl
  have HCT := hide hct
  have HDA := hide hdat
  have HC2 := hide hb
  have HC1 : Hid (∀ k, (S.cache k).length + 1 ≤ 268435456) := hide fun k => by have := hb k; omega
  have HNX := hide hnx
  have HKK := hide hk
  clear h hbl hct hdat hb hnx hk
  have HCC := hide (lay_2 HPA.out bl ct dv dl HDA.out HC1.out HNX.out HKK.out)
  have hbox := Go.heap_alloc_new w (.cells #[.int .i64 2, .int .i64 bl, .int .i64 ct, dv] 43)
  have b0 : (w.alloc (.cells #[.int .i64 2, .int .i64 bl, .int .i64 ct, dv] 43)).cell? ⟨w.heap.size, 0, none⟩ = some (.int .i64 2) := by rw [cell_of_row _ _ _ _ _ _ hbox]; rfl
  have b1 : (w.alloc (.cells #[.int .i64 2, .int .i64 bl, .int .i64 ct, dv] 43)).cell? ⟨w.heap.size, 1, none⟩ = some (.int .i64 bl) := by rw [cell_of_row _ _ _ _ _ _ hbox]; rfl
  have b2 : (w.alloc (.cells #[.int .i64 2, .int .i64 bl, .int .i64 ct, dv] 43)).cell? ⟨w.heap.size, 2, none⟩ = some (.int .i64 ct) := by rw [cell_of_row _ _ _ _ _ _ hbox]; rfl
  have b3 : (w.alloc (.cells #[.int .i64 2, .int .i64 bl, .int .i64 ct, dv] 43)).cell? ⟨w.heap.size, 3, none⟩ = some dv := by rw [cell_of_row _ _ _ _ _ _ hbox]; rfl
  clear hbox
  go_enter Tryz.func9, Tryz.ntmps9
  go_wp2_with (go_at_call 21; refine HCC.out.mono ?_; rintro e w2 ⟨rfl, hP2⟩)
  go_ret
  exact ⟨rfl, _, _, hP2, by omega, by omega⟩
set_option maxHeartbeats 1000000 in
theorem step_3 {w0 w : World} {pp nx k : Nat} {S : St} (h : PAll w0 w pp S nx k) (bl ct : Int) (dv : Value) (dl : List Nat) (hbl : i64ok bl) (hct : i64ok ct) (hdat : Dat w0 dv dl) (hb : ∀ k, (S.cache k).length + 2 ≤ 268435456) (hnx : nx ≤ 1152921504606846976) (hk : k ≤ 1152921504606) :
    Calls Tryz.prog 9 #[.pointer (some ⟨pp, 0, none⟩), .agg #[.int .i64 3, .int .i64 bl, .int .i64 ct, dv]] w fun e w' => StepPost w0 pp (S.through bl dl) nx k e w' := by
  have HPA := hide (h.alloc (.cells #[.int .i64 3, .int .i64 bl, .int .i64 ct, dv] 43))
  have HBL := hide hbl
  have HCT := hide hct
  have HDA := hide hdat
  have HC2 := hide hb
  have HC1 : Hid (∀ k, (S.cache k).length + 1 ≤ 268435456) := hide fun k => by have := hb k; omega
  have HNX := hide hnx
  have HKK := hide hk
  clear h hbl hct hdat hb hnx hk
  have HCC := hide (lay_3 HPA.out bl ct dv dl HDA.out HC1.out HNX.out HKK.out)
  have hbox := Go.heap_alloc_new w (.cells #[.int .i64 3, .int .i64 bl, .int .i64 ct, dv] 43)
  have b0 : (w.alloc (.cells #[.int .i64 3, .int .i64 bl, .int .i64 ct, dv] 43)).cell? ⟨w.heap.size, 0, none⟩ = some (.int .i64 3) := by rw [cell_of_row _ _ _ _ _ _ hbox]; rfl
  have b1 : (w.alloc (.cells #[.int .i64 3, .int .i64 bl, .int .i64 ct, dv] 43)).cell? ⟨w.heap.size, 1, none⟩ = some (.int .i64 bl) := by rw [cell_of_row _ _ _ _ _ _ hbox]; rfl
  have b2 : (w.alloc (.cells #[.int .i64 3, .int .i64 bl, .int .i64 ct, dv] 43)).cell? ⟨w.heap.size, 2, none⟩ = some (.int .i64 ct) := by rw [cell_of_row _ _ _ _ _ _ hbox]; rfl
  have b3 : (w.alloc (.cells #[.int .i64 3, .int .i64 bl, .int .i64 ct, dv] 43)).cell? ⟨w.heap.size, 3, none⟩ = some dv := by rw [cell_of_row _ _ _ _ _ _ hbox]; rfl
  clear hbox
  go_enter Tryz.func9, Tryz.ntmps9
  go_wp2_with (go_at_call 21; refine HCC.out.mono ?_; rintro e w2 ⟨rfl, hP2⟩)
  go_ret
  exact ⟨rfl, _, _, hP2, by omega, by omega⟩
set_option maxHeartbeats 1000000 in
theorem step_4 {w0 w : World} {pp nx k : Nat} {S : St} (h : PAll w0 w pp S nx k) (bl ct : Int) (dv : Value) (dl : List Nat) (hbl : i64ok bl) (hct : i64ok ct) (hdat : Dat w0 dv dl) (hb : ∀ k, (S.cache k).length + 2 ≤ 268435456) (hnx : nx ≤ 1152921504606846976) (hk : k ≤ 1152921504606) :
    Calls Tryz.prog 9 #[.pointer (some ⟨pp, 0, none⟩), .agg #[.int .i64 4, .int .i64 bl, .int .i64 ct, dv]] w fun e w' => StepPost w0 pp (S.zero bl ct).1 nx k e w' := by
  have HPA := hide (h.alloc (.cells #[.int .i64 4, .int .i64 bl, .int .i64 ct, dv] 43))
  have HBL := hide hbl
  have HCT := hide hct
  have HDA := hide hdat
  have HC2 := hide hb
  have HC1 : Hid (∀ k, (S.cache k).length + 1 ≤ 268435456) := hide fun k => by have := hb k; omega
  have HNX := hide hnx
  have HKK := hide hk
  clear h hbl hct hdat hb hnx hk
  have HCC := hide (act_4 HPA.out bl ct dv HBL.out HCT.out HC2.out)
  have hbox := Go.heap_alloc_new w (.cells #[.int .i64 4, .int .i64 bl, .int .i64 ct, dv] 43)
  have b0 : (w.alloc (.cells #[.int .i64 4, .int .i64 bl, .int .i64 ct, dv] 43)).cell? ⟨w.heap.size, 0, none⟩ = some (.int .i64 4) := by rw [cell_of_row _ _ _ _ _ _ hbox]; rfl
  have b1 : (w.alloc (.cells #[.int .i64 4, .int .i64 bl, .int .i64 ct, dv] 43)).cell? ⟨w.heap.size, 1, none⟩ = some (.int .i64 bl) := by rw [cell_of_row _ _ _ _ _ _ hbox]; rfl
  have b2 : (w.alloc (.cells #[.int .i64 4, .int .i64 bl, .int .i64 ct, dv] 43)).cell? ⟨w.heap.size, 2, none⟩ = some (.int .i64 ct) := by rw [cell_of_row _ _ _ _ _ _ hbox]; rfl
  have b3 : (w.alloc (.cells #[.int .i64 4, .int .i64 bl, .int .i64 ct, dv] 43)).cell? ⟨w.heap.size, 3, none⟩ = some dv := by rw [cell_of_row _ _ _ _ _ _ hbox]; rfl
  clear hbox
  go_enter Tryz.func9, Tryz.ntmps9
  go_wp2_with (go_at_call 22; refine HCC.out.mono ?_; rintro e w2 ⟨rfl, hP2⟩)
  go_ret
  exact ⟨rfl, _, _, hP2, by omega, by omega⟩
set_option maxHeartbeats 1000000 in
theorem step_5 {w0 w : World} {pp nx k : Nat} {S : St} (h : PAll w0 w pp S nx k) (bl ct : Int) (dv : Value) (dl : List Nat) (hbl : i64ok bl) (hct : i64ok ct) (hdat : Dat w0 dv dl) (hb : ∀ k, (S.cache k).length + 2 ≤ 268435456) (hnx : nx ≤ 1152921504606846976) (hk : k ≤ 1152921504606) :
    Calls Tryz.prog 9 #[.pointer (some ⟨pp, 0, none⟩), .agg #[.int .i64 5, .int .i64 bl, .int .i64 ct, dv]] w fun e w' => StepPost w0 pp S.flush nx k e w' := by
  have HPA := hide (h.alloc (.cells #[.int .i64 5, .int .i64 bl, .int .i64 ct, dv] 43))
  have HBL := hide hbl
  have HCT := hide hct
  have HDA := hide hdat
  have HC2 := hide hb
  have HC1 : Hid (∀ k, (S.cache k).length + 1 ≤ 268435456) := hide fun k => by have := hb k; omega
  have HNX := hide hnx
  have HKK := hide hk
  clear h hbl hct hdat hb hnx hk
  have HCC := hide (act_5 HPA.out bl ct dv HC1.out)
  have hbox := Go.heap_alloc_new w (.cells #[.int .i64 5, .int .i64 bl, .int .i64 ct, dv] 43)
  have b0 : (w.alloc (.cells #[.int .i64 5, .int .i64 bl, .int .i64 ct, dv] 43)).cell? ⟨w.heap.size, 0, none⟩ = some (.int .i64 5) := by rw [cell_of_row _ _ _ _ _ _ hbox]; rfl
  have b1 : (w.alloc (.cells #[.int .i64 5, .int .i64 bl, .int .i64 ct, dv] 43)).cell? ⟨w.heap.size, 1, none⟩ = some (.int .i64 bl) := by rw [cell_of_row _ _ _ _ _ _ hbox]; rfl
  have b2 : (w.alloc (.cells #[.int .i64 5, .int .i64 bl, .int .i64 ct, dv] 43)).cell? ⟨w.heap.size, 2, none⟩ = some (.int .i64 ct) := by rw [cell_of_row _ _ _ _ _ _ hbox]; rfl
  have b3 : (w.alloc (.cells #[.int .i64 5, .int .i64 bl, .int .i64 ct, dv] 43)).cell? ⟨w.heap.size, 3, none⟩ = some dv := by rw [cell_of_row _ _ _ _ _ _ hbox]; rfl
  clear hbox
  go_enter Tryz.func9, Tryz.ntmps9
  go_wp2_with (go_at_call 22; refine HCC.out.mono ?_; rintro e w2 ⟨rfl, hP2⟩)
  go_ret
  exact ⟨rfl, _, _, hP2, by omega, by omega⟩
set_option maxHeartbeats 1000000 in
theorem step_10 {w0 w : World} {pp nx k : Nat} {S : St} (h : PAll w0 w pp S nx k) (bl ct : Int) (dv : Value) (dl : List Nat) (hbl : i64ok bl) (hct : i64ok ct) (hdat : Dat w0 dv dl) (hb : ∀ k, (S.cache k).length + 2 ≤ 268435456) (hnx : nx ≤ 1152921504606846976) (hk : k ≤ 1152921504606) :
    Calls Tryz.prog 9 #[.pointer (some ⟨pp, 0, none⟩), .agg #[.int .i64 10, .int .i64 bl, .int .i64 ct, dv]] w fun e w' => StepPost w0 pp (S.spoil bl) nx k e w' := by
  have HPA := hide (h.alloc (.cells #[.int .i64 10, .int .i64 bl, .int .i64 ct, dv] 43))
  have HBL := hide hbl
  have HCT := hide hct
  have HDA := hide hdat
  have HC2 := hide hb
  have HC1 : Hid (∀ k, (S.cache k).length + 1 ≤ 268435456) := hide fun k => by have := hb k; omega
  have HNX := hide hnx
  have HKK := hide hk
  clear h hbl hct hdat hb hnx hk
  have HCC := hide (act_10 HPA.out bl ct dv HBL.out HCT.out HC2.out)
  have hbox := Go.heap_alloc_new w (.cells #[.int .i64 10, .int .i64 bl, .int .i64 ct, dv] 43)
  have b0 : (w.alloc (.cells #[.int .i64 10, .int .i64 bl, .int .i64 ct, dv] 43)).cell? ⟨w.heap.size, 0, none⟩ = some (.int .i64 10) := by rw [cell_of_row _ _ _ _ _ _ hbox]; rfl
  have b1 : (w.alloc (.cells #[.int .i64 10, .int .i64 bl, .int .i64 ct, dv] 43)).cell? ⟨w.heap.size, 1, none⟩ = some (.int .i64 bl) := by rw [cell_of_row _ _ _ _ _ _ hbox]; rfl
  have b2 : (w.alloc (.cells #[.int .i64 10, .int .i64 bl, .int .i64 ct, dv] 43)).cell? ⟨w.heap.size, 2, none⟩ = some (.int .i64 ct) := by rw [cell_of_row _ _ _ _ _ _ hbox]; rfl
  have b3 : (w.alloc (.cells #[.int .i64 10, .int .i64 bl, .int .i64 ct, dv] 43)).cell? ⟨w.heap.size, 3, none⟩ = some dv := by rw [cell_of_row _ _ _ _ _ _ hbox]; rfl
  clear hbox
  go_enter Tryz.func9, Tryz.ntmps9
  go_wp2_with (go_at_call 22; refine HCC.out.mono ?_; rintro e w2 ⟨rfl, hP2⟩)
  go_ret
  exact ⟨rfl, _, _, hP2, by omega, by omega⟩
set_option maxHeartbeats 1000000 in
theorem step_11 {w0 w : World} {pp nx k : Nat} {S : St} (h : PAll w0 w pp S nx k) (bl ct : Int) (dv : Value) (dl : List Nat) (hbl : i64ok bl) (hct : i64ok ct) (hdat : Dat w0 dv dl) (hb : ∀ k, (S.cache k).length + 2 ≤ 268435456) (hnx : nx ≤ 1152921504606846976) (hk : k ≤ 1152921504606) :
    Calls Tryz.prog 9 #[.pointer (some ⟨pp, 0, none⟩), .agg #[.int .i64 11, .int .i64 bl, .int .i64 ct, dv]] w fun e w' => StepPost w0 pp (S.fused ct) nx k e w' := by
  have HPA := hide (h.alloc (.cells #[.int .i64 11, .int .i64 bl, .int .i64 ct, dv] 43))
  have HBL := hide hbl
  have HCT := hide hct
  have HDA := hide hdat
  have HC2 := hide hb
  have HC1 : Hid (∀ k, (S.cache k).length + 1 ≤ 268435456) := hide fun k => by have := hb k; omega
  have HNX := hide hnx
  have HKK := hide hk
  clear h hbl hct hdat hb hnx hk
  have HCC := hide (act_11 HPA.out bl ct dv HCT.out)
  have hbox := Go.heap_alloc_new w (.cells #[.int .i64 11, .int .i64 bl, .int .i64 ct, dv] 43)
  have b0 : (w.alloc (.cells #[.int .i64 11, .int .i64 bl, .int .i64 ct, dv] 43)).cell? ⟨w.heap.size, 0, none⟩ = some (.int .i64 11) := by rw [cell_of_row _ _ _ _ _ _ hbox]; rfl
  have b1 : (w.alloc (.cells #[.int .i64 11, .int .i64 bl, .int .i64 ct, dv] 43)).cell? ⟨w.heap.size, 1, none⟩ = some (.int .i64 bl) := by rw [cell_of_row _ _ _ _ _ _ hbox]; rfl
  have b2 : (w.alloc (.cells #[.int .i64 11, .int .i64 bl, .int .i64 ct, dv] 43)).cell? ⟨w.heap.size, 2, none⟩ = some (.int .i64 ct) := by rw [cell_of_row _ _ _ _ _ _ hbox]; rfl
  have b3 : (w.alloc (.cells #[.int .i64 11, .int .i64 bl, .int .i64 ct, dv] 43)).cell? ⟨w.heap.size, 3, none⟩ = some dv := by rw [cell_of_row _ _ _ _ _ _ hbox]; rfl
  clear hbox
  go_enter Tryz.func9, Tryz.ntmps9
  go_wp2_with (go_at_call 22; refine HCC.out.mono ?_; rintro e w2 ⟨rfl, hP2⟩)
  go_ret
  exact ⟨rfl, _, _, hP2, by omega, by omega⟩
set_option maxHeartbeats 1000000 in
theorem step_13 {w0 w : World} {pp nx k : Nat} {S : St} (h : PAll w0 w pp S nx k) (bl ct : Int) (dv : Value) (dl : List Nat) (hbl : i64ok bl) (hct : i64ok ct) (hdat : Dat w0 dv dl) (hb : ∀ k, (S.cache k).length + 2 ≤ 268435456) (hnx : nx ≤ 1152921504606846976) (hk : k ≤ 1152921504606) :
    Calls Tryz.prog 9 #[.pointer (some ⟨pp, 0, none⟩), .agg #[.int .i64 13, .int .i64 bl, .int .i64 ct, dv]] w fun e w' => StepPost w0 pp (S.crash dl) nx k e w' := by
  have HPA := hide (h.alloc (.cells #[.int .i64 13, .int .i64 bl, .int .i64 ct, dv] 43))
  have HBL := hide hbl
  have HCT := hide hct
  have HDA := hide hdat
  have HC2 := hide hb
  have HC1 : Hid (∀ k, (S.cache k).length + 1 ≤ 268435456) := hide fun k => by have := hb k; omega
  have HNX := hide hnx
  have HKK := hide hk
  clear h hbl hct hdat hb hnx hk
  have HCC := hide (act_13 HPA.out bl ct dv dl HDA.out HC1.out HNX.out HKK.out)
  have hbox := Go.heap_alloc_new w (.cells #[.int .i64 13, .int .i64 bl, .int .i64 ct, dv] 43)
  have b0 : (w.alloc (.cells #[.int .i64 13, .int .i64 bl, .int .i64 ct, dv] 43)).cell? ⟨w.heap.size, 0, none⟩ = some (.int .i64 13) := by rw [cell_of_row _ _ _ _ _ _ hbox]; rfl
  have b1 : (w.alloc (.cells #[.int .i64 13, .int .i64 bl, .int .i64 ct, dv] 43)).cell? ⟨w.heap.size, 1, none⟩ = some (.int .i64 bl) := by rw [cell_of_row _ _ _ _ _ _ hbox]; rfl
  have b2 : (w.alloc (.cells #[.int .i64 13, .int .i64 bl, .int .i64 ct, dv] 43)).cell? ⟨w.heap.size, 2, none⟩ = some (.int .i64 ct) := by rw [cell_of_row _ _ _ _ _ _ hbox]; rfl
  have b3 : (w.alloc (.cells #[.int .i64 13, .int .i64 bl, .int .i64 ct, dv] 43)).cell? ⟨w.heap.size, 3, none⟩ = some dv := by rw [cell_of_row _ _ _ _ _ _ hbox]; rfl
  clear hbox
  go_enter Tryz.func9, Tryz.ntmps9
  go_wp2_with (go_at_call 22; refine HCC.out.mono ?_; rintro e w2 ⟨rfl, hP2⟩)
  go_ret
  exact ⟨rfl, _, _, hP2, by omega, by omega⟩
set_option maxHeartbeats 1000000 in
theorem step_no {w0 w : World} {pp nx k : Nat} {S : St} (h : PAll w0 w pp S nx k) (kd bl ct : Int) (dv : Value) (hn : ∀ n : Nat, 1 ≤ n → n ≤ 15 → kd ≠ (n : Int)) :
    Calls Tryz.prog 9 #[.pointer (some ⟨pp, 0, none⟩), .agg #[.int .i64 kd, .int .i64 bl, .int .i64 ct, dv]] w fun e w' => StepPost w0 pp S nx k e w' := by
  have HPA := hide (h.alloc (.cells #[.int .i64 kd, .int .i64 bl, .int .i64 ct, dv] 43))
  clear h
  have HCC := hide (act_no HPA.out kd bl ct dv (hn 4 (by omega) (by omega)) (hn 5 (by omega) (by omega)) (hn 10 (by omega) (by omega)) (hn 11 (by omega) (by omega)) (hn 13 (by omega) (by omega)))
  have n1 : ¬ kd = 1 := hn 1 (by omega) (by omega)
  have n2 : ¬ kd = 2 := hn 2 (by omega) (by omega)
  have n3 : ¬ kd = 3 := hn 3 (by omega) (by omega)
  have n6 : ¬ kd = 6 := hn 6 (by omega) (by omega)
  have n7 : ¬ kd = 7 := hn 7 (by omega) (by omega)
  have n8 : ¬ kd = 8 := hn 8 (by omega) (by omega)
  have n9 : ¬ kd = 9 := hn 9 (by omega) (by omega)
  have n12 : ¬ kd = 12 := hn 12 (by omega) (by omega)
  have n14 : ¬ kd = 14 := hn 14 (by omega) (by omega)
  have n15 : ¬ kd = 15 := hn 15 (by omega) (by omega)
  have hbox := Go.heap_alloc_new w (.cells #[.int .i64 kd, .int .i64 bl, .int .i64 ct, dv] 43)
  have b0 : (w.alloc (.cells #[.int .i64 kd, .int .i64 bl, .int .i64 ct, dv] 43)).cell? ⟨w.heap.size, 0, none⟩ = some (.int .i64 kd) := by rw [cell_of_row _ _ _ _ _ _ hbox]; rfl
  have b1 : (w.alloc (.cells #[.int .i64 kd, .int .i64 bl, .int .i64 ct, dv] 43)).cell? ⟨w.heap.size, 1, none⟩ = some (.int .i64 bl) := by rw [cell_of_row _ _ _ _ _ _ hbox]; rfl
  have b2 : (w.alloc (.cells #[.int .i64 kd, .int .i64 bl, .int .i64 ct, dv] 43)).cell? ⟨w.heap.size, 2, none⟩ = some (.int .i64 ct) := by rw [cell_of_row _ _ _ _ _ _ hbox]; rfl
  have b3 : (w.alloc (.cells #[.int .i64 kd, .int .i64 bl, .int .i64 ct, dv] 43)).cell? ⟨w.heap.size, 3, none⟩ = some dv := by rw [cell_of_row _ _ _ _ _ _ hbox]; rfl
  clear hbox hn
  go_enter Tryz.func9, Tryz.ntmps9
  go_wp2_with (go_at_call 22; refine HCC.out.mono ?_; rintro e w2 ⟨rfl, hP2⟩)
  go_ret
  exact ⟨rfl, _, _, hP2, by omega, by omega⟩
end Go.Proofs.YtlpmpicmpklaoacGreat
