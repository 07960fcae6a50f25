import Derived.Test.YtkjaaknlhmneoabDoorMtNew0
namespace Go.Proofs.YtkjaaknlhmneoabDoor
open Go.RowKit Go.Lib
set_option linter.unusedVariables false
set_option linter.unusedSimpArgs false
set_option maxRecDepth 20000

set_option maxHeartbeats 2000000 in
theorem newer_main (w : World) (a b : Sup) (hwa : a.Wf) (hwb : b.Wf) (jv : Value) (J : List Nat) (hj : BSl w jv J) (hT : Tabs w) (ho : a.ok = true) (hb : b.ok = true) (hq : a.seq < b.seq) : Calls Tryd.prog 4 #[a.val, b.val, jv] w fun e w' => e = .returned (.bool true) ∧ Below w.heap.size w w' := by
  have HX := hide (Bx2.start w a b)
  have HLA := hide fun x => lawful_any x a hwa
  have HLB := hide fun x => lawful_any x b hwb
  rw [ho] at HLA
  rw [hb] at HLB
  have HJ := hide hj
  have HT := hide hT
  have HSA := hide fun x hx => seal_yes x a hwa ho hx
  have HSB := hide fun x hx => seal_yes x b hwb hb hx
  have HUA := hide (uns_enc (s := a) ⟨ho, hwa⟩)
  have HUB := hide (uns_enc (s := b) ⟨hb, hwb⟩)
  have HEA := hide (Sup.enc_len (s := a) ⟨ho, hwa⟩)
  have HEB := hide (Sup.enc_len (s := b) ⟨hb, hwb⟩)
  have HQ := hide hq
  clear hwa hwb ho hb hT hj
  unfold SealPost at HSA HSB
  generalize a.size.toNat = na at *
  generalize b.size.toNat = nb at *
  unfold Sup.val Sup.row at *
  have hq' : ¬ b.seq ≤ a.seq := by omega
  go_enter Tryd.func4, Tryd.ntmps4
  go_wp2_with (first
    | (go_at_call 9; first
        | (with_reducible refine (HLA.out _).mono ?_; rintro e w2 ⟨rfl, hb2⟩; have HX2 : Hid (Bx2 w w2 a b) := hide (HX.out.below hb2); clear hb2; have x0 : w2.cell? ⟨w.heap.size + 1, 0, none⟩ = some (.int .u64 (b.seq : Int)) := cell_of_row _ _ _ _ _ _ HX2.out.rb; have x1 : w2.cell? ⟨w.heap.size + 1, 1, none⟩ = some (.int .i64 b.blocks) := cell_of_row _ _ _ _ _ _ HX2.out.rb; have x2 : w2.cell? ⟨w.heap.size + 1, 2, none⟩ = some (.int .i64 b.size) := cell_of_row _ _ _ _ _ _ HX2.out.rb; have x3 : w2.cell? ⟨w.heap.size + 1, 3, none⟩ = some (.int .i64 b.slots) := cell_of_row _ _ _ _ _ _ HX2.out.rb; have x4 : w2.cell? ⟨w.heap.size + 1, 4, none⟩ = some (.int .u64 (b.g0 : Int)) := cell_of_row _ _ _ _ _ _ HX2.out.rb; have x5 : w2.cell? ⟨w.heap.size + 1, 5, none⟩ = some (.int .u64 (b.g1 : Int)) := cell_of_row _ _ _ _ _ _ HX2.out.rb; have x6 : w2.cell? ⟨w.heap.size + 1, 6, none⟩ = some (.int .u64 (b.g2 : Int)) := cell_of_row _ _ _ _ _ _ HX2.out.rb; have x7 : w2.cell? ⟨w.heap.size + 1, 7, none⟩ = some (.int .u64 (b.g3 : Int)) := cell_of_row _ _ _ _ _ _ HX2.out.rb; have x8 : w2.cell? ⟨w.heap.size + 1, 8, none⟩ = some (.int .u32 (b.flags : Int)) := cell_of_row _ _ _ _ _ _ HX2.out.rb; have x9 : w2.cell? ⟨w.heap.size + 1, 9, none⟩ = some (.int .i64 b.mark) := cell_of_row _ _ _ _ _ _ HX2.out.rb)
        | (with_reducible refine (HLB.out _).mono ?_; rintro e w3 ⟨rfl, hb3⟩; have HX3 : Hid (Bx2 w w3 a b) := hide (HX2.out.below hb3); clear hb3; have y0 : w3.cell? ⟨w.heap.size, 0, none⟩ = some (.int .u64 (a.seq : Int)) := cell_of_row _ _ _ _ _ _ HX3.out.ra; have z0 : w3.cell? ⟨w.heap.size + 1, 0, none⟩ = some (.int .u64 (b.seq : Int)) := cell_of_row _ _ _ _ _ _ HX3.out.rb; have u0 : w3.cell? ⟨w.heap.size, 0, none⟩ = some (.int .u64 (a.seq : Int)) := cell_of_row _ _ _ _ _ _ HX3.out.ra; have u1 : w3.cell? ⟨w.heap.size, 1, none⟩ = some (.int .i64 a.blocks) := cell_of_row _ _ _ _ _ _ HX3.out.ra; have u2 : w3.cell? ⟨w.heap.size, 2, none⟩ = some (.int .i64 a.size) := cell_of_row _ _ _ _ _ _ HX3.out.ra; have u3 : w3.cell? ⟨w.heap.size, 3, none⟩ = some (.int .i64 a.slots) := cell_of_row _ _ _ _ _ _ HX3.out.ra; have u4 : w3.cell? ⟨w.heap.size, 4, none⟩ = some (.int .u64 (a.g0 : Int)) := cell_of_row _ _ _ _ _ _ HX3.out.ra; have u5 : w3.cell? ⟨w.heap.size, 5, none⟩ = some (.int .u64 (a.g1 : Int)) := cell_of_row _ _ _ _ _ _ HX3.out.ra; have u6 : w3.cell? ⟨w.heap.size, 6, none⟩ = some (.int .u64 (a.g2 : Int)) := cell_of_row _ _ _ _ _ _ HX3.out.ra; have u7 : w3.cell? ⟨w.heap.size, 7, none⟩ = some (.int .u64 (a.g3 : Int)) := cell_of_row _ _ _ _ _ _ HX3.out.ra; have u8 : w3.cell? ⟨w.heap.size, 8, none⟩ = some (.int .u32 (a.flags : Int)) := cell_of_row _ _ _ _ _ _ HX3.out.ra; have u9 : w3.cell? ⟨w.heap.size, 9, none⟩ = some (.int .i64 a.mark) := cell_of_row _ _ _ _ _ _ HX3.out.ra; have v0 : w3.cell? ⟨w.heap.size + 1, 0, none⟩ = some (.int .u64 (b.seq : Int)) := cell_of_row _ _ _ _ _ _ HX3.out.rb; have v1 : w3.cell? ⟨w.heap.size + 1, 1, none⟩ = some (.int .i64 b.blocks) := cell_of_row _ _ _ _ _ _ HX3.out.rb; have v2 : w3.cell? ⟨w.heap.size + 1, 2, none⟩ = some (.int .i64 b.size) := cell_of_row _ _ _ _ _ _ HX3.out.rb; have v3 : w3.cell? ⟨w.heap.size + 1, 3, none⟩ = some (.int .i64 b.slots) := cell_of_row _ _ _ _ _ _ HX3.out.rb; have v4 : w3.cell? ⟨w.heap.size + 1, 4, none⟩ = some (.int .u64 (b.g0 : Int)) := cell_of_row _ _ _ _ _ _ HX3.out.rb; have v5 : w3.cell? ⟨w.heap.size + 1, 5, none⟩ = some (.int .u64 (b.g1 : Int)) := cell_of_row _ _ _ _ _ _ HX3.out.rb; have v6 : w3.cell? ⟨w.heap.size + 1, 6, none⟩ = some (.int .u64 (b.g2 : Int)) := cell_of_row _ _ _ _ _ _ HX3.out.rb; have v7 : w3.cell? ⟨w.heap.size + 1, 7, none⟩ = some (.int .u64 (b.g3 : Int)) := cell_of_row _ _ _ _ _ _ HX3.out.rb; have v8 : w3.cell? ⟨w.heap.size + 1, 8, none⟩ = some (.int .u32 (b.flags : Int)) := cell_of_row _ _ _ _ _ _ HX3.out.rb; have v9 : w3.cell? ⟨w.heap.size + 1, 9, none⟩ = some (.int .i64 b.mark) := cell_of_row _ _ _ _ _ _ HX3.out.rb))
    | (go_at_call 8; first
        | ((with_reducible refine (HSA.out _ (HT.out.below HX3.out.bel)).mono ?_); rintro e w4 ⟨ga, rfl, hr4, hb4⟩; have HX4 : Hid (Bx2 w w4 a b) := hide (HX3.out.below hb4); have HK4 : Hid (BSl w4 (.slice (some ⟨ga, 0, none⟩) na na) a.enc) := hide (by have hx := hr4.own.bsl; rw [HEA.out] at hx; exact hx); unfold gsl; clear hr4 hb4; have r0 : w4.cell? ⟨w.heap.size + 1, 0, none⟩ = some (.int .u64 (b.seq : Int)) := cell_of_row _ _ _ _ _ _ HX4.out.rb; have r1 : w4.cell? ⟨w.heap.size + 1, 1, none⟩ = some (.int .i64 b.blocks) := cell_of_row _ _ _ _ _ _ HX4.out.rb; have r2 : w4.cell? ⟨w.heap.size + 1, 2, none⟩ = some (.int .i64 b.size) := cell_of_row _ _ _ _ _ _ HX4.out.rb; have r3 : w4.cell? ⟨w.heap.size + 1, 3, none⟩ = some (.int .i64 b.slots) := cell_of_row _ _ _ _ _ _ HX4.out.rb; have r4 : w4.cell? ⟨w.heap.size + 1, 4, none⟩ = some (.int .u64 (b.g0 : Int)) := cell_of_row _ _ _ _ _ _ HX4.out.rb; have r5 : w4.cell? ⟨w.heap.size + 1, 5, none⟩ = some (.int .u64 (b.g1 : Int)) := cell_of_row _ _ _ _ _ _ HX4.out.rb; have r6 : w4.cell? ⟨w.heap.size + 1, 6, none⟩ = some (.int .u64 (b.g2 : Int)) := cell_of_row _ _ _ _ _ _ HX4.out.rb; have r7 : w4.cell? ⟨w.heap.size + 1, 7, none⟩ = some (.int .u64 (b.g3 : Int)) := cell_of_row _ _ _ _ _ _ HX4.out.rb; have r8 : w4.cell? ⟨w.heap.size + 1, 8, none⟩ = some (.int .u32 (b.flags : Int)) := cell_of_row _ _ _ _ _ _ HX4.out.rb; have r9 : w4.cell? ⟨w.heap.size + 1, 9, none⟩ = some (.int .i64 b.mark) := cell_of_row _ _ _ _ _ _ HX4.out.rb)
        | ((with_reducible refine (HSB.out _ (HT.out.below HX4.out.bel)).mono ?_); rintro e w5 ⟨gb, rfl, hr5, hb5⟩; have HX5 : Hid (Bx2 w w5 a b) := hide (HX4.out.below hb5); have HL5 : Hid (BSl w5 (.slice (some ⟨gb, 0, none⟩) nb nb) b.enc) := hide (by have hx := hr5.own.bsl; rw [HEB.out] at hx; exact hx); have HK5 := hide (HK4.out.below hb5); unfold gsl; clear hr5 hb5)))
  clear x0 x1 x2 x3 x4 x5 x6 x7 x8 x9 u0 u1 u2 u3 u4 u5 u6 u7 u8 u9 v0 v1 v2 v3 v4 v5 v6 v7 v8 v9 r0 r1 r2 r3 r4 r5 r6 r7 r8 r9 y0 z0
  have HT5 := hide (HT.out.below HX5.out.bel)
  have HJ5 := hide (HJ.out.below HX5.out.bel)
  have ha5 : w.heap.size < w5.heap.size := (Array.getElem?_eq_some_iff.1 HX5.out.ra).1
  have hb5 : w.heap.size + 1 < w5.heap.size := (Array.getElem?_eq_some_iff.1 HX5.out.rb).1
  refine (cho_D w5 _ _ a.enc b.enc HK5.out HL5.out HT5.out a b 0 0 HUA.out HUB.out rfl rfl HQ.out).mono ?_
  rintro e w6 ⟨rfl, hb6⟩
  have HY6 : Hid (Below w5.heap.size w5 (w6.alloc (.cells b.row 27))) := hide (hb6.alloc hb6.size _)
  have hs6 := hb6.size
  clear hb6
  unfold Sup.row at HY6
  dsimp only [Sup.val, Sup.row]
  go_wp2_with fail
  refine (cho_E _ _ _ b.enc a.enc (HL5.out.below HY6.out) (HK5.out.below HY6.out) (HT5.out.below HY6.out) b a 0 0 HUB.out HUA.out rfl rfl HQ.out).mono ?_
  rintro e w7 ⟨rfl, hb7⟩
  have hs7 := hb7.size
  rw [World.size_alloc] at hs7
  have HY7 : Hid (∀ o, Below w5.heap.size w5 (w7.alloc o)) := hide fun o => (HY6.out.trans (hb7.mono (by rw [World.size_alloc]; omega))).alloc (by omega) o
  have HS7 : Hid (∀ o, (w7.alloc o).heap[w6.heap.size]? = some (.cells b.row 27 (0, 0))) := hide fun o => by
    rw [Below.heap_alloc _ _ _ (by omega)]
    exact (hb7.block _ (by simp)).trans (Go.heap_alloc_new _ _)
  have HB7 : Hid (∀ o, (w7.alloc o).heap[w.heap.size + 1]? = some (.cells b.row 27 (0, 0))) := hide fun o => ((HY7.out o).block _ hb5).trans HX5.out.rb
  clear hb7
  have x0 : ∀ o, (w7.alloc o).cell? ⟨w6.heap.size, 0, none⟩ = some (.int .u64 (b.seq : Int)) := fun o => cell_of_row _ _ _ _ _ _ (HS7.out o)
  have x1 : ∀ o, (w7.alloc o).cell? ⟨w6.heap.size, 1, none⟩ = some (.int .i64 b.blocks) := fun o => cell_of_row _ _ _ _ _ _ (HS7.out o)
  have x2 : ∀ o, (w7.alloc o).cell? ⟨w6.heap.size, 2, none⟩ = some (.int .i64 b.size) := fun o => cell_of_row _ _ _ _ _ _ (HS7.out o)
  have x3 : ∀ o, (w7.alloc o).cell? ⟨w6.heap.size, 3, none⟩ = some (.int .i64 b.slots) := fun o => cell_of_row _ _ _ _ _ _ (HS7.out o)
  have x4 : ∀ o, (w7.alloc o).cell? ⟨w6.heap.size, 4, none⟩ = some (.int .u64 (b.g0 : Int)) := fun o => cell_of_row _ _ _ _ _ _ (HS7.out o)
  have x5 : ∀ o, (w7.alloc o).cell? ⟨w6.heap.size, 5, none⟩ = some (.int .u64 (b.g1 : Int)) := fun o => cell_of_row _ _ _ _ _ _ (HS7.out o)
  have x6 : ∀ o, (w7.alloc o).cell? ⟨w6.heap.size, 6, none⟩ = some (.int .u64 (b.g2 : Int)) := fun o => cell_of_row _ _ _ _ _ _ (HS7.out o)
  have x7 : ∀ o, (w7.alloc o).cell? ⟨w6.heap.size, 7, none⟩ = some (.int .u64 (b.g3 : Int)) := fun o => cell_of_row _ _ _ _ _ _ (HS7.out o)
  have x8 : ∀ o, (w7.alloc o).cell? ⟨w6.heap.size, 8, none⟩ = some (.int .u32 (b.flags : Int)) := fun o => cell_of_row _ _ _ _ _ _ (HS7.out o)
  have x9 : ∀ o, (w7.alloc o).cell? ⟨w6.heap.size, 9, none⟩ = some (.int .i64 b.mark) := fun o => cell_of_row _ _ _ _ _ _ (HS7.out o)
  have u0 : ∀ o, (w7.alloc o).cell? ⟨w.heap.size + 1, 0, none⟩ = some (.int .u64 (b.seq : Int)) := fun o => cell_of_row _ _ _ _ _ _ (HB7.out o)
  have u1 : ∀ o, (w7.alloc o).cell? ⟨w.heap.size + 1, 1, none⟩ = some (.int .i64 b.blocks) := fun o => cell_of_row _ _ _ _ _ _ (HB7.out o)
  have u2 : ∀ o, (w7.alloc o).cell? ⟨w.heap.size + 1, 2, none⟩ = some (.int .i64 b.size) := fun o => cell_of_row _ _ _ _ _ _ (HB7.out o)
  have u3 : ∀ o, (w7.alloc o).cell? ⟨w.heap.size + 1, 3, none⟩ = some (.int .i64 b.slots) := fun o => cell_of_row _ _ _ _ _ _ (HB7.out o)
  have u4 : ∀ o, (w7.alloc o).cell? ⟨w.heap.size + 1, 4, none⟩ = some (.int .u64 (b.g0 : Int)) := fun o => cell_of_row _ _ _ _ _ _ (HB7.out o)
  have u5 : ∀ o, (w7.alloc o).cell? ⟨w.heap.size + 1, 5, none⟩ = some (.int .u64 (b.g1 : Int)) := fun o => cell_of_row _ _ _ _ _ _ (HB7.out o)
  have u6 : ∀ o, (w7.alloc o).cell? ⟨w.heap.size + 1, 6, none⟩ = some (.int .u64 (b.g2 : Int)) := fun o => cell_of_row _ _ _ _ _ _ (HB7.out o)
  have u7 : ∀ o, (w7.alloc o).cell? ⟨w.heap.size + 1, 7, none⟩ = some (.int .u64 (b.g3 : Int)) := fun o => cell_of_row _ _ _ _ _ _ (HB7.out o)
  have u8 : ∀ o, (w7.alloc o).cell? ⟨w.heap.size + 1, 8, none⟩ = some (.int .u32 (b.flags : Int)) := fun o => cell_of_row _ _ _ _ _ _ (HB7.out o)
  have u9 : ∀ o, (w7.alloc o).cell? ⟨w.heap.size + 1, 9, none⟩ = some (.int .i64 b.mark) := fun o => cell_of_row _ _ _ _ _ _ (HB7.out o)
  dsimp only [Sup.val, Sup.row]
  go_wp2_with fail
  clear x0 x1 x2 x3 x4 x5 x6 x7 x8 x9 u0 u1 u2 u3 u4 u5 u6 u7 u8 u9
  obtain ⟨sj, ej, hu⟩ : ∃ sj ej, uns J = (sj, ej) := ⟨_, _, rfl⟩
  refine (unseal_any _ jv J (HJ5.out.below (HY7.out _)) (HT5.out.below (HY7.out _))).mono ?_
  rintro e w8 ⟨he, hb8⟩
  rw [hu] at he
  dsimp only at he
  subst he
  have hs8 := hb8.size
  rw [World.size_alloc] at hs8
  have HY8 : Hid (∀ o, Below w5.heap.size w5 (w8.alloc o)) := hide fun o => ((HY7.out _).trans (hb8.mono (by rw [World.size_alloc]; omega))).alloc (by omega) o
  have HS8 : Hid (∀ o, (w8.alloc o).heap[w6.heap.size]? = some (.cells b.row 27 (0, 0))) := hide fun o => (Below.heap_alloc _ _ _ (by omega)).trans ((hb8.block w6.heap.size (by rw [World.size_alloc]; omega)).trans (HS7.out _))
  have HT8 : Hid (∀ o, (w8.alloc o).heap[w7.heap.size]? = some (.cells b.row 27 (0, 0))) := hide fun o => (Below.heap_alloc _ _ _ (by omega)).trans ((hb8.block w7.heap.size (by simp)).trans (Go.heap_alloc_new _ _))
  have HU := hide hu
  clear hb8 hu
  by_cases h0 : ej = 0
  · subst h0
    dsimp only [Sup.val, Sup.row]
    go_wp2_with fail
    go_ret
    exact ⟨rfl, HX5.out.bel.trans ((HY8.out _).mono HX5.out.bel.size)⟩
  · have n0 : (ej == 0) = false := by rw [beq_eq_false_iff_ne]; exact h0
    dsimp only [Sup.val, Sup.row]
    go_wp2_with fail
    refine (cho_C _ _ jv a.enc J (HK5.out.below (HY8.out _)) (HJ5.out.below (HY8.out _)) (HT5.out.below (HY8.out _)) a sj 0 ej HUA.out HU.out rfl h0).mono ?_
    rintro e w9 ⟨rfl, hb9⟩
    have hs9 := hb9.size
    rw [World.size_alloc] at hs9
    have HY9 : Hid (Below w5.heap.size w5 (w9.setRow w6.heap.size a.row)) := hide (((HY8.out _).trans (hb9.mono (by rw [World.size_alloc]; omega))).trans ⟨rfl, rfl, rfl, by simp, fun k hk => setRow_other _ _ _ _ (by omega)⟩)
    have HS9 := hide ((hb9.block w6.heap.size (by rw [World.size_alloc]; omega)).trans (HS8.out _))
    have HS10 := hide (setRow_heap w9 w6.heap.size b.row a.row 27 (0, 0) HS9.out)
    have HT9 := hide ((setRow_other w9 w6.heap.size w7.heap.size a.row (by omega)).trans ((hb9.block w7.heap.size (by rw [World.size_alloc]; omega)).trans (HT8.out _)))
    clear hb9
    dsimp only [Sup.val]
    go_wp2_with (refine wpList_store_row rfl 27 _ _ rfl w6.heap.size a.row rfl rfl 27 b.row HS9.out (sup_size a) rfl (oneSup a) ?_)
    refine (cho_B _ jv _ J a.enc (HJ5.out.below HY9.out) (HK5.out.below HY9.out) (HT5.out.below HY9.out) sj a ej 0 HU.out HUA.out h0 rfl).mono ?_
    rintro e w11 ⟨rfl, hb11⟩
    have hs11 := hb11.size
    rw [setRow_size] at hs11
    have HS11 := hide ((setRow_other w11 w7.heap.size w6.heap.size a.row (by omega)).trans ((hb11.block w6.heap.size (by rw [setRow_size]; omega)).trans HS10.out))
    have HT11 := hide ((hb11.block w7.heap.size (by rw [setRow_size]; omega)).trans HT9.out)
    have HT12 := hide (setRow_heap w11 w7.heap.size b.row a.row 27 (0, 0) HT11.out)
    have HY12 : Hid (Below w5.heap.size w5 (w11.setRow w7.heap.size a.row)) := hide ((HY9.out.trans (hb11.mono (by rw [setRow_size]; omega))).trans ⟨rfl, rfl, rfl, by simp, fun k hk => setRow_other _ _ _ _ (by omega)⟩)
    have HA12 := hide ((HY12.out.block w.heap.size ha5).trans HX5.out.ra)
    clear hb11
    have x0 : (w11.setRow w7.heap.size a.row).cell? ⟨w6.heap.size, 0, none⟩ = some (.int .u64 (a.seq : Int)) := cell_of_row _ _ _ _ _ _ HS11.out
    have x1 : (w11.setRow w7.heap.size a.row).cell? ⟨w6.heap.size, 1, none⟩ = some (.int .i64 a.blocks) := cell_of_row _ _ _ _ _ _ HS11.out
    have x2 : (w11.setRow w7.heap.size a.row).cell? ⟨w6.heap.size, 2, none⟩ = some (.int .i64 a.size) := cell_of_row _ _ _ _ _ _ HS11.out
    have x3 : (w11.setRow w7.heap.size a.row).cell? ⟨w6.heap.size, 3, none⟩ = some (.int .i64 a.slots) := cell_of_row _ _ _ _ _ _ HS11.out
    have x4 : (w11.setRow w7.heap.size a.row).cell? ⟨w6.heap.size, 4, none⟩ = some (.int .u64 (a.g0 : Int)) := cell_of_row _ _ _ _ _ _ HS11.out
    have x5 : (w11.setRow w7.heap.size a.row).cell? ⟨w6.heap.size, 5, none⟩ = some (.int .u64 (a.g1 : Int)) := cell_of_row _ _ _ _ _ _ HS11.out
    have x6 : (w11.setRow w7.heap.size a.row).cell? ⟨w6.heap.size, 6, none⟩ = some (.int .u64 (a.g2 : Int)) := cell_of_row _ _ _ _ _ _ HS11.out
    have x7 : (w11.setRow w7.heap.size a.row).cell? ⟨w6.heap.size, 7, none⟩ = some (.int .u64 (a.g3 : Int)) := cell_of_row _ _ _ _ _ _ HS11.out
    have x8 : (w11.setRow w7.heap.size a.row).cell? ⟨w6.heap.size, 8, none⟩ = some (.int .u32 (a.flags : Int)) := cell_of_row _ _ _ _ _ _ HS11.out
    have x9 : (w11.setRow w7.heap.size a.row).cell? ⟨w6.heap.size, 9, none⟩ = some (.int .i64 a.mark) := cell_of_row _ _ _ _ _ _ HS11.out
    have u0 : (w11.setRow w7.heap.size a.row).cell? ⟨w7.heap.size, 0, none⟩ = some (.int .u64 (a.seq : Int)) := cell_of_row _ _ _ _ _ _ HT12.out
    have u1 : (w11.setRow w7.heap.size a.row).cell? ⟨w7.heap.size, 1, none⟩ = some (.int .i64 a.blocks) := cell_of_row _ _ _ _ _ _ HT12.out
    have u2 : (w11.setRow w7.heap.size a.row).cell? ⟨w7.heap.size, 2, none⟩ = some (.int .i64 a.size) := cell_of_row _ _ _ _ _ _ HT12.out
    have u3 : (w11.setRow w7.heap.size a.row).cell? ⟨w7.heap.size, 3, none⟩ = some (.int .i64 a.slots) := cell_of_row _ _ _ _ _ _ HT12.out
    have u4 : (w11.setRow w7.heap.size a.row).cell? ⟨w7.heap.size, 4, none⟩ = some (.int .u64 (a.g0 : Int)) := cell_of_row _ _ _ _ _ _ HT12.out
    have u5 : (w11.setRow w7.heap.size a.row).cell? ⟨w7.heap.size, 5, none⟩ = some (.int .u64 (a.g1 : Int)) := cell_of_row _ _ _ _ _ _ HT12.out
    have u6 : (w11.setRow w7.heap.size a.row).cell? ⟨w7.heap.size, 6, none⟩ = some (.int .u64 (a.g2 : Int)) := cell_of_row _ _ _ _ _ _ HT12.out
    have u7 : (w11.setRow w7.heap.size a.row).cell? ⟨w7.heap.size, 7, none⟩ = some (.int .u64 (a.g3 : Int)) := cell_of_row _ _ _ _ _ _ HT12.out
    have u8 : (w11.setRow w7.heap.size a.row).cell? ⟨w7.heap.size, 8, none⟩ = some (.int .u32 (a.flags : Int)) := cell_of_row _ _ _ _ _ _ HT12.out
    have u9 : (w11.setRow w7.heap.size a.row).cell? ⟨w7.heap.size, 9, none⟩ = some (.int .i64 a.mark) := cell_of_row _ _ _ _ _ _ HT12.out
    have v0 : (w11.setRow w7.heap.size a.row).cell? ⟨w.heap.size, 0, none⟩ = some (.int .u64 (a.seq : Int)) := cell_of_row _ _ _ _ _ _ HA12.out
    have v1 : (w11.setRow w7.heap.size a.row).cell? ⟨w.heap.size, 1, none⟩ = some (.int .i64 a.blocks) := cell_of_row _ _ _ _ _ _ HA12.out
    have v2 : (w11.setRow w7.heap.size a.row).cell? ⟨w.heap.size, 2, none⟩ = some (.int .i64 a.size) := cell_of_row _ _ _ _ _ _ HA12.out
    have v3 : (w11.setRow w7.heap.size a.row).cell? ⟨w.heap.size, 3, none⟩ = some (.int .i64 a.slots) := cell_of_row _ _ _ _ _ _ HA12.out
    have v4 : (w11.setRow w7.heap.size a.row).cell? ⟨w.heap.size, 4, none⟩ = some (.int .u64 (a.g0 : Int)) := cell_of_row _ _ _ _ _ _ HA12.out
    have v5 : (w11.setRow w7.heap.size a.row).cell? ⟨w.heap.size, 5, none⟩ = some (.int .u64 (a.g1 : Int)) := cell_of_row _ _ _ _ _ _ HA12.out
    have v6 : (w11.setRow w7.heap.size a.row).cell? ⟨w.heap.size, 6, none⟩ = some (.int .u64 (a.g2 : Int)) := cell_of_row _ _ _ _ _ _ HA12.out
    have v7 : (w11.setRow w7.heap.size a.row).cell? ⟨w.heap.size, 7, none⟩ = some (.int .u64 (a.g3 : Int)) := cell_of_row _ _ _ _ _ _ HA12.out
    have v8 : (w11.setRow w7.heap.size a.row).cell? ⟨w.heap.size, 8, none⟩ = some (.int .u32 (a.flags : Int)) := cell_of_row _ _ _ _ _ _ HA12.out
    have v9 : (w11.setRow w7.heap.size a.row).cell? ⟨w.heap.size, 9, none⟩ = some (.int .i64 a.mark) := cell_of_row _ _ _ _ _ _ HA12.out
    dsimp only [Sup.val]
    go_wp2_with (refine wpList_store_row rfl 27 _ _ rfl w7.heap.size a.row rfl rfl 27 b.row HT11.out (sup_size a) rfl (oneSup a) ?_)
    go_ret
    exact ⟨rfl, HX5.out.bel.trans (HY12.out.mono HX5.out.bel.size)⟩
theorem newerLaw (w : World) (a b : Sup) (hwa : a.Wf) (hwb : b.Wf) (jv : Value) (J : List Nat) (hj : BSl w jv J) (hT : Tabs w) : Calls Tryd.prog 4 #[a.val, b.val, jv] w fun e w' => e = .returned (.bool true) ∧ Below w.heap.size w w' := by
  cases ho : a.ok with
  | false => exact newer_a w a b hwa hwb jv ho
  | true =>
    cases hb : b.ok with
    | false => exact newer_b w a b hwa hwb jv ho hb
    | true =>
      by_cases hq : a.seq < b.seq
      · exact newer_main w a b hwa hwb jv J hj hT ho hb hq
      · exact newer_c w a b hwa hwb jv ho hb hq
end Go.Proofs.YtkjaaknlhmneoabDoor
