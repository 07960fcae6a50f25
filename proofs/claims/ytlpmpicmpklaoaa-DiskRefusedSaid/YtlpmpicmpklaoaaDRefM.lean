import Derived.Test.YtlpmpicmpklaoaaDBack
namespace Go.Proofs.Ytlpmpicmpklaoaa
open Go.RowKit Go.Maps
set_option linter.unusedVariables false
set_option linter.unusedSimpArgs false
set_option maxRecDepth 20000

def RefPost (w : World) (L : Lay) (S : St) (e : Ending) (w' : World) : Prop := e = .returned (.bool true) ∧ ∃ U' S', Rep w' { L with U := U' } S' ∧ Grow w w' L.U U' ∧ S.like S'
theorem RefPost.mk {w : World} {L : Lay} {S : St} {w' : World} (U' : Nat → Prop) (S' : St) (h1 : Rep w' { L with U := U' } S') (h2 : Grow w w' L.U U') (h3 : S.like S') : RefPost w L S (.returned (.bool true)) w' := ⟨rfl, U', S', h1, h2, h3⟩
theorem like_refl (S : St) : S.like S := ⟨rfl, rfl, rfl, rfl, rfl, rfl⟩
theorem trouble_at {w0 w : World} {U : Nat → Prop} {u : Value} {b n : Int} (h : ErrIs w0 w U u b n) (hn : n ≠ 0) : Calls Try.prog 49 #[u] w fun e w' => e = .returned (.tuple #[.int .i64 n, .int .i64 b]) ∧ ∃ k, w' = w.drewN k := by
  rcases h with ⟨e, _⟩ | ⟨_, g, rfl, _, hg, _⟩
  · exact absurd e hn
  · exact trouble_err w g b n hg
theorem box_cells {w : World} {g : Nat} {k b c : Int} {dv : Value} (h : w.heap[g]? = some (.cells #[.int .i64 k, .int .i64 b, .int .i64 c, dv] 38 (0, 0))) : w.cell? ⟨g, 0, none⟩ = some (.int .i64 k) ∧ w.cell? ⟨g, 1, none⟩ = some (.int .i64 b) ∧ w.cell? ⟨g, 2, none⟩ = some (.int .i64 c) ∧ w.cell? ⟨g, 3, none⟩ = some dv :=
  ⟨by rw [cell_of_row _ _ _ _ _ _ h]; rfl, by rw [cell_of_row _ _ _ _ _ _ h]; rfl, by rw [cell_of_row _ _ _ _ _ _ h]; rfl, by rw [cell_of_row _ _ _ _ _ _ h]; rfl⟩
theorem BSl.form {w : World} {v : Value} {l : List Nat} (h : BSl w v l) : ∃ a cap, v = .slice a l.length cap ∧ l.length ≤ cap ∧ cap ≤ maxLen := by
  obtain ⟨a, cap, e, h1, h2, _⟩ := h
  exact ⟨a, cap, e, h1, h2⟩

set_option maxHeartbeats 1000000 in
theorem refused_1 {w : World} {L : Lay} {S : St} (hR : Rep w L S) (o : OpV) (hok : o.ok w L) (hb : ∀ k, (S.cache k).length + 1 ≤ 9382499223500) (hk : o.kind = 1) :
    Calls Try.prog 32 #[PD L, o.val, .int .i64 (S.nb : Int), .int .i64 (S.sz : Int)] w fun e w' => RefPost w L S e w' := by
  have hnb := hR.nb
  have hszs := hR.szs
  have hl0 := hR.uLt
  have HNU : Hid (¬ L.U w.heap.size) := hide fun hu => by have := hl0 _ hu; omega
  have HB0 := hide ((Below.refl w.heap.size w).alloc (Nat.le_refl _) o.box)
  have HR1 := hide (hR.alloc o.box)
  have hi1 := hok.b
  have hi2 := hok.c
  unfold i64ok at hi1 hi2
  have HV1 : Hid (BSl (w.alloc o.box) o.dv o.dl) := hide (hok.bs.below HB0.out)
  obtain ⟨da, dc, dve, hd1, hd2⟩ := hok.bs.form
  unfold maxLen at hd2
  have HX := hide (Go.heap_alloc_new w o.box)
  have HC := hide (Read_any HR1.out o.block)
  have HLK := hide (read_like S o.block)
  have HGA := hide (Grow.ofBelow L.U HB0.out)
  unfold OpV.box at HC HR1 HGA HX
  rw [hk, dve] at HC HR1 HGA HX
  unfold OpV.val PD
  rw [hk, dve]
  clear hok hR HB0 hl0 HV1 hb
  generalize o.dl = dl at *
  generalize o.block = bl at *
  generalize o.count = ct at *
  clear hk dve
  have HKX : Hid (∀ w2 U2, Grow (w.alloc (.cells #[.int .i64 1, .int .i64 bl, .int .i64 ct, .slice da dl.length dc] 38)) w2 L.U U2 → ∀ k, ((w2.drewN k).heap[w.heap.size]? = some (.cells #[.int .i64 1, .int .i64 bl, .int .i64 ct, .slice da dl.length dc] 38 (0, 0)))) := hide fun w2 U2 hg k => (hg.keep _ (by simp) HNU.out).trans HX.out
  unfold PD at HC
  by_cases h0 : bl < 0
  · have e2 : S.readErr bl = 2 := by unfold St.readErr; rw [if_pos (by omega)]
    rw [e2] at HC
    go_enter Try.func32, Try.ntmps32
    go_wp2_with (first
      | (go_at_call 20; refine HC.out.mono ?_; rintro e w2 ⟨v, u, rfl, hE, -, -, hR2, hG2⟩; have HT := hide (trouble_at hE (by decide)); have HKX2 := hide (HKX.out w2 _ hG2); have HG2 := hide hG2; have HR2 := hide hR2; obtain ⟨y0, y1, y2, y3⟩ := box_cells (HKX2.out 0); clear hE hR2 hG2)
      | (go_at_call 49; refine HT.out.mono ?_; rintro e w3 ⟨rfl, k, rfl⟩; obtain ⟨z0, z1, z2, z3⟩ := box_cells (HKX2.out k)))
    go_ret
    exact RefPost.mk L.U _ (HR2.out.below (below_drewN (Below.refl _ _) k)) ((HGA.out.trans HG2.out).trans (Grow.ofBelow L.U (below_drewN (Below.refl _ _) k))) HLK.out
  · by_cases h1 : (S.nb : Int) ≤ bl
    · have e2 : S.readErr bl = 2 := by unfold St.readErr; rw [if_pos (by omega)]
      rw [e2] at HC
      go_enter Try.func32, Try.ntmps32
      go_wp2_with (first
        | (go_at_call 20; refine HC.out.mono ?_; rintro e w2 ⟨v, u, rfl, hE, -, -, hR2, hG2⟩; have HT := hide (trouble_at hE (by decide)); have HKX2 := hide (HKX.out w2 _ hG2); have HG2 := hide hG2; have HR2 := hide hR2; obtain ⟨y0, y1, y2, y3⟩ := box_cells (HKX2.out 0); clear hE hR2 hG2)
        | (go_at_call 49; refine HT.out.mono ?_; rintro e w3 ⟨rfl, k, rfl⟩; obtain ⟨z0, z1, z2, z3⟩ := box_cells (HKX2.out k)))
      go_ret
      exact RefPost.mk L.U _ (HR2.out.below (below_drewN (Below.refl _ _) k)) ((HGA.out.trans HG2.out).trans (Grow.ofBelow L.U (below_drewN (Below.refl _ _) k))) HLK.out
    · generalize S.readErr bl = nn at *
      go_enter Try.func32, Try.ntmps32
      go_wp2_with (first
        | (go_at_call 20; refine HC.out.mono ?_; rintro e w2 ⟨v, u, rfl, hE, -, -, hR2, hG2⟩; have HT := hide (trouble_any hE); have HKX2 := hide (HKX.out w2 _ hG2); have HG2 := hide hG2; have HR2 := hide hR2; obtain ⟨y0, y1, y2, y3⟩ := box_cells (HKX2.out 0); clear hE hR2 hG2)
        | (go_at_call 49; refine HT.out.mono ?_; rintro e w3 ⟨xx, rfl, k, rfl⟩; obtain ⟨z0, z1, z2, z3⟩ := box_cells (HKX2.out k)))
      go_ret
      exact RefPost.mk L.U _ (HR2.out.below (below_drewN (Below.refl _ _) k)) ((HGA.out.trans HG2.out).trans (Grow.ofBelow L.U (below_drewN (Below.refl _ _) k))) HLK.out

set_option maxHeartbeats 1000000 in
theorem refused_8 {w : World} {L : Lay} {S : St} (hR : Rep w L S) (o : OpV) (hok : o.ok w L) (hb : ∀ k, (S.cache k).length + 1 ≤ 9382499223500) (hk : o.kind = 8) :
    Calls Try.prog 32 #[PD L, o.val, .int .i64 (S.nb : Int), .int .i64 (S.sz : Int)] w fun e w' => RefPost w L S e w' := by
  have hnb := hR.nb
  have hszs := hR.szs
  have hl0 := hR.uLt
  have HNU : Hid (¬ L.U w.heap.size) := hide fun hu => by have := hl0 _ hu; omega
  have HB0 := hide ((Below.refl w.heap.size w).alloc (Nat.le_refl _) o.box)
  have HR1 := hide (hR.alloc o.box)
  have hi1 := hok.b
  have hi2 := hok.c
  unfold i64ok at hi1 hi2
  have HV1 : Hid (BSl (w.alloc o.box) o.dv o.dl) := hide (hok.bs.below HB0.out)
  obtain ⟨da, dc, dve, hd1, hd2⟩ := hok.bs.form
  unfold maxLen at hd2
  have HX := hide (Go.heap_alloc_new w o.box)
  have HC := hide (Durable_any HR1.out o.block)
  have HLK := hide (like_refl S)
  have HGA := hide (Grow.ofBelow L.U HB0.out)
  unfold OpV.box at HC HR1 HGA HX
  rw [hk, dve] at HC HR1 HGA HX
  unfold OpV.val PD
  rw [hk, dve]
  clear hok hR HB0 hl0 HV1 hb
  generalize o.dl = dl at *
  generalize o.block = bl at *
  generalize o.count = ct at *
  clear hk dve
  have HKX : Hid (∀ w2 U2, Grow (w.alloc (.cells #[.int .i64 8, .int .i64 bl, .int .i64 ct, .slice da dl.length dc] 38)) w2 L.U U2 → ∀ k, ((w2.drewN k).heap[w.heap.size]? = some (.cells #[.int .i64 8, .int .i64 bl, .int .i64 ct, .slice da dl.length dc] 38 (0, 0)))) := hide fun w2 U2 hg k => (hg.keep _ (by simp) HNU.out).trans HX.out
  unfold PD at HC
  by_cases h0 : bl < 0
  · have e2 : S.durErr bl = 2 := by unfold St.durErr; rw [if_pos (by omega)]
    rw [e2] at HC
    go_enter Try.func32, Try.ntmps32
    go_wp2_with (first
      | (go_at_call 17; refine HC.out.mono ?_; rintro e w2 ⟨v, u, rfl, hE, -, -, hR2, hG2⟩; have HT := hide (trouble_at hE (by decide)); have HKX2 := hide (HKX.out w2 _ hG2); have HG2 := hide hG2; have HR2 := hide hR2; obtain ⟨y0, y1, y2, y3⟩ := box_cells (HKX2.out 0); clear hE hR2 hG2)
      | (go_at_call 49; refine HT.out.mono ?_; rintro e w3 ⟨rfl, k, rfl⟩; obtain ⟨z0, z1, z2, z3⟩ := box_cells (HKX2.out k)))
    go_ret
    exact RefPost.mk L.U _ (HR2.out.below (below_drewN (Below.refl _ _) k)) ((HGA.out.trans HG2.out).trans (Grow.ofBelow L.U (below_drewN (Below.refl _ _) k))) HLK.out
  · by_cases h1 : (S.nb : Int) ≤ bl
    · have e2 : S.durErr bl = 2 := by unfold St.durErr; rw [if_pos (by omega)]
      rw [e2] at HC
      go_enter Try.func32, Try.ntmps32
      go_wp2_with (first
        | (go_at_call 17; refine HC.out.mono ?_; rintro e w2 ⟨v, u, rfl, hE, -, -, hR2, hG2⟩; have HT := hide (trouble_at hE (by decide)); have HKX2 := hide (HKX.out w2 _ hG2); have HG2 := hide hG2; have HR2 := hide hR2; obtain ⟨y0, y1, y2, y3⟩ := box_cells (HKX2.out 0); clear hE hR2 hG2)
        | (go_at_call 49; refine HT.out.mono ?_; rintro e w3 ⟨rfl, k, rfl⟩; obtain ⟨z0, z1, z2, z3⟩ := box_cells (HKX2.out k)))
      go_ret
      exact RefPost.mk L.U _ (HR2.out.below (below_drewN (Below.refl _ _) k)) ((HGA.out.trans HG2.out).trans (Grow.ofBelow L.U (below_drewN (Below.refl _ _) k))) HLK.out
    · generalize S.durErr bl = nn at *
      go_enter Try.func32, Try.ntmps32
      go_wp2_with (first
        | (go_at_call 17; refine HC.out.mono ?_; rintro e w2 ⟨v, u, rfl, hE, -, -, hR2, hG2⟩; have HT := hide (trouble_any hE); have HKX2 := hide (HKX.out w2 _ hG2); have HG2 := hide hG2; have HR2 := hide hR2; obtain ⟨y0, y1, y2, y3⟩ := box_cells (HKX2.out 0); clear hE hR2 hG2)
        | (go_at_call 49; refine HT.out.mono ?_; rintro e w3 ⟨xx, rfl, k, rfl⟩; obtain ⟨z0, z1, z2, z3⟩ := box_cells (HKX2.out k)))
      go_ret
      exact RefPost.mk L.U _ (HR2.out.below (below_drewN (Below.refl _ _) k)) ((HGA.out.trans HG2.out).trans (Grow.ofBelow L.U (below_drewN (Below.refl _ _) k))) HLK.out

set_option maxHeartbeats 1000000 in
theorem refused_10 {w : World} {L : Lay} {S : St} (hR : Rep w L S) (o : OpV) (hok : o.ok w L) (hb : ∀ k, (S.cache k).length + 1 ≤ 9382499223500) (hk : o.kind = 10) :
    Calls Try.prog 32 #[PD L, o.val, .int .i64 (S.nb : Int), .int .i64 (S.sz : Int)] w fun e w' => RefPost w L S e w' := by
  have hnb := hR.nb
  have hszs := hR.szs
  have hl0 := hR.uLt
  have HNU : Hid (¬ L.U w.heap.size) := hide fun hu => by have := hl0 _ hu; omega
  have HB0 := hide ((Below.refl w.heap.size w).alloc (Nat.le_refl _) o.box)
  have HR1 := hide (hR.alloc o.box)
  have hi1 := hok.b
  have hi2 := hok.c
  unfold i64ok at hi1 hi2
  have HV1 : Hid (BSl (w.alloc o.box) o.dv o.dl) := hide (hok.bs.below HB0.out)
  obtain ⟨da, dc, dve, hd1, hd2⟩ := hok.bs.form
  unfold maxLen at hd2
  have HX := hide (Go.heap_alloc_new w o.box)
  have HC := hide (Spoil_any HR1.out o.block)
  have HGA := hide (Grow.ofBelow L.U HB0.out)
  unfold OpV.box at HC HR1 HGA HX
  rw [hk, dve] at HC HR1 HGA HX
  unfold OpV.val PD
  rw [hk, dve]
  clear hok hR HB0 hl0 HV1 hb
  generalize o.dl = dl at *
  generalize o.block = bl at *
  generalize o.count = ct at *
  clear hk dve
  have HKX : Hid (∀ w2 U2, Grow (w.alloc (.cells #[.int .i64 10, .int .i64 bl, .int .i64 ct, .slice da dl.length dc] 38)) w2 L.U U2 → ∀ k, ((w2.drewN k).heap[w.heap.size]? = some (.cells #[.int .i64 10, .int .i64 bl, .int .i64 ct, .slice da dl.length dc] 38 (0, 0)))) := hide fun w2 U2 hg k => (hg.keep _ (by simp) HNU.out).trans HX.out
  unfold PD at HC
  by_cases h0 : bl < 0
  · have e2 : S.spoilErr bl = 2 := by unfold St.spoilErr; rw [if_neg (by omega)]
    have HLK : Hid (S.like (S.spoil bl)) := hide (by unfold St.spoil; rw [if_neg (by omega)]; exact like_refl S)
    rw [e2] at HC
    go_enter Try.func32, Try.ntmps32
    go_wp2_with (first
      | (go_at_call 38; refine HC.out.mono ?_; rintro e w2 ⟨u, U2, rfl, hE, hR2, hG2⟩; have HT := hide (trouble_at hE (by decide)); have HKX2 := hide (HKX.out w2 _ hG2); have HG2 := hide hG2; have HR2 := hide hR2; obtain ⟨y0, y1, y2, y3⟩ := box_cells (HKX2.out 0); clear hE hR2 hG2)
      | (go_at_call 49; refine HT.out.mono ?_; rintro e w3 ⟨rfl, k, rfl⟩; obtain ⟨z0, z1, z2, z3⟩ := box_cells (HKX2.out k)))
    go_ret
    exact RefPost.mk U2 _ (HR2.out.below (below_drewN (Below.refl _ _) k)) ((HGA.out.trans HG2.out).trans (Grow.ofBelow U2 (below_drewN (Below.refl _ _) k))) HLK.out
  · by_cases h1 : (S.nb : Int) ≤ bl
    · have e2 : S.spoilErr bl = 2 := by unfold St.spoilErr; rw [if_neg (by omega)]
      have HLK : Hid (S.like (S.spoil bl)) := hide (by unfold St.spoil; rw [if_neg (by omega)]; exact like_refl S)
      rw [e2] at HC
      go_enter Try.func32, Try.ntmps32
      go_wp2_with (first
        | (go_at_call 38; refine HC.out.mono ?_; rintro e w2 ⟨u, U2, rfl, hE, hR2, hG2⟩; have HT := hide (trouble_at hE (by decide)); have HKX2 := hide (HKX.out w2 _ hG2); have HG2 := hide hG2; have HR2 := hide hR2; obtain ⟨y0, y1, y2, y3⟩ := box_cells (HKX2.out 0); clear hE hR2 hG2)
        | (go_at_call 49; refine HT.out.mono ?_; rintro e w3 ⟨rfl, k, rfl⟩; obtain ⟨z0, z1, z2, z3⟩ := box_cells (HKX2.out k)))
      go_ret
      exact RefPost.mk U2 _ (HR2.out.below (below_drewN (Below.refl _ _) k)) ((HGA.out.trans HG2.out).trans (Grow.ofBelow U2 (below_drewN (Below.refl _ _) k))) HLK.out
    · clear HC
      go_enter Try.func32, Try.ntmps32
      go_wp2
      go_ret
      exact RefPost.mk L.U S HR1.out HGA.out (like_refl S)

set_option maxHeartbeats 1000000 in
theorem refused_2 {w : World} {L : Lay} {S : St} (hR : Rep w L S) (o : OpV) (hok : o.ok w L) (hb : ∀ k, (S.cache k).length + 1 ≤ 9382499223500) (hk : o.kind = 2) :
    Calls Try.prog 32 #[PD L, o.val, .int .i64 (S.nb : Int), .int .i64 (S.sz : Int)] w fun e w' => RefPost w L S e w' := by
  have hnb := hR.nb
  have hszs := hR.szs
  have hl0 := hR.uLt
  have HNU : Hid (¬ L.U w.heap.size) := hide fun hu => by have := hl0 _ hu; omega
  have HB0 := hide ((Below.refl w.heap.size w).alloc (Nat.le_refl _) o.box)
  have HR1 := hide (hR.alloc o.box)
  have hi1 := hok.b
  have hi2 := hok.c
  unfold i64ok at hi1 hi2
  have HV1 : Hid (BSl (w.alloc o.box) o.dv o.dl) := hide (hok.bs.below HB0.out)
  obtain ⟨da, dc, dve, hd1, hd2⟩ := hok.bs.form
  unfold maxLen at hd2
  have HX := hide (Go.heap_alloc_new w o.box)
  have HC := hide (Write_any HR1.out o.block o.dv HV1.out hb)
  have HGA := hide (Grow.ofBelow L.U HB0.out)
  unfold OpV.box at HC HR1 HGA HX
  rw [hk, dve] at HC HR1 HGA HX
  unfold OpV.val PD
  rw [hk, dve]
  clear hok hR HB0 hl0 HV1 hb
  generalize o.dl = dl at *
  generalize o.block = bl at *
  generalize o.count = ct at *
  clear hk dve
  have HKX : Hid (∀ w2 U2, Grow (w.alloc (.cells #[.int .i64 2, .int .i64 bl, .int .i64 ct, .slice da dl.length dc] 38)) w2 L.U U2 → ∀ k, ((w2.drewN k).heap[w.heap.size]? = some (.cells #[.int .i64 2, .int .i64 bl, .int .i64 ct, .slice da dl.length dc] 38 (0, 0)))) := hide fun w2 U2 hg k => (hg.keep _ (by simp) HNU.out).trans HX.out
  unfold PD at HC
  by_cases h0 : bl < 0
  · have e2 : S.putErr bl dl.length = 2 := by unfold St.putErr; rw [if_pos (by omega)]
    have HLK : Hid (S.like (S.write bl dl)) := hide (by unfold St.write St.putSt; rw [e2]; exact like_refl S)
    rw [e2] at HC
    go_enter Try.func32, Try.ntmps32
    go_wp2_with (first
      | (go_at_call 25; refine HC.out.mono ?_; rintro e w2 ⟨u, U2, rfl, hE, hR2, hG2⟩; have HT := hide (trouble_at hE (by decide)); have HKX2 := hide (HKX.out w2 _ hG2); have HG2 := hide hG2; have HR2 := hide hR2; obtain ⟨y0, y1, y2, y3⟩ := box_cells (HKX2.out 0); clear hE hR2 hG2)
      | (go_at_call 49; refine HT.out.mono ?_; rintro e w3 ⟨rfl, k, rfl⟩; obtain ⟨z0, z1, z2, z3⟩ := box_cells (HKX2.out k)))
    go_ret
    exact RefPost.mk U2 _ (HR2.out.below (below_drewN (Below.refl _ _) k)) ((HGA.out.trans HG2.out).trans (Grow.ofBelow U2 (below_drewN (Below.refl _ _) k))) HLK.out
  · by_cases h1 : (S.nb : Int) ≤ bl
    · have e2 : S.putErr bl dl.length = 2 := by unfold St.putErr; rw [if_pos (by omega)]
      have HLK : Hid (S.like (S.write bl dl)) := hide (by unfold St.write St.putSt; rw [e2]; exact like_refl S)
      rw [e2] at HC
      go_enter Try.func32, Try.ntmps32
      go_wp2_with (first
        | (go_at_call 25; refine HC.out.mono ?_; rintro e w2 ⟨u, U2, rfl, hE, hR2, hG2⟩; have HT := hide (trouble_at hE (by decide)); have HKX2 := hide (HKX.out w2 _ hG2); have HG2 := hide hG2; have HR2 := hide hR2; obtain ⟨y0, y1, y2, y3⟩ := box_cells (HKX2.out 0); clear hE hR2 hG2)
        | (go_at_call 49; refine HT.out.mono ?_; rintro e w3 ⟨rfl, k, rfl⟩; obtain ⟨z0, z1, z2, z3⟩ := box_cells (HKX2.out k)))
      go_ret
      exact RefPost.mk U2 _ (HR2.out.below (below_drewN (Below.refl _ _) k)) ((HGA.out.trans HG2.out).trans (Grow.ofBelow U2 (below_drewN (Below.refl _ _) k))) HLK.out
    · by_cases hlen : dl.length = S.sz
      · clear HC
        rw [hlen] at HR1 HGA ⊢
        have hlen2 : ((dl.length : Nat) : Int) = (S.sz : Int) := by omega
        go_enter Try.func32, Try.ntmps32
        go_wp2
        go_ret
        exact RefPost.mk L.U S HR1.out HGA.out (like_refl S)
      · have e2 : S.putErr bl dl.length = 3 := by unfold St.putErr; rw [if_neg (by omega), if_pos hlen]
        have HLK : Hid (S.like (S.write bl dl)) := hide (by unfold St.write St.putSt; rw [e2]; exact like_refl S)
        rw [e2] at HC
        have hlen2 : ¬ ((dl.length : Nat) : Int) = (S.sz : Int) := by omega
        go_enter Try.func32, Try.ntmps32
        go_wp2_with (first
          | (go_at_call 25; refine HC.out.mono ?_; rintro e w2 ⟨u, U2, rfl, hE, hR2, hG2⟩; have HT := hide (trouble_at hE (by decide)); have HKX2 := hide (HKX.out w2 _ hG2); have HG2 := hide hG2; have HR2 := hide hR2; obtain ⟨y0, y1, y2, y3⟩ := box_cells (HKX2.out 0); clear hE hR2 hG2)
          | (go_at_call 49; refine HT.out.mono ?_; rintro e w3 ⟨rfl, k, rfl⟩; obtain ⟨z0, z1, z2, z3⟩ := box_cells (HKX2.out k)))
        go_ret
        exact RefPost.mk U2 _ (HR2.out.below (below_drewN (Below.refl _ _) k)) ((HGA.out.trans HG2.out).trans (Grow.ofBelow U2 (below_drewN (Below.refl _ _) k))) HLK.out

set_option maxHeartbeats 1000000 in
theorem refused_3 {w : World} {L : Lay} {S : St} (hR : Rep w L S) (o : OpV) (hok : o.ok w L) (hb : ∀ k, (S.cache k).length + 1 ≤ 9382499223500) (hk : o.kind = 3) :
    Calls Try.prog 32 #[PD L, o.val, .int .i64 (S.nb : Int), .int .i64 (S.sz : Int)] w fun e w' => RefPost w L S e w' := by
  have hnb := hR.nb
  have hszs := hR.szs
  have hl0 := hR.uLt
  have HNU : Hid (¬ L.U w.heap.size) := hide fun hu => by have := hl0 _ hu; omega
  have HB0 := hide ((Below.refl w.heap.size w).alloc (Nat.le_refl _) o.box)
  have HR1 := hide (hR.alloc o.box)
  have hi1 := hok.b
  have hi2 := hok.c
  unfold i64ok at hi1 hi2
  have HV1 : Hid (BSl (w.alloc o.box) o.dv o.dl) := hide (hok.bs.below HB0.out)
  obtain ⟨da, dc, dve, hd1, hd2⟩ := hok.bs.form
  unfold maxLen at hd2
  have HX := hide (Go.heap_alloc_new w o.box)
  have HC := hide (Through_any HR1.out o.block o.dv HV1.out)
  have HGA := hide (Grow.ofBelow L.U HB0.out)
  unfold OpV.box at HC HR1 HGA HX
  rw [hk, dve] at HC HR1 HGA HX
  unfold OpV.val PD
  rw [hk, dve]
  clear hok hR HB0 hl0 HV1 hb
  generalize o.dl = dl at *
  generalize o.block = bl at *
  generalize o.count = ct at *
  clear hk dve
  have HKX : Hid (∀ w2 U2, Grow (w.alloc (.cells #[.int .i64 3, .int .i64 bl, .int .i64 ct, .slice da dl.length dc] 38)) w2 L.U U2 → ∀ k, ((w2.drewN k).heap[w.heap.size]? = some (.cells #[.int .i64 3, .int .i64 bl, .int .i64 ct, .slice da dl.length dc] 38 (0, 0)))) := hide fun w2 U2 hg k => (hg.keep _ (by simp) HNU.out).trans HX.out
  unfold PD at HC
  by_cases h0 : bl < 0
  · have e2 : S.putErr bl dl.length = 2 := by unfold St.putErr; rw [if_pos (by omega)]
    have HLK : Hid (S.like (S.through bl dl)) := hide (by unfold St.through St.putSt; rw [e2]; exact like_refl S)
    rw [e2] at HC
    go_enter Try.func32, Try.ntmps32
    go_wp2_with (first
      | (go_at_call 14; refine HC.out.mono ?_; rintro e w2 ⟨u, U2, rfl, hE, hR2, hG2⟩; have HT := hide (trouble_at hE (by decide)); have HKX2 := hide (HKX.out w2 _ hG2); have HG2 := hide hG2; have HR2 := hide hR2; obtain ⟨y0, y1, y2, y3⟩ := box_cells (HKX2.out 0); clear hE hR2 hG2)
      | (go_at_call 49; refine HT.out.mono ?_; rintro e w3 ⟨rfl, k, rfl⟩; obtain ⟨z0, z1, z2, z3⟩ := box_cells (HKX2.out k)))
    go_ret
    exact RefPost.mk U2 _ (HR2.out.below (below_drewN (Below.refl _ _) k)) ((HGA.out.trans HG2.out).trans (Grow.ofBelow U2 (below_drewN (Below.refl _ _) k))) HLK.out
  · by_cases h1 : (S.nb : Int) ≤ bl
    · have e2 : S.putErr bl dl.length = 2 := by unfold St.putErr; rw [if_pos (by omega)]
      have HLK : Hid (S.like (S.through bl dl)) := hide (by unfold St.through St.putSt; rw [e2]; exact like_refl S)
      rw [e2] at HC
      go_enter Try.func32, Try.ntmps32
      go_wp2_with (first
        | (go_at_call 14; refine HC.out.mono ?_; rintro e w2 ⟨u, U2, rfl, hE, hR2, hG2⟩; have HT := hide (trouble_at hE (by decide)); have HKX2 := hide (HKX.out w2 _ hG2); have HG2 := hide hG2; have HR2 := hide hR2; obtain ⟨y0, y1, y2, y3⟩ := box_cells (HKX2.out 0); clear hE hR2 hG2)
        | (go_at_call 49; refine HT.out.mono ?_; rintro e w3 ⟨rfl, k, rfl⟩; obtain ⟨z0, z1, z2, z3⟩ := box_cells (HKX2.out k)))
      go_ret
      exact RefPost.mk U2 _ (HR2.out.below (below_drewN (Below.refl _ _) k)) ((HGA.out.trans HG2.out).trans (Grow.ofBelow U2 (below_drewN (Below.refl _ _) k))) HLK.out
    · by_cases hlen : dl.length = S.sz
      · clear HC
        rw [hlen] at HR1 HGA ⊢
        have hlen2 : ((dl.length : Nat) : Int) = (S.sz : Int) := by omega
        go_enter Try.func32, Try.ntmps32
        go_wp2
        go_ret
        exact RefPost.mk L.U S HR1.out HGA.out (like_refl S)
      · have e2 : S.putErr bl dl.length = 3 := by unfold St.putErr; rw [if_neg (by omega), if_pos hlen]
        have HLK : Hid (S.like (S.through bl dl)) := hide (by unfold St.through St.putSt; rw [e2]; exact like_refl S)
        rw [e2] at HC
        have hlen2 : ¬ ((dl.length : Nat) : Int) = (S.sz : Int) := by omega
        go_enter Try.func32, Try.ntmps32
        go_wp2_with (first
          | (go_at_call 14; refine HC.out.mono ?_; rintro e w2 ⟨u, U2, rfl, hE, hR2, hG2⟩; have HT := hide (trouble_at hE (by decide)); have HKX2 := hide (HKX.out w2 _ hG2); have HG2 := hide hG2; have HR2 := hide hR2; obtain ⟨y0, y1, y2, y3⟩ := box_cells (HKX2.out 0); clear hE hR2 hG2)
          | (go_at_call 49; refine HT.out.mono ?_; rintro e w3 ⟨rfl, k, rfl⟩; obtain ⟨z0, z1, z2, z3⟩ := box_cells (HKX2.out k)))
        go_ret
        exact RefPost.mk U2 _ (HR2.out.below (below_drewN (Below.refl _ _) k)) ((HGA.out.trans HG2.out).trans (Grow.ofBelow U2 (below_drewN (Below.refl _ _) k))) HLK.out

set_option maxHeartbeats 1000000 in
theorem refused_4 {w : World} {L : Lay} {S : St} (hR : Rep w L S) (o : OpV) (hok : o.ok w L) (hb : ∀ k, (S.cache k).length + 1 ≤ 9382499223500) (hk : o.kind = 4) :
    Calls Try.prog 32 #[PD L, o.val, .int .i64 (S.nb : Int), .int .i64 (S.sz : Int)] w fun e w' => RefPost w L S e w' := by
  have hnb := hR.nb
  have hszs := hR.szs
  have hl0 := hR.uLt
  have HNU : Hid (¬ L.U w.heap.size) := hide fun hu => by have := hl0 _ hu; omega
  have HB0 := hide ((Below.refl w.heap.size w).alloc (Nat.le_refl _) o.box)
  have HR1 := hide (hR.alloc o.box)
  have hi1 := hok.b
  have hi2 := hok.c
  unfold i64ok at hi1 hi2
  have HV1 : Hid (BSl (w.alloc o.box) o.dv o.dl) := hide (hok.bs.below HB0.out)
  obtain ⟨da, dc, dve, hd1, hd2⟩ := hok.bs.form
  unfold maxLen at hd2
  have HX := hide (Go.heap_alloc_new w o.box)
  have HC := hide (Zero_any HR1.out o.block o.count hi1 hi2 hb)
  have HGA := hide (Grow.ofBelow L.U HB0.out)
  unfold OpV.box at HC HR1 HGA HX
  rw [hk, dve] at HC HR1 HGA HX
  unfold OpV.val PD
  rw [hk, dve]
  clear hok hR HB0 hl0 HV1 hb
  generalize o.dl = dl at *
  generalize o.block = bl at *
  generalize o.count = ct at *
  clear hk dve
  have HKX : Hid (∀ w2 U2, Grow (w.alloc (.cells #[.int .i64 4, .int .i64 bl, .int .i64 ct, .slice da dl.length dc] 38)) w2 L.U U2 → ∀ k, ((w2.drewN k).heap[w.heap.size]? = some (.cells #[.int .i64 4, .int .i64 bl, .int .i64 ct, .slice da dl.length dc] 38 (0, 0)))) := hide fun w2 U2 hg k => (hg.keep _ (by simp) HNU.out).trans HX.out
  unfold PD at HC
  by_cases hok : S.zeroBad bl ct = 0 ∨ S.zeroBad bl ct = 22
  · have hh : 0 ≤ ct ∧ 0 ≤ bl ∧ bl ≤ (S.nb : Int) ∧ ct ≤ (S.nb : Int) - bl := by
      unfold St.zeroBad at hok
      by_cases c1 : ct < 0
      · rw [if_pos c1] at hok; omega
      · rw [if_neg c1] at hok
        by_cases c2 : bl < 0 ∨ (S.nb : Int) < bl ∨ (S.nb : Int) - bl < ct
        · rw [if_pos c2] at hok; omega
        · omega
    obtain ⟨c1, c2, c3, c4⟩ := hh
    clear HC hok
    go_enter Try.func32, Try.ntmps32
    go_wp2
    go_ret
    exact RefPost.mk L.U S HR1.out HGA.out (like_refl S)
  · have e1 : S.zero bl ct = (S, S.zeroBad bl ct, bl) := by unfold St.zero; rw [if_neg (by omega)]
    rw [e1] at HC
    have HLK := hide (like_refl S)
    by_cases c1 : ct < 0
    · have e2 : S.zeroBad bl ct = 1 := by unfold St.zeroBad; rw [if_pos c1]
      rw [e2] at HC
      clear hok
      by_cases d1 : bl < 0
      · go_enter Try.func32, Try.ntmps32
        go_wp2_with (first
          | (go_at_call 37; refine HC.out.mono ?_; rintro e w2 ⟨u, U2, rfl, hE, hR2, hG2⟩; have HT := hide (trouble_at hE (by decide)); have HKX2 := hide (HKX.out w2 _ hG2); have HG2 := hide hG2; have HR2 := hide hR2; obtain ⟨y0, y1, y2, y3⟩ := box_cells (HKX2.out 0); clear hE hR2 hG2)
          | (go_at_call 49; refine HT.out.mono ?_; rintro e w3 ⟨rfl, k, rfl⟩; obtain ⟨z0, z1, z2, z3⟩ := box_cells (HKX2.out k)))
        go_ret
        exact RefPost.mk U2 _ (HR2.out.below (below_drewN (Below.refl _ _) k)) ((HGA.out.trans HG2.out).trans (Grow.ofBelow U2 (below_drewN (Below.refl _ _) k))) HLK.out
      · by_cases d2 : (S.nb : Int) ≤ bl
        · go_enter Try.func32, Try.ntmps32
          go_wp2_with (first
            | (go_at_call 37; refine HC.out.mono ?_; rintro e w2 ⟨u, U2, rfl, hE, hR2, hG2⟩; have HT := hide (trouble_at hE (by decide)); have HKX2 := hide (HKX.out w2 _ hG2); have HG2 := hide hG2; have HR2 := hide hR2; obtain ⟨y0, y1, y2, y3⟩ := box_cells (HKX2.out 0); clear hE hR2 hG2)
            | (go_at_call 49; refine HT.out.mono ?_; rintro e w3 ⟨rfl, k, rfl⟩; obtain ⟨z0, z1, z2, z3⟩ := box_cells (HKX2.out k)))
          go_ret
          exact RefPost.mk U2 _ (HR2.out.below (below_drewN (Below.refl _ _) k)) ((HGA.out.trans HG2.out).trans (Grow.ofBelow U2 (below_drewN (Below.refl _ _) k))) HLK.out
        · go_enter Try.func32, Try.ntmps32
          go_wp2_with (first
            | (go_at_call 37; refine HC.out.mono ?_; rintro e w2 ⟨u, U2, rfl, hE, hR2, hG2⟩; have HT := hide (trouble_at hE (by decide)); have HKX2 := hide (HKX.out w2 _ hG2); have HG2 := hide hG2; have HR2 := hide hR2; obtain ⟨y0, y1, y2, y3⟩ := box_cells (HKX2.out 0); clear hE hR2 hG2)
            | (go_at_call 49; refine HT.out.mono ?_; rintro e w3 ⟨rfl, k, rfl⟩; obtain ⟨z0, z1, z2, z3⟩ := box_cells (HKX2.out k)))
          go_ret
          exact RefPost.mk U2 _ (HR2.out.below (below_drewN (Below.refl _ _) k)) ((HGA.out.trans HG2.out).trans (Grow.ofBelow U2 (below_drewN (Below.refl _ _) k))) HLK.out
    · have c2 : bl < 0 ∨ (S.nb : Int) < bl ∨ (S.nb : Int) - bl < ct := by
        false_or_by_contra
        rename_i hn
        apply hok
        unfold St.zeroBad
        rw [if_neg c1, if_neg hn]
        split <;> simp
      have e2 : S.zeroBad bl ct = 2 := by unfold St.zeroBad; rw [if_neg c1, if_pos c2]
      rw [e2] at HC
      clear hok
      by_cases d1 : bl < 0
      · go_enter Try.func32, Try.ntmps32
        go_wp2_with (first
          | (go_at_call 37; refine HC.out.mono ?_; rintro e w2 ⟨u, U2, rfl, hE, hR2, hG2⟩; have HT := hide (trouble_at hE (by decide)); have HKX2 := hide (HKX.out w2 _ hG2); have HG2 := hide hG2; have HR2 := hide hR2; obtain ⟨y0, y1, y2, y3⟩ := box_cells (HKX2.out 0); clear hE hR2 hG2)
          | (go_at_call 49; refine HT.out.mono ?_; rintro e w3 ⟨rfl, k, rfl⟩; obtain ⟨z0, z1, z2, z3⟩ := box_cells (HKX2.out k)))
        go_ret
        exact RefPost.mk U2 _ (HR2.out.below (below_drewN (Below.refl _ _) k)) ((HGA.out.trans HG2.out).trans (Grow.ofBelow U2 (below_drewN (Below.refl _ _) k))) HLK.out
      · by_cases d2 : (S.nb : Int) < bl
        · go_enter Try.func32, Try.ntmps32
          go_wp2_with (first
            | (go_at_call 37; refine HC.out.mono ?_; rintro e w2 ⟨u, U2, rfl, hE, hR2, hG2⟩; have HT := hide (trouble_at hE (by decide)); have HKX2 := hide (HKX.out w2 _ hG2); have HG2 := hide hG2; have HR2 := hide hR2; obtain ⟨y0, y1, y2, y3⟩ := box_cells (HKX2.out 0); clear hE hR2 hG2)
            | (go_at_call 49; refine HT.out.mono ?_; rintro e w3 ⟨rfl, k, rfl⟩; obtain ⟨z0, z1, z2, z3⟩ := box_cells (HKX2.out k)))
          go_ret
          exact RefPost.mk U2 _ (HR2.out.below (below_drewN (Below.refl _ _) k)) ((HGA.out.trans HG2.out).trans (Grow.ofBelow U2 (below_drewN (Below.refl _ _) k))) HLK.out
        · have d3 : (S.nb : Int) - bl < ct := by omega
          go_enter Try.func32, Try.ntmps32
          go_wp2_with (first
            | (go_at_call 37; refine HC.out.mono ?_; rintro e w2 ⟨u, U2, rfl, hE, hR2, hG2⟩; have HT := hide (trouble_at hE (by decide)); have HKX2 := hide (HKX.out w2 _ hG2); have HG2 := hide hG2; have HR2 := hide hR2; obtain ⟨y0, y1, y2, y3⟩ := box_cells (HKX2.out 0); clear hE hR2 hG2)
            | (go_at_call 49; refine HT.out.mono ?_; rintro e w3 ⟨rfl, k, rfl⟩; obtain ⟨z0, z1, z2, z3⟩ := box_cells (HKX2.out k)))
          go_ret
          exact RefPost.mk U2 _ (HR2.out.below (below_drewN (Below.refl _ _) k)) ((HGA.out.trans HG2.out).trans (Grow.ofBelow U2 (below_drewN (Below.refl _ _) k))) HLK.out

end Go.Proofs.Ytlpmpicmpklaoaa
