import Derived.Test.YtlkccencilhacaaALog4
import Derived.Deep.RegionLaw
namespace Go.Proofs.Ytlkccencilhacaa
open Go.RowKit Go.Sort
set_option linter.unusedVariables false
set_option linter.unusedSimpArgs false
set_option maxRecDepth 20000

/-- the walk of contextFrom: m of the four laid -/
structure CtR (w wr : World) (zs : List Int) (start m st : Nat) : Prop where
  c : ∃ C : List Int, wr.heap[w.heap.size + 1]? = some (.cells (ints C) 88 (0, 0)) ∧ C.length = 4 ∧ ∀ i, i < m → C[i]? = zs[(start + i) % zs.length]?
  sl : st < zs.length
  ml : m ≤ 4
  sm : m < 4 → st = (start + m) % zs.length
  be : Below w.heap.size w wr
  rb : wr.heap[w.heap.size]? = some (.cells #[.int .i64 0, .int .i64 0, .int .i64 0, .int .i64 0] 88 (0, 0))
def ctxK (zs : List Int) (m st : Nat) : List Int := (zs.drop st).take (4 - m)
theorem ctxK_len (zs : List Int) (m st : Nat) : (ctxK zs m st).length = Nat.min (zs.length - st) (4 - m) := by
  simp [ctxK]; exact Nat.min_comm _ _
theorem CtR.step {w wr w5 : World} {zs C : List Int} {start m st : Nat} (h : CtR w wr zs start m st) (hm : m < 4) (hC : C.length = 4) (hCi : ∀ i, i < m → C[i]? = zs[(start + i) % zs.length]?) (h5 : w5.heap[w.heap.size + 1]? = some (.cells (splice (C.map iV) m ((ctxK zs m st).map iV)).toArray 88 (0, 0))) (hb : Below (w.heap.size + 1) wr w5) : CtR w w5 zs start (m + (ctxK zs m st).length) 0 ∧ 1 ≤ (ctxK zs m st).length ∧ (ctxK zs m st).length ≤ 4 - m := by
  have hl := ctxK_len zs m st
  have hst := h.sl
  have hsm := h.sm hm
  have hl1 : (ctxK zs m st).length ≤ zs.length - st := by rw [hl]; exact Nat.min_le_left _ _
  have hl2 : (ctxK zs m st).length ≤ 4 - m := by rw [hl]; exact Nat.min_le_right _ _
  have hl3 : (ctxK zs m st).length = zs.length - st ∨ (ctxK zs m st).length = 4 - m := by
    rw [hl]; rcases Nat.le_total (zs.length - st) (4 - m) with e | e
    · exact .inl (Nat.min_eq_left e)
    · exact .inr (Nat.min_eq_right e)
  have esp : splice (C.map iV) m ((ctxK zs m st).map iV) = (splice C m (ctxK zs m st)).map iV := by simp [splice]
  rw [esp] at h5
  refine ⟨⟨⟨splice C m (ctxK zs m st), h5, by rw [length_splice _ _ _ (by omega)]; exact hC, fun i hi => ?_⟩, by omega, by omega, fun h4 => ?_, ⟨hb.os.trans h.be.os, hb.tape.trans h.be.tape, hb.output.trans h.be.output, Nat.le_trans h.be.size hb.size, fun b hb' => (hb.block b (by omega)).trans (h.be.block b hb')⟩, (hb.block _ (by omega)).trans h.rb⟩, by omega, hl2⟩
  · have ht : (C.take m).length = m := by simp; omega
    by_cases him : i < m
    · rw [← hCi i him, splice, List.getElem?_append_left (by rw [ht]; exact him), List.getElem?_take_of_lt him]
    · rw [splice, List.getElem?_append_right (by rw [ht]; omega), ht, List.getElem?_append_left (by omega), ctxK, List.getElem?_take_of_lt (by omega), List.getElem?_drop]
      congr 1
      have e1 : start + i = (start + m) + (i - m) := by omega
      rw [e1, Nat.add_mod, ← hsm, Nat.mod_eq_of_lt (show i - m < zs.length by omega), Nat.mod_eq_of_lt (by omega)]
  · rcases hl3 with e | e
    · rw [e, show start + (m + (zs.length - st)) = (start + m) + (zs.length - st) by omega, Nat.add_mod, ← hsm]
      by_cases s0 : st = 0
      · subst s0; simp
      · rw [Nat.mod_eq_of_lt (show zs.length - st < zs.length by omega), show st + (zs.length - st) = zs.length by omega, Nat.mod_self]
    · omega
theorem setFour {w : World} {g : Nat} (h : w.heap[g]? = some (.cells #[.int .i64 0, .int .i64 0, .int .i64 0, .int .i64 0] 88 (0, 0))) (a b c d : Value) : ((((w.setCell ⟨g, 0, none⟩ a).setCell ⟨g, 1, none⟩ b).setCell ⟨g, 2, none⟩ c).setCell ⟨g, 3, none⟩ d).heap[g]? = some (.cells #[a, b, c, d] 88 (0, 0)) := by
  have h1 := Go.heap_setCell_same w g 0 _ 88 a h
  have h2 := Go.heap_setCell_same _ g 1 _ 88 b h1
  have h3 := Go.heap_setCell_same _ g 2 _ 88 c h2
  have h4 := Go.heap_setCell_same _ g 3 _ 88 d h3
  exact h4
theorem len4 : Try.prog.arrayLen 88 = 4 := by kernel_rfl
theorem slice_four (g f : Nat) (hf : f < 4) : ∀ wx, (Instr.sliceAt 88 (.pointer (some ⟨g, 0, none⟩)) (some (.int .i64 (f : Int))) none none).run Try.prog wx = .ok (.slice (some ⟨g, f, none⟩) (4 - f) (4 - f)) wx := by
  intro wx
  have hs : (sizeOf (Try.prog.elem 88)).run Try.prog wx = .ok 1 wx := by kernel_rfl
  rw [run_sliceAt_array_l wx 88 ⟨g, 0, none⟩ (by kernel_rfl) .i64 (f : Int) (by omega) (by rw [len4]; omega), hs, len4]
  have h2 : ¬ 4 = f := by omega
  simp [Result.andThen, slicedAt, h2, Addr.add_lit]
set_option maxHeartbeats 1000000 in
theorem ctx_any {w : World} {g : Nat} {zs : List Int} {start : Nat} (hr : w.heap[g]? = some (.cells (ints zs) 3 (0, 0))) (h1 : 1 ≤ zs.length) (h2 : zs.length ≤ 16) (hs : start < zs.length) :
    Calls Try.prog 78 #[.slice (some ⟨g, 0, none⟩) zs.length zs.length, .int .i64 (start : Int)] w fun e w' => ∃ C : List Int, e = .returned (.agg (ints C)) ∧ C.length = 4 ∧ (∀ i, i < 4 → C[i]? = zs[(start + i) % zs.length]?) ∧ Below w.heap.size w w' := by
  have hgl := (Array.getElem?_eq_some_iff.1 hr).1
  have HSRC : Hid (∀ x, Below w.heap.size w x → ∀ m st, st < zs.length → ∀ j v, ((ctxK zs m st).map iV)[j]? = some v → x.cell? ((⟨g, st, none⟩ : Addr).add j) = some v) := hide fun x hx m st hst j v hj => by
    rw [Addr.add_lit, hx.cell (p := ⟨g, st + j, none⟩) hgl, cell_of_row _ _ _ _ _ _ hr]
    have hjl : j < (ctxK zs m st).length := by simpa using (List.getElem?_eq_some_iff.1 hj).1
    rw [ctxK_len] at hjl
    have hj2 : j < 4 - m := Nat.lt_of_lt_of_le hjl (Nat.min_le_right _ _)
    rw [List.getElem?_map, ctxK, List.getElem?_take_of_lt hj2, List.getElem?_drop] at hj
    simp only [ints, List.getElem?_toArray, List.getElem?_map]
    exact hj
  have HT0 : Hid (CtR w ((w.alloc (.cells #[.int .i64 0, .int .i64 0, .int .i64 0, .int .i64 0] 88)).alloc (.cells #[.int .i64 0, .int .i64 0, .int .i64 0, .int .i64 0] 88)) zs start 0 start) := hide ⟨⟨[0, 0, 0, 0], by
      have := Go.heap_alloc_new (w.alloc (.cells #[.int .i64 0, .int .i64 0, .int .i64 0, .int .i64 0] 88)) (.cells #[.int .i64 0, .int .i64 0, .int .i64 0, .int .i64 0] 88)
      rw [World.size_alloc] at this
      exact this, rfl, fun i hi => by omega⟩, hs, by omega, fun _ => by rw [Nat.add_zero, Nat.mod_eq_of_lt hs], ((Below.refl _ _).alloc (Nat.le_refl _) _).alloc (by simp) _, by rw [Below.heap_alloc _ _ _ (by simp)]; exact Go.heap_alloc_new _ _⟩
  clear hr hgl
  generalize hn : zs.length = n at *
  go_enter Try.func78, Try.ntmps78
  go_wp2_with fail
  go_loopw [1, 6] (fun y x wr => ∃ m st : Nat, x = .int .i64 (m : Int) ∧ y = .int .i64 (st : Int) ∧ CtR w wr zs start m st) (fun _ x _ => 4 - (intOf x).toNat)
  case atStart => exact ⟨0, start, rfl, rfl, HT0.out⟩
  case round =>
    clear HT0
    obtain ⟨m, st, rfl, rfl, hct⟩ := hrel
    have hst := hct.sl
    have hml := hct.ml
    rw [hn] at hst
    by_cases hm : m < 4
    · obtain ⟨C, hC1, hC2, hC3⟩ := hct.c
      have HROW := hide hC1
      have HBE : Hid (Below w.heap.size w wr.drew) := hide hct.be.drew
      have HSTEP : Hid (∀ w5, w5.heap[w.heap.size + 1]? = some (.cells (splice (C.map iV) m ((ctxK zs m st).map iV)).toArray 88 (0, 0)) → Below (w.heap.size + 1) wr.drew w5 → _) := hide fun w5 (y1 : w5.heap[w.heap.size + 1]? = some (.cells (splice (C.map iV) m ((ctxK zs m st).map iV)).toArray 88 (0, 0))) (y2 : Below (w.heap.size + 1) wr.drew w5) => hct.step hm hC2 hC3 y1 ⟨y2.os, y2.tape, y2.output, y2.size, y2.block⟩
      have HLN : Hid (((ctxK zs m st).map iV).length = Nat.min (n - st) (4 - m)) := hide (by rw [List.length_map, ctxK_len, hn])
      have HFIT : Hid (m + ((ctxK zs m st).map iV).length ≤ (C.map iV).length) := hide (by rw [List.length_map, List.length_map, ctxK_len, hC2]; have := Nat.min_le_right (zs.length - st) (4 - m); show m + Nat.min (zs.length - st) (4 - m) ≤ 4; have e : Nat.min (zs.length - st) (4 - m) ≤ 4 - m := this; omega)
      have HONE : Hid (∀ v ∈ (ctxK zs m st).map iV, v.oneCell' = true) := hide fun v hv => by
        obtain ⟨z, -, rfl⟩ := List.mem_map.1 hv
        rfl
      have HSR : Hid (∀ j v, ((ctxK zs m st).map iV)[j]? = some v → wr.drew.cell? ((⟨g, st, none⟩ : Addr).add j) = some v) := hide (HSRC.out _ HBE.out m st hst)
      have hst2 : st ≤ n := by omega
      have hst3 : (n = st) = False := by simp; omega
      have hsf := slice_four (w.heap.size + 1) m hm
      clear hct hC1 hC3 HSRC
      go_wp2_with fail
      go_region_law (go_loud (refine step_copy_splice rfl (.tmp 11) (.tmp 14) 25 25 rfl 3 Try.underlying25 (by kernel_rfl) (some ⟨w.heap.size + 1, m, none⟩) (some ⟨g, st, none⟩) (4 - m) (4 - m) (n - st) (n - st) rfl rfl (w.heap.size + 1) m (C.map iV) 88 HROW.out ((ctxK zs m st).map iV) HLN.out (fun _ => ⟨rfl, _, rfl, HSR.out⟩) HFIT.out HONE.out (w.heap.size + 1) wr.drew (Below.refl _ _) (Nat.le_refl _) ?_; intro w5 HG5 HB5))
      obtain ⟨q1, q2, q3⟩ := HSTEP.out w5 HG5.out HB5
      have HN := hide q1
      clear q1 HSTEP HLN HFIT HONE HSR HROW HBE HG5 HB5 hsf hst2 hst3
      generalize (ctxK zs m st).length = kk at *
      go_wp2_with fail
      go_roundw
      case rel => exact ⟨m + kk, 0, by go_num, rfl, HN.out⟩
      case measure => simp [intOf]; omega
    · have em : m = 4 := by omega
      subst em
      obtain ⟨C, hC1, hC2, hC3⟩ := hct.c
      have hbe := hct.be
      have hrb := hct.rb
      have HF : Hid ((∀ i, i < 4 → C[i]? = zs[(start + i) % n]?) ∧ ∀ a0 a1 a2 a3, Below w.heap.size w ((((wr.setCell ⟨w.heap.size, 0, none⟩ a0).setCell ⟨w.heap.size, 1, none⟩ a1).setCell ⟨w.heap.size, 2, none⟩ a2).setCell ⟨w.heap.size, 3, none⟩ a3)) := hide ⟨by rw [← hn]; exact hC3, fun a0 a1 a2 a3 => ⟨hbe.os, hbe.tape, hbe.output, by simp only [World.size_setCell]; exact hbe.size, fun b hb => by
        rw [Go.heap_setCell_other _ _ _ _ (show b ≠ w.heap.size by omega), Go.heap_setCell_other _ _ _ _ (show b ≠ w.heap.size by omega), Go.heap_setCell_other _ _ _ _ (show b ≠ w.heap.size by omega), Go.heap_setCell_other _ _ _ _ (show b ≠ w.heap.size by omega)]
        exact hbe.block b hb⟩⟩
      have z0 : wr.cell? ⟨w.heap.size, 0, none⟩ = some (.int .i64 0) := cell_of_row _ _ _ _ _ _ hrb
      have z1 : wr.cell? ⟨w.heap.size, 1, none⟩ = some (.int .i64 0) := cell_of_row _ _ _ _ _ _ hrb
      have z2 : wr.cell? ⟨w.heap.size, 2, none⟩ = some (.int .i64 0) := cell_of_row _ _ _ _ _ _ hrb
      have z3 : wr.cell? ⟨w.heap.size, 3, none⟩ = some (.int .i64 0) := cell_of_row _ _ _ _ _ _ hrb
      have f0 := frozen_of_row _ _ 0 _ 88 hrb
      have f1 := frozen_of_row _ _ 1 _ 88 hrb
      have f2 := frozen_of_row _ _ 2 _ 88 hrb
      have f3 := frozen_of_row _ _ 3 _ 88 hrb
      clear hct HSRC
      match C, hC2 with
      | [a0, a1, a2, a3], _ =>
        have r0 : wr.cell? ⟨w.heap.size + 1, 0, none⟩ = some (.int .i64 a0) := (cell_of_row _ _ _ _ _ _ hC1)
        have r1 : wr.cell? ⟨w.heap.size + 1, 1, none⟩ = some (.int .i64 a1) := (cell_of_row _ _ _ _ _ _ hC1)
        have r2 : wr.cell? ⟨w.heap.size + 1, 2, none⟩ = some (.int .i64 a2) := (cell_of_row _ _ _ _ _ _ hC1)
        have r3 : wr.cell? ⟨w.heap.size + 1, 3, none⟩ = some (.int .i64 a3) := (cell_of_row _ _ _ _ _ _ hC1)
        clear hC1 hC3 hbe
        have HRB := hide (setFour hrb (.int .i64 a0) (.int .i64 a1) (.int .i64 a2) (.int .i64 a3))
        clear hrb
        go_wp2_with fail
        exact bodyPost_ret (v := .agg #[.int .i64 a0, .int .i64 a1, .int .i64 a2, .int .i64 a3]) (results_cell_row rfl _ _ w.heap.size 88 _ (0, 0) _ rfl HRB.out Try.underlying88 rfl (by kernel_rfl)) rfl ⟨[a0, a1, a2, a3], rfl, rfl, HF.out.1, HF.out.2 _ _ _ _⟩
end Go.Proofs.Ytlkccencilhacaa
