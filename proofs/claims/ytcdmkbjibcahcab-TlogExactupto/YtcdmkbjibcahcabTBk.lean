import Derived.Test.YtcdmkbjibcahcabTRt
import Derived.Test.YtcdmkbjibcahcabTHp
namespace Go.Proofs.Ytcdmkbjibcahcab
open Go.RowKit
set_option linter.unusedVariables false
set_option linter.unusedSimpArgs false
set_option maxRecDepth 20000

abbrev VL := List (Value × List En)
/-- a list of lists in memory -/
structure VRow (w : World) (v : Value) (F : VL) : Prop where
  own : w.ownsRow 0 46 1 v F.length (F.map Prod.fst)
  each : ∀ x ∈ F, ERow w x.1 x.2
/-- the book of what was handed out -/
structure Bk (w : World) (b : Nat) (fv wv kv tv : Value) (mk : Nat) (F W K T : VL) : Prop where
  row : w.heap[b]? = some (.cells #[fv, wv, kv, tv, .int .i64 (mk : Int)] 32 (0, 0))
  lf : VRow w fv F
  lw : VRow w wv W
  lk : VRow w kv K
  lt : VRow w tv T
  fw : F.map Prod.snd = W.map Prod.snd
  kt : K.map Prod.snd = T.map Prod.snd
def v0 : Value × List En := (.slice none 0 0, [])
theorem VRow.below {w w' : World} {v : Value} {F : VL} (h : VRow w v F) (hb : Below w.heap.size w w') : VRow w' v F := ⟨rowKept h.own fun g e => hb.block g (World.ownsRow.lt h.own g e).2, fun x hx => (h.each x hx).below hb⟩
theorem Bk.below {w w' : World} {b : Nat} {fv wv kv tv : Value} {mk : Nat} {F W K T : VL} (h : Bk w b fv wv kv tv mk F W K T) (hb : Below w.heap.size w w') : Bk w' b fv wv kv tv mk F W K T := ⟨(hb.block b (Array.getElem?_eq_some_iff.1 h.row).1).trans h.row, h.lf.below hb, h.lw.below hb, h.lk.below hb, h.lt.below hb, h.fw, h.kt⟩
theorem VRow.form {w : World} {v : Value} {F : VL} (h : VRow w v F) : ∃ a c, v = .slice a F.length c ∧ F.length ≤ c ∧ c ≤ maxLen ∧ ∀ j, j < F.length → (∃ g, a = some ⟨g, 0, none⟩ ∧ w.cell? ⟨g, j, none⟩ = some (F.getD j v0).1) ∧ ERow w (F.getD j v0).1 (F.getD j v0).2 := by
  have h' : w.ownsRow 0 46 1 v F.length (F.map Prod.fst) := h.own
  have he : ∀ j, j < F.length → ERow w (F.getD j v0).1 (F.getD j v0).2 := fun j hj => by
    have e : F.getD j v0 = F[j] := by simp [List.getD, hj]
    rw [e]
    exact h.each _ (List.getElem_mem hj)
  rcases h'.2 with ⟨rfl, hz⟩ | ⟨g, cap, cur, rfl, _, _, h1, h2, _⟩
  · exact ⟨none, 0, by rw [hz], by omega, by unfold maxLen; omega, fun j hj => by omega⟩
  · refine ⟨_, _, rfl, h1, h2, fun j hj => ⟨⟨g, rfl, ?_⟩, he j hj⟩⟩
    have hg : (F.map Prod.fst)[j]? = some (F.getD j v0).1 := by simp [List.getD, hj]
    have := h'.cells (g := g) rfl j _ hg
    rwa [Addr.add_lit, Nat.zero_add] at this
set_option maxHeartbeats 2000000 in
theorem holds_any {w : World} {b : Nat} {fv wv kv tv : Value} {mk : Nat} {F W K T : VL} (h : Bk w b fv wv kv tv mk F W K T) (hF : F.length ≤ 100000000000000) (hK : K.length ≤ 100000000000000) : Calls Try.prog 7 #[.pointer (some ⟨b, 0, none⟩)] w fun e w' => e = .returned (.bool true) ∧ Below w.heap.size w w' := by
  obtain ⟨fa, fc, rfl, f1, f2, -⟩ := h.lf.form
  obtain ⟨wa, wc, rfl, w1, w2, -⟩ := h.lw.form
  obtain ⟨ka, kc, rfl, k1, k2, -⟩ := h.lk.form
  obtain ⟨ta, tc, rfl, t1, t2, -⟩ := h.lt.form
  unfold maxLen at f2 w2 k2 t2
  have el1 : W.length = F.length := by have := congrArg List.length h.fw; simpa using this.symm
  have el2 : T.length = K.length := by have := congrArg List.length h.kt; simpa using this.symm
  have HX : Hid (∀ x, Below w.heap.size w x → (x.cell? ⟨b, 0, none⟩ = some (.slice fa F.length fc) ∧ x.cell? ⟨b, 1, none⟩ = some (.slice wa F.length wc) ∧ x.cell? ⟨b, 2, none⟩ = some (.slice ka K.length kc) ∧ x.cell? ⟨b, 3, none⟩ = some (.slice ta K.length tc)) ∧ (∀ j, j < F.length → ∃ g g' u u', fa = some ⟨g, 0, none⟩ ∧ wa = some ⟨g', 0, none⟩ ∧ x.cell? ⟨g, j, none⟩ = some u ∧ x.cell? ⟨g', j, none⟩ = some u' ∧ ∀ y, Below x.heap.size x y → Calls Try.prog 18 #[u, u'] y fun e w' => e = .returned (.bool true) ∧ Below y.heap.size y w') ∧ (∀ j, j < K.length → ∃ g g' u u', ka = some ⟨g, 0, none⟩ ∧ ta = some ⟨g', 0, none⟩ ∧ x.cell? ⟨g, j, none⟩ = some u ∧ x.cell? ⟨g', j, none⟩ = some u' ∧ ∀ y, Below x.heap.size x y → Calls Try.prog 18 #[u, u'] y fun e w' => e = .returned (.bool true) ∧ Below y.heap.size y w')) := hide fun x hb => by
    have hx := h.below hb
    have hc := fun i => cell_of_row x b i _ 32 (0, 0) hx.row
    refine ⟨⟨by rw [hc]; rfl, by rw [hc, ← el1]; rfl, by rw [hc]; rfl, by rw [hc, ← el2]; rfl⟩, fun j hj => ?_, fun j hj => ?_⟩
    · obtain ⟨a, c, e, -, -, hq⟩ := hx.lf.form
      obtain ⟨a', c', e', -, -, hq'⟩ := hx.lw.form
      injection e with e1
      injection e' with e1'
      subst e1
      subst e1'
      obtain ⟨⟨g, rfl, q1⟩, r1⟩ := hq j hj
      obtain ⟨⟨g', rfl, q2⟩, r2⟩ := hq' j (by omega)
      refine ⟨g, g', _, _, rfl, rfl, q1, q2, fun y hy => ?_⟩
      have hse := sameEntries_any y _ _ _ _ (r1.below hy) (r2.below hy)
      have heq : (F.getD j v0).2 = (W.getD j v0).2 := by
        have := congrArg (fun l => l[j]?) h.fw
        have hj2 : j < W.length := by omega
        simpa [List.getD, hj, hj2] using this
      rwa [decide_eq_true heq] at hse
    · obtain ⟨a, c, e, -, -, hq⟩ := hx.lk.form
      obtain ⟨a', c', e', -, -, hq'⟩ := hx.lt.form
      injection e with e1
      injection e' with e1'
      subst e1
      subst e1'
      obtain ⟨⟨g, rfl, q1⟩, r1⟩ := hq j hj
      obtain ⟨⟨g', rfl, q2⟩, r2⟩ := hq' j (by omega)
      refine ⟨g, g', _, _, rfl, rfl, q1, q2, fun y hy => ?_⟩
      have hse := sameEntries_any y _ _ _ _ (r1.below hy) (r2.below hy)
      have heq : (K.getD j v0).2 = (T.getD j v0).2 := by
        have := congrArg (fun l => l[j]?) h.kt
        have hj2 : j < T.length := by omega
        simpa [List.getD, hj, hj2] using this
      rwa [decide_eq_true heq] at hse
  clear h
  rw [el1] at w1
  rw [el2] at t1
  clear el1 el2
  generalize F.length = n at *
  generalize K.length = m at *
  obtain ⟨⟨c0, c1, c2, c3⟩, -, -⟩ := HX.out w (Below.refl _ _)
  go_enter Try.func7, Try.ntmps7
  go_wp2_with fail
  go_loopw [3] (fun x wr => ∃ j : Nat, j ≤ n ∧ x = .int .i64 (j : Int) ∧ Below w.heap.size w wr) (fun x _ => n - (intOf x).toNat)
  case atStart => exact ⟨0, Nat.zero_le _, rfl, Below.refl _ _⟩
  case round =>
    clear c0 c1 c2 c3
    obtain ⟨j, hj, rfl, hb⟩ := hrel
    obtain ⟨⟨c0, c1, c2, c3⟩, hq1, hq2⟩ := HX.out _ hb
    have HB := hide hb
    clear hb
    by_cases hlt : j < n
    · have hli : (j : Int) < (n : Int) := by omega
      obtain ⟨g, g', u, u', rfl, rfl, d0, d1, hse⟩ := hq1 j hlt
      have HSE := hide (hse wr.drew ⟨rfl, rfl, rfl, Nat.le_refl _, fun _ _ => rfl⟩)
      clear hq1 hq2 hse HX
      go_wp2_with fail
      refine wp_still_tail 14 (by kernel_rfl) (by kernel_rfl) ?_
      simp only [List.take_succ_cons, List.take_zero, List.drop_succ_cons, List.drop_zero]
      repeat still_step
      refine wpStill_nil ?_
      go_wp2_with (go_at_call 18; refine HSE.out.mono ?_; rintro e w1 ⟨rfl, q⟩; have HB1 := hide (HB.out.trans ((show Below wr.heap.size wr w1 from ⟨q.os, q.tape, q.output, q.size, q.block⟩).mono HB.out.size)); clear q)
      go_roundw
      case rel => exact ⟨j + 1, by omega, by go_num, HB1.out⟩
      case measure => simp [intOf]; omega
    · have hli : ¬ (j : Int) < (n : Int) := by omega
      clear hq1 hq2
      go_wp2_with fail
      go_loopw [4] (fun x wr => ∃ j : Nat, j ≤ m ∧ x = .int .i64 (j : Int) ∧ Below w.heap.size w wr) (fun x _ => m - (intOf x).toNat)
      case atStart => exact ⟨0, Nat.zero_le _, rfl, HB.out⟩
      case round =>
        clear c0 c1 c2 c3 HB hli
        obtain ⟨i, hi, rfl, hb⟩ := hrel
        obtain ⟨⟨c0, c1, c2, c3⟩, hq1, hq2⟩ := HX.out _ hb
        have HB := hide hb
        clear hb
        by_cases hlt : i < m
        · have hli : (i : Int) < (m : Int) := by omega
          obtain ⟨g, g', u, u', rfl, rfl, d0, d1, hse⟩ := hq2 i hlt
          have HSE := hide (hse _ (below_drew0 _ 1))
          clear hq1 hq2 hse HX
          go_wp2_with fail
          refine wp_still_tail 14 (by kernel_rfl) (by kernel_rfl) ?_
          simp only [List.take_succ_cons, List.take_zero, List.drop_succ_cons, List.drop_zero]
          repeat still_step
          refine wpStill_nil ?_
          go_wp2_with (go_at_call 18; refine HSE.out.mono ?_; rintro e w1 ⟨rfl, q⟩; have HB1 := hide (HB.out.trans (Below.mono (show Below _ _ w1 from ⟨q.os, q.tape, q.output, q.size, q.block⟩) HB.out.size)); clear q)
          go_roundw
          case rel => exact ⟨i + 1, by omega, by go_num, HB1.out⟩
          case measure => simp [intOf]; omega
        · have hli : ¬ (i : Int) < (m : Int) := by omega
          clear hq1 hq2
          go_wp2_with fail
          go_ret
          exact ⟨rfl, HB.out⟩
end Go.Proofs.Ytcdmkbjibcahcab
