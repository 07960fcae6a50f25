import Derived.Test.YtnjlbkbhlcccmaaDoorBLateM
namespace Go.Proofs.YtnjlbkbhlcccmaaDoor
open Go.RowKit Go.Shelf
set_option linter.unusedVariables false
set_option linter.unusedSimpArgs false
set_option maxRecDepth 20000

/-- what keep leaves of a late book -/
structure Lt (w w' : World) (k : Nat) (bv raw was raw' was' v u : Value) (vs us : List Value) (l : List Nat) : Prop where
  row : w'.heap[k]? = some (.cells #[bv, .bool true, raw', was'] 32 (0, 0))
  ro : w'.ownsRow 0 22 1 raw' (vs.length + 1) (vs ++ [v])
  wo : w'.ownsRow 0 22 1 was' (us.length + 1) (us ++ [u])
  ws : WSl w' u l
  chg : Chg (fun b => b = k ∨ raw.ownBlock = some b ∨ was.ownBlock = some b) w w'
  rl : ∀ b, raw'.ownBlock = some b → raw.ownBlock = some b ∨ w.heap.size ≤ b
  wl : ∀ b, was'.ownBlock = some b → was.ownBlock = some b ∨ w.heap.size ≤ b
  ul : ∀ b, u.ownBlock = some b → w.heap.size ≤ b
  ne : ∀ b, raw'.ownBlock = some b → was'.ownBlock ≠ some b
  ub : ∀ b, u.ownBlock = some b → raw'.ownBlock ≠ some b ∧ was'.ownBlock ≠ some b ∧ b ≠ k ∧ b < w'.heap.size

set_option maxHeartbeats 2000000 in
theorem keepLate_any {w : World} {k : Nat} {bv raw was v : Value} {vs us : List Value} {l : List Nat} (hrow : w.heap[k]? = some (.cells #[bv, .bool true, raw, was] 32 (0, 0)))
    (hro : w.ownsRow 0 22 1 raw vs.length vs) (hwo : w.ownsRow 0 22 1 was us.length us) (hne : ∀ b, raw.ownBlock = some b → was.ownBlock ≠ some b) (hv : w.ownsRow 0 63 1 v l.length (l.map u64V)) (hw : WSl w v l)
    (hl : l.length ≤ 17592186044416) (hn1 : vs.length ≤ 9000000000000) (hn2 : us.length ≤ 9000000000000) :
    Calls Tryd.prog 13 #[.pointer (some ⟨k, 0, none⟩), v] w fun e w' => e = .returned (.tuple #[]) ∧ ∃ raw' was' u, Lt w w' k bv raw was raw' was' v u vs us l := by
  obtain ⟨i0, hi, hz0, hz1, hz2⟩ := info_parts info_u64
  obtain ⟨i1, hj, hy0, hy1, hy2⟩ := info_parts info_words
  obtain ⟨a, cap, rfl, hc1, hc2⟩ := rowForm hv
  obtain ⟨ar, cr, rfl, hr1, hr2⟩ := rowForm hro
  obtain ⟨aw, cw, rfl, hw1, hw2⟩ := rowForm hwo
  unfold maxLen at hc2 hr2 hw2
  have HROW := hide hrow
  have HRO := hide hro
  have HWO := hide hwo
  have HNE := hide hne
  have HV := hide hv
  have HW := hide hw.lt
  have hkl := (Array.getElem?_eq_some_iff.1 hrow).1
  have c1 : w.cell? ⟨k, 1, none⟩ = some (.bool true) := by rw [cell_of_row _ _ _ _ _ _ hrow]; rfl
  have c2 : w.cell? ⟨k, 2, none⟩ = some (.slice ar vs.length cr) := by rw [cell_of_row _ _ _ _ _ _ hrow]; rfl
  have c3 : w.cell? ⟨k, 3, none⟩ = some (.slice aw us.length cw) := by rw [cell_of_row _ _ _ _ _ _ hrow]; rfl
  have hbl0 := (Below.refl w.heap.size w).alloc (Nat.le_refl _) (.cells #[.slice a l.length cap] 22)
  have r1 := hro.alloc (.cells #[.slice a l.length cap] 22)
  have HB1 : Hid (vs.length + 1 ≤ maxLen ∧ us.length + 1 ≤ maxLen) := hide (by unfold maxLen; omega)
  have HB2 : Hid (((vs.length + 1) + (vs.length + 1) / 4 + 192) * 24 ≤ 281474976710656 ∧ ((us.length + 1) + (us.length + 1) / 4 + 192) * 24 ≤ 281474976710656) := hide (by omega)
  have HB3 : Hid (l.length ≤ maxLen ∧ (l.length + l.length / 4 + 192) * 8 ≤ 281474976710656) := hide (by unfold maxLen; omega)
  have HKV : Hid (k < w.heap.size ∧ (Value.slice ar vs.length cr).ownBlock ≠ some k ∧ (Value.slice aw us.length cw).ownBlock ≠ some k) := hide
    ⟨hkl, fun e => by obtain ⟨cs, hcs⟩ := rowCells hro e; exact neType hcs hrow (by decide) rfl, fun e => by obtain ⟨cs, hcs⟩ := rowCells hwo e; exact neType hcs hrow (by decide) rfl⟩
  have k1 : (w.alloc (.cells #[.slice a l.length cap] 22)).cell? ⟨k, 2, none⟩ = some (.slice ar vs.length cr) := (hbl0.cell (p := ⟨k, 2, none⟩) hkl).trans c2
  clear hrow hro hwo hne hv hw hl hbl0
  go_enter Tryd.func13, Tryd.ntmps13
  go_wp2_with (at_builtin; refine wpList_append1 _ rfl (.tmp 16) (.tmp 18) 30 rfl 22 i1 (.slice none 0 0) 24 Tryd.underlying30 hj hy0 hy1 hy2 rfl _ _ _ rfl r1 ⟨w.heap.size, 0, none⟩ 1 (.slice a l.length cap) rfl (cell_one_new _ _ _) rfl HB1.out.1 HB2.out.1 ?_)
  intro raw1 w5 ho5 hup5
  obtain ⟨ar1, cr1, e1, hf1, hf2⟩ := rowForm ho5
  subst e1
  obtain ⟨g1, e1⟩ : ∃ g, ar1 = some ⟨g, 0, none⟩ := by
    rcases ho5.2 with ⟨_, e⟩ | ⟨g, _, _, e, _⟩
    · omega
    · simp only [Value.slice.injEq] at e; exact ⟨g, e.1⟩
  subst e1
  have HUP5 : Hid (Upon (w.alloc (.cells #[.slice a l.length cap] 22)) w5 (.slice ar vs.length cr) (.slice (some ⟨g1, 0, none⟩) (vs.length + 1) cr1)) := hide (by unfold Upon; rw [World.size_alloc]; exact hup5)
  have old : ∀ b, b < w.heap.size → (Value.slice ar vs.length cr).ownBlock ≠ some b → w5.heap[b]? = w.heap[b]? := fun b hb hn => (HUP5.out.block b (by simp; omega) hn).trans (Below.heap_alloc _ _ b hb)
  have hr5 : w5.heap[k]? = some (.cells #[bv, .bool true, .slice ar vs.length cr, .slice aw us.length cw] 32 (0, 0)) := (old k hkl HKV.out.2.1).trans HROW.out
  have k5 : w5.cell? ⟨k, 2, none⟩ = some (.slice ar vs.length cr) := by rw [cell_of_row _ _ _ _ _ _ hr5]; rfl
  have f5 : w5.frozen? ⟨k, 2, none⟩ = false := frozen_of_row _ _ _ _ 32 hr5
  have hr6 : (w5.setCell ⟨k, 2, none⟩ (.slice (some ⟨g1, 0, none⟩) (vs.length + 1) cr1)).heap[k]? = some (.cells #[bv, .bool true, .slice (some ⟨g1, 0, none⟩) (vs.length + 1) cr1, .slice aw us.length cw] 32 (0, 0)) := by
    rw [Go.heap_setCell_same w5 k 2 _ 32 _ hr5]; rfl
  have HR6 := hide hr6
  have HO6 : Hid ((w5.setCell ⟨k, 2, none⟩ (.slice (some ⟨g1, 0, none⟩) (vs.length + 1) cr1)).ownsRow 0 22 1 (.slice (some ⟨g1, 0, none⟩) (vs.length + 1) cr1) (vs.length + 1) (vs ++ [.slice a l.length cap])) := hide (rowKept ho5 fun b hb => Go.heap_setCell_other _ _ _ _ (by
    obtain ⟨cs, hcs⟩ := rowCells ho5 hb
    exact neType hcs hr5 (by decide)))
  have HOLD : Hid (∀ b, b < w.heap.size → b ≠ k → (Value.slice ar vs.length cr).ownBlock ≠ some b → (w5.setCell ⟨k, 2, none⟩ (.slice (some ⟨g1, 0, none⟩) (vs.length + 1) cr1)).heap[b]? = w.heap[b]?) := hide fun b h1 h2 h3 => by
    rw [Go.heap_setCell_other _ _ _ _ h2]; exact old b h1 h3
  have HSZ : Hid (w.heap.size + 1 ≤ (w5.setCell ⟨k, 2, none⟩ (.slice (some ⟨g1, 0, none⟩) (vs.length + 1) cr1)).heap.size) := hide (by
    have := HUP5.out.size
    simp [World.setCell] at *
    omega)
  have HL1 : Hid (∀ b, (Value.slice (some ⟨g1, 0, none⟩) (vs.length + 1) cr1).ownBlock = some b → (Value.slice ar vs.length cr).ownBlock = some b ∨ w.heap.size ≤ b) := hide fun b hb => by
    rcases HUP5.out.loc b hb with h | h
    · exact .inl h
    · rw [h]; exact .inr (by simp)
  have HSAME : Hid ((w5.setCell ⟨k, 2, none⟩ (.slice (some ⟨g1, 0, none⟩) (vs.length + 1) cr1)).os = w.os ∧ (w5.setCell ⟨k, 2, none⟩ (.slice (some ⟨g1, 0, none⟩) (vs.length + 1) cr1)).tape = w.tape ∧ (w5.setCell ⟨k, 2, none⟩ (.slice (some ⟨g1, 0, none⟩) (vs.length + 1) cr1)).output = w.output) := hide HUP5.out.same
  clear ho5 hup5 old hr5 hr6 r1 k1 c1 c2 c3 HUP5
  go_wp2_with fail
  generalize hW6 : w5.setCell ⟨k, 2, none⟩ (.slice (some ⟨g1, 0, none⟩) (vs.length + 1) cr1) = w6 at *
  clear hW6 k5 f5
  have HWB : Hid (∀ b, (Value.slice aw us.length cw).ownBlock = some b → b < w.heap.size ∧ b ≠ k ∧ (Value.slice ar vs.length cr).ownBlock ≠ some b) := hide fun b e => ⟨(HWO.out.lt b e).2, fun h => HKV.out.2.2 (h ▸ e), fun h => HNE.out b h e⟩
  have HVB : Hid (∀ b, (Value.slice a l.length cap).ownBlock = some b → b < w.heap.size ∧ b ≠ k ∧ (Value.slice ar vs.length cr).ownBlock ≠ some b) := hide fun b e => by
    obtain ⟨cs, hcs⟩ := rowCells HV.out e
    exact ⟨(HV.out.lt b e).2, neType hcs HROW.out (by decide), fun h => by obtain ⟨ds, hds⟩ := rowCells HRO.out h; exact neType hcs hds (by decide) rfl⟩
  have HWO6 := hide (rowKept (w' := w6) HWO.out fun b e => HOLD.out b (HWB.out b e).1 (HWB.out b e).2.1 (HWB.out b e).2.2)
  have HV7 : Hid ((w6.alloc (.cells #[] 63)).drew.ownsRow 0 63 1 (.slice a l.length cap) l.length (l.map u64V)) := hide (rowKept HV.out fun b e => by
    have h1 := HVB.out b e
    have hs := HSZ.out
    show (w6.alloc (.cells #[] 63)).heap[b]? = _
    rw [Below.heap_alloc _ _ b (by omega)]
    exact HOLD.out b h1.1 h1.2.1 h1.2.2)
  have HG0 : Hid ((w6.alloc (.cells #[] 63)).drew.heap[w6.heap.size]? = some (.cells #[] 63 (0, 0))) := hide (Go.heap_alloc_new w6 _)
  have d6 : w6.cell? ⟨k, 3, none⟩ = some (.slice aw us.length cw) := by rw [cell_of_row _ _ _ _ _ _ HR6.out]; rfl
  have d7 : (w6.alloc (.cells #[] 63)).cell? ⟨k, 3, none⟩ = some (.slice aw us.length cw) := (World.cell?_of_block (Below.heap_alloc _ _ k (by have := HSZ.out; omega))).trans d6
  have HKEEP : Hid (∀ w8, (w6.alloc (.cells #[] 63)).drew.grownBy w8 (some w6.heap.size) → ∀ b, b < w6.heap.size → w8.heap[b]? = w6.heap[b]?) := hide fun w8 hg b hb => (hg.block b (by simp; omega) (fun e => by injection e with e; omega)).trans (Below.heap_alloc _ _ b hb)
  have hks : k < w6.heap.size := by have := HSZ.out; omega
  have hwa := HSZ.out
  go_region_law (first
    | (refine step_appAll _ rfl (.tmp 27) (.tmp 28) 22 rfl 63 i0 (.int .u64 0) 8 Tryd.underlying22 hi hz0 hz1 hz2 rfl w6.heap.size rfl HG0.out (.slice a l.length cap) l.length (l.map u64V) rfl HV7.out (u64V_oneCell l) HB3.out.1 HB3.out.2 ?_; intro ad c w8 ho8 hg8 hloc8; have HO8 := hide ho8; have HK8 := hide (HKEEP.out w8 hg8); have HG8 := hide hg8; have HLOC8 := hide hloc8; have d8 : w8.cell? ⟨k, 3, none⟩ = some (.slice aw us.length cw) := (World.cell?_of_block (HK8.out k hks)).trans d6; have d9 : (w8.alloc (.cells #[.slice (some ad) l.length c] 22)).cell? ⟨k, 3, none⟩ = some (.slice aw us.length cw) := (World.cell?_of_block (Below.heap_alloc _ _ k (by have := hg8.size; simp at this; omega))).trans d8; have HWO9 := hide ((rowKept (w' := w8) HWO6.out (fun b e => HK8.out b (HWO6.out.lt b e).2)).alloc (.cells #[.slice (some ad) l.length c] 22)); clear ho8 hg8 hloc8)
    | (refine step_append1 _ rfl (.tmp 26) (.tmp 30) 30 rfl 22 i1 (.slice none 0 0) 24 Tryd.underlying30 hj hy0 hy1 hy2 rfl (.slice aw us.length cw) us.length us rfl HWO9.out ⟨w8.heap.size, 0, none⟩ 1 (.slice (some ad) l.length c) rfl (cell_one_new _ _ _) rfl HB1.out.2 HB2.out.2 ?_; intro was2 w9 ho9 hup9; obtain ⟨aw2, cw2, e2, hx1, hx2⟩ := rowForm ho9; subst e2; obtain ⟨g2, e2⟩ : ∃ g, aw2 = some ⟨g, 0, none⟩ := (by rcases ho9.2 with ⟨_, e⟩ | ⟨g, _, _, e, _⟩; (· omega); (· simp only [Value.slice.injEq] at e; exact ⟨g, e.1⟩)); subst e2; have HO9 := hide ho9; have HUP9 := hide hup9; have hr9 : w9.heap[k]? = some (.cells #[bv, .bool true, .slice (some ⟨g1, 0, none⟩) (vs.length + 1) cr1, .slice aw us.length cw] 32 (0, 0)) := (HUP9.out.block k (by have := HG8.out.size; simp at this ⊢; omega) HKV.out.2.2).trans ((Below.heap_alloc _ _ k (by have := HG8.out.size; simp at this; omega)).trans ((HK8.out k hks).trans HR6.out)); have k9 : w9.cell? ⟨k, 3, none⟩ = some (.slice aw us.length cw) := (by rw [cell_of_row _ _ _ _ _ _ hr9]; rfl); have f9 : w9.frozen? ⟨k, 3, none⟩ = false := frozen_of_row _ _ _ _ 32 hr9; have HR9 := hide hr9; clear ho9 hup9 hr9))
  all_goals
    have HFIN : Hid (Lt w (w9.setCell ⟨k, 3, none⟩ (.slice (some ⟨g2, 0, none⟩) (us.length + 1) cw2)) k bv (.slice ar vs.length cr) (.slice aw us.length cw) (.slice (some ⟨g1, 0, none⟩) (vs.length + 1) cr1) (.slice (some ⟨g2, 0, none⟩) (us.length + 1) cw2) (.slice a l.length cap) (.slice (some ad) l.length c) vs us l) := hide (by
      have hs8 := HG8.out.size
      have hs9 := HUP9.out.size
      have e6 : (w6.alloc (.cells #[] 63)).drew.heap.size = w6.heap.size + 1 := by simp
      rw [e6] at hs8
      rw [World.size_alloc] at hs9
      have F : ∀ b, b < w8.heap.size → b ≠ k → (Value.slice aw us.length cw).ownBlock ≠ some b → (w9.setCell ⟨k, 3, none⟩ (.slice (some ⟨g2, 0, none⟩) (us.length + 1) cw2)).heap[b]? = w8.heap[b]? := fun b h1 h2 h3 => by
        rw [Go.heap_setCell_other _ _ _ _ h2, HUP9.out.block b (by simp; omega) h3, Below.heap_alloc _ _ b h1]
      have hwb : ∀ b, (Value.slice aw us.length cw).ownBlock = some b → b < w.heap.size := fun b e => (HWB.out b e).1
      have hra : ∀ b, (Value.slice (some ⟨g1, 0, none⟩) (vs.length + 1) cr1).ownBlock = some b → b < w6.heap.size ∧ b ≠ k ∧ (Value.slice aw us.length cw).ownBlock ≠ some b := fun b e => by
        obtain ⟨cs, hcs⟩ := rowCells HO6.out e
        refine ⟨(HO6.out.lt b e).2, neType hcs HR6.out (by decide), fun h => ?_⟩
        rcases HL1.out b e with h2 | h2
        · exact HNE.out b h2 h
        · have := hwb b h; omega
      have hub : ∀ b, (Value.slice (some ad) l.length c).ownBlock = some b → w6.heap.size ≤ b ∧ b < w8.heap.size := fun b e => by
        have h1 := (HO8.out.lt b e).2
        simp only [Value.ownBlock, Option.some.injEq] at e
        rcases HLOC8.out with h | h
        · exact ⟨by omega, h1⟩
        · rw [e6] at h; exact ⟨by omega, h1⟩
      refine ⟨?_, ?_, ?_, ?_, ?_, HL1.out, fun b e => ?_, fun b e => ?_, fun b e e2 => ?_, fun b e => ?_⟩
      · rw [Go.heap_setCell_same w9 k 3 _ 32 _ HR9.out]; rfl
      · exact rowKept HO6.out fun b e => (F b (by have := (hra b e).1; omega) (hra b e).2.1 (hra b e).2.2).trans (HK8.out b (hra b e).1)
      · exact rowKept HO9.out fun b e => Go.heap_setCell_other _ _ _ _ (by
          obtain ⟨cs, hcs⟩ := rowCells HO9.out e
          exact neType hcs HR9.out (by decide))
      · exact wsl_of_row (rowKept HO8.out fun b e => F b (hub b e).2 (by have := (hub b e).1; omega) (fun h => by have := hwb b h; have := (hub b e).1; omega)) HW.out
      · obtain ⟨s1, s2, s3⟩ := HUP9.out.same
        refine ⟨(s1.trans HG8.out.os).trans HSAME.out.1, (s2.trans HG8.out.tape).trans HSAME.out.2.1, (s3.trans HG8.out.output).trans HSAME.out.2.2, by simp [World.setCell]; omega, fun b hb hn => ?_⟩
        exact (F b (by omega) (fun e => hn (.inl e)) (fun e => hn (.inr (.inr e)))).trans ((HK8.out b (by omega)).trans (HOLD.out b hb (fun e => hn (.inl e)) (fun e => hn (.inr (.inl e)))))
      · rcases HUP9.out.loc b e with h | h
        · exact .inl h
        · rw [h]; exact .inr (by simp; omega)
      · have := (hub b e).1; omega
      · rcases HUP9.out.loc b e2 with h | h
        · exact (hra b e).2.2 h
        · have := (hra b e).1; rw [h] at this; simp at this; omega
      · obtain ⟨u1, u2⟩ := hub b e
        have hz : (w9.setCell ⟨k, 3, none⟩ (.slice (some ⟨g2, 0, none⟩) (us.length + 1) cw2)).heap.size = w9.heap.size := by simp [World.setCell]
        refine ⟨fun e2 => ?_, fun e2 => ?_, by omega, by omega⟩
        · have := (hra b e2).1; omega
        · rcases HUP9.out.loc b e2 with h | h
          · have := hwb b h; omega
          · rw [World.size_alloc] at h; omega)
    go_wp2_with fail
    refine bodyPost_ret (results_none rfl _ _ _) rfl ?_
    exact ⟨rfl, _, _, _, HFIN.out⟩
end Go.Proofs.YtnjlbkbhlcccmaaDoor
