import Derived.Test.YtophcdfaflehcaaDoorWLp2
import Derived.Test.YtophcdfaflehcaaDoorWArg
import Derived.Test.YtophcdfaflehcaaDoorWRnd3
namespace Go.Proofs.YtophcdfaflehcaaDoor
open Go.RowKit
set_option linter.unusedVariables false
set_option linter.unusedSimpArgs false
set_option maxRecDepth 20000

set_option maxHeartbeats 1000000 in
theorem sameWords_any {w : World} {v1 v2 : Value} {l : List Nat} (h1 : WSl w v1 l) (h2 : WSl w v2 l) (hr : l.length ≤ 17592186044416) : Calls Tryd.prog 16 #[v1, v2] w fun e w' => e = .returned (.bool true) ∧ Below w.heap.size w w' := by
  obtain ⟨a1, c1, rfl, q1, q2, q3, q4, q5⟩ := h1
  obtain ⟨a2, c2, rfl, r1, r2, r3, r4, r5⟩ := h2
  unfold maxLen at q2 r2
  have HC : Hid (∀ i, i < l.length → ∃ b1 o1 b2 o2, a1 = some ⟨b1, o1, none⟩ ∧ a2 = some ⟨b2, o2, none⟩ ∧ w.cell? ⟨b1, o1 + i, none⟩ = some (.int .u64 (l.getD i 0 : Nat)) ∧ w.cell? ⟨b2, o2 + i, none⟩ = some (.int .u64 (l.getD i 0 : Nat))) := hide fun i hi => by
    obtain ⟨b1, o1, e1, k1⟩ := q5 (by omega)
    obtain ⟨b2, o2, e2, k2⟩ := r5 (by omega)
    exact ⟨b1, o1, b2, o2, e1, e2, k1 i hi, k2 i hi⟩
  clear q3 q4 q5 r3 r4 r5
  generalize l.length = n at *
  go_enter Tryd.func16, Tryd.ntmps16
  go_wp2_with fail
  go_loopw [5] (fun y wr => ∃ i q : Nat, i ≤ n ∧ y = .int .i64 (i : Int) ∧ wr = w.drewN q) (fun y _ => n - (intOf y).toNat)
  case atStart => exact ⟨0, 0, Nat.zero_le _, rfl, rfl⟩
  case round =>
    obtain ⟨i, q, hi, rfl, hwr⟩ := hrel
    have HWR := hide hwr
    by_cases hlt : i < n
    · obtain ⟨b1, o1, b2, o2, rfl, rfl, k1, k2⟩ := HC.out i hlt
      have hii : 0 ≤ (i : Int) ∧ (i : Int) < (n : Int) := ⟨by omega, by omega⟩
      have d1 : wr.cell? ⟨b1, o1 + i, none⟩ = some (.int .u64 (l.getD i 0 : Nat)) := by rw [hwr]; exact k1
      have d2 : wr.cell? ⟨b2, o2 + i, none⟩ = some (.int .u64 (l.getD i 0 : Nat)) := by rw [hwr]; exact k2
      generalize l.getD i 0 = x at *
      clear k1 k2 hwr
      go_wp2_with fail
      go_quiet (fail)
      go_wp2_with fail
      go_roundw
      case rel => exact ⟨i + 1, _, by omega, by go_num, by rw [HWR.out]; exact World.drewN_drewN ..⟩
      case measure => simp [intOf]; omega
    · have hnl : ¬ (i : Int) < (n : Int) := by omega
      clear hwr
      go_wp2_with fail
      go_ret
      exact ⟨rfl, by rw [HWR.out]; exact ⟨rfl, rfl, rfl, Nat.le_refl _, fun _ _ => rfl⟩⟩
/-- one's own words, whatever they hold -/
def ZRow (w : World) (v : Value) (n : Nat) : Prop := ∃ zs : List Int, zs.length = n ∧ w.ownsRow 0 28 1 v n (zs.map fun z => .int .u64 z)
theorem URow.z {w : World} {v : Value} {l : List Nat} (h : URow w v l) : ZRow w v l.length := ⟨l.map fun x : Nat => (x : Int), by simp, by
  have h' : w.ownsRow 0 28 1 v l.length (l.map u64V) := h
  rw [List.map_map]
  exact h'⟩
theorem ZRow.kept {w w' : World} {v : Value} {n : Nat} (h : ZRow w v n) (hk : ∀ g, v.ownBlock = some g → w'.heap[g]? = w.heap[g]?) : ZRow w' v n := by
  obtain ⟨zs, h0, h1, h2⟩ := h
  refine ⟨zs, h0, h1, ?_⟩
  rcases h2 with h3 | ⟨g, cap, cur, rfl, k1, hg, r⟩
  · exact .inl h3
  · exact .inr ⟨g, cap, cur, rfl, k1, by rw [hk g rfl]; exact hg, r⟩
theorem ZRow.at {w : World} {v : Value} {n i : Nat} (h : ZRow w v n) (hi : i < n) : ∃ g cap z cs, v = .slice (some ⟨g, 0, none⟩) n cap ∧ n ≤ cap ∧ cap ≤ maxLen ∧ w.heap[g]? = some (.cells cs 28 (0, 0)) ∧ w.cell? ⟨g, i, none⟩ = some (.int .u64 z) ∧ ∀ y, ZRow (w.setCell ⟨g, i, none⟩ (.int .u64 y)) v n := by
  obtain ⟨zs, h0, h1⟩ := h
  have h1' := h1
  rcases h1.2 with ⟨_, e0⟩ | ⟨g, cap, cur, rfl, k1, hg, k2, k3, k4, k5⟩
  · omega
  · have hc := h1.cells (g := g) rfl i (.int .u64 (zs.getD i 0)) (by simp [List.getElem?_map, List.getD, h0, hi])
    rw [Addr.add_lit, Nat.zero_add] at hc
    refine ⟨g, cap, zs.getD i 0, cur, rfl, k2, k3, hg, hc, fun y => ⟨zs.set i y, by simpa using h0, by simp [h0], ?_⟩⟩
    refine .inr ⟨g, cap, cur.setIfInBounds i (.int .u64 y), rfl, k1, Go.heap_setCell_same w g i _ 28 _ hg, k2, k3, by simpa using k4, ?_⟩
    rw [Array.toList_setIfInBounds, List.take_set, k5, List.map_set]
theorem ZRow.form {w : World} {v : Value} {n : Nat} (h : ZRow w v n) : ∃ a c, v = .slice a n c ∧ n ≤ c ∧ c ≤ maxLen := by
  obtain ⟨zs, h0, h1⟩ := h
  rcases h1.2 with ⟨rfl, e0⟩ | ⟨g, cap, cur, rfl, _, _, k1, k2, _⟩
  · rw [e0]; exact ⟨_, _, rfl, Nat.le_refl _, Nat.zero_le _⟩
  · exact ⟨_, _, rfl, k1, k2⟩
theorem ZRow.loc {w : World} {v : Value} {n : Nat} (h : ZRow w v n) {g : Nat} (hg : v.ownBlock = some g) : g < w.heap.size := by
  obtain ⟨zs, h0, h1⟩ := h
  rcases h1.2 with ⟨rfl, _⟩ | ⟨g', cap, cur, rfl, _, hh, _⟩
  · simp [Value.ownBlock] at hg
  · simp only [Value.ownBlock, Option.some.injEq] at hg
    subst hg
    exact (Array.getElem?_eq_some_iff.1 hh).1
/-- both walks in the law's run -/
structure WW (w W : World) (p q : Nat) (L : List Int) : Prop where
  bel : Below w.heap.size w W
  wp : WX W (fun _ => True) p L
  wq : VX W (fun _ => True) q L
  lp : w.heap.size ≤ p
  lq : w.heap.size ≤ q
theorem WW.kept {w W W' : World} {p q : Nat} {L : List Int} (h : WW w W p q L) (hb : Below w.heap.size w W') (hk : ∀ (b : Nat) (cs : Array Value) (t : TypeId), W.heap[b]? = some (.cells cs t (0, 0)) → t ≠ 28 → W'.heap[b]? = some (.cells cs t (0, 0))) : WW w W' p q L :=
  ⟨hb, h.wp.kept fun b cs t h1 h2 => hk b cs t h1 (by
    rcases h2 with rfl | ⟨rfl, _⟩
    · obtain ⟨lv, hr⟩ := h.wp.row
      rw [hr] at h1
      cases h1
      decide
    · decide), h.wq.kept fun b cs t h1 h2 => hk b cs t h1 (by
    rcases h2 with rfl | ⟨rfl, _⟩
    · obtain ⟨lv, hr⟩ := h.wq.row
      rw [hr] at h1
      cases h1
      decide
    · decide), h.lp, h.lq⟩
theorem WW.on {w W W' : World} {p q : Nat} {L : List Int} (h : WW w W p q L) (hb : Below W.heap.size W W') : WW w W' p q L :=
  h.kept (h.bel.trans (hb.mono h.bel.size)) fun b cs t h1 _ => (hb.block b (Array.getElem?_eq_some_iff.1 h1).1).trans h1
theorem WW.set {w W : World} {p q g i : Nat} {L : List Int} {cs : Array Value} (h : WW w W p q L) (hg : W.heap[g]? = some (.cells cs 28 (0, 0))) (hl : w.heap.size ≤ g) (y : Value) : WW w (W.setCell ⟨g, i, none⟩ y) p q L :=
  h.kept (h.bel.setCell (p := ⟨g, i, none⟩) hl _) fun b cs t h1 ht => (Go.heap_setCell_other _ _ _ _ (neT h1 hg ht)).trans h1
theorem WW.chg {w W W' : World} {p q : Nat} {L L' : List Int} (h : WW w W p q L) (h1 : WX W' (fun g => g < W.heap.size) p L') (h2 : VX W' (fun g => g < W.heap.size) q L') (hc : Chg (fun g => g = p ∨ g = q) W W') : WW w W' p q L' :=
  ⟨h.bel.trans (hc.below h.bel.size fun b hb => by have := h.lp; have := h.lq; omega), h1.mono fun _ _ _ => trivial, h2.mono fun _ _ _ => trivial, h.lp, h.lq⟩
theorem WW.nextP {w W : World} {p q : Nat} {x : Int} {r l2 : List Int} (hb : Below w.heap.size w W) (lp : w.heap.size ≤ p) (h1 : WX W (fun _ => True) p (x :: r)) (h2 : VX W (fun _ => True) q l2) : Calls Tryd.prog 12 #[.pointer (some ⟨p, 0, none⟩)] W fun e w' => e = .returned (.tuple #[.int .i64 x, .int .i64 0]) ∧ WX w' (fun _ => True) p r ∧ VX w' (fun _ => True) q l2 ∧ Below w.heap.size w w' ∧ Chg (fun k => k = p) W w' :=
  h1.nextS.mono fun e w' ⟨k1, k2, k3⟩ => ⟨k1, k2, h2.kept fun b cs t h4 h5 => (k3.keep b (Array.getElem?_eq_some_iff.1 h4).1 (by
    obtain ⟨lv, hr⟩ := h1.row
    obtain ⟨mv, hs⟩ := h2.row
    rcases h5 with rfl | ⟨rfl, _⟩
    · exact neT hs hr (by decide)
    · exact neT h4 hr (by decide))).trans h4, hb.trans (k3.below hb.size fun b hb => by omega), k3⟩
theorem WW.nextQ {w W : World} {p q : Nat} {x : Int} {r l1 : List Int} (hb : Below w.heap.size w W) (lq : w.heap.size ≤ q) (h1 : WX W (fun _ => True) p l1) (h2 : VX W (fun _ => True) q (x :: r)) : Calls Tryd.prog 18 #[.pointer (some ⟨q, 0, none⟩)] W fun e w' => e = .returned (.tuple #[.int .i64 x, .int .i64 0]) ∧ WX w' (fun _ => True) p l1 ∧ VX w' (fun _ => True) q r ∧ Below w.heap.size w w' ∧ Chg (fun k => k = q) W w' :=
  h2.nextS.mono fun e w' ⟨k1, k2, k3⟩ => ⟨k1, h1.kept fun b cs t h4 h5 => (k3.keep b (Array.getElem?_eq_some_iff.1 h4).1 (by
    obtain ⟨lv, hr⟩ := h1.row
    obtain ⟨mv, hs⟩ := h2.row
    rcases h5 with rfl | ⟨rfl, _⟩
    · exact neT hr hs (by decide)
    · exact neT h4 hs (by decide))).trans h4, k2, hb.trans (k3.below hb.size fun b hb => by omega), k3⟩
end Go.Proofs.YtophcdfaflehcaaDoor
