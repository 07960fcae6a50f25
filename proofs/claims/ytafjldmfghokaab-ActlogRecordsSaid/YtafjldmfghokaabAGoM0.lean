import Derived.Test.YtafjldmfghokaabAGi
import Derived.Test.YtafjldmfghokaabAOwn
import Derived.Deep.DeepHandedRow
namespace Go.Proofs.Ytafjldmfghokaab
open Go.RowKit Go.Sort
open Num
set_option linter.unusedVariables false
set_option linter.unusedSimpArgs false
set_option maxRecDepth 20000

/-- what a play leaves -/
def PlP (w w' : World) (lp rp M : Nat) (U : Nat → Prop) : Prop := ∃ U', TG w' lp rp (M + 1) U' ∧ Chg U w w' ∧ ∀ b, U' b → U b ∨ w.heap.size ≤ b
/-- both records, as they lie behind both calls -/
structure RS (y0 y2 : World) (U1 : Nat → Prop) (v v2 : Value) (bs : List Nat) : Prop where
  le : bs.length ≤ 5000
  f1 : ∃ a c, v = .slice a bs.length c ∧ bs.length ≤ c ∧ c ≤ maxLen
  f2 : ∃ a c, v2 = .slice a bs.length c ∧ bs.length ≤ c ∧ c ≤ maxLen
  b1 : BSl y2 v bs
  b2 : BSl y2 v2 bs
  ow : ∃ xs : List Value, (∀ x ∈ xs, ∃ z, x = .int .u8 z) ∧ y2.ownsRow 0 5 1 v bs.length xs
  nw : ∀ g, v.ownBlock = some g → y0.heap.size ≤ g ∧ ¬ U1 g
theorem rec_shapes {y0 y1 y2 : World} {U1 : Nat → Prop} {v v2 : Value} {o : Option (List Nat)} (h1 : RcV y0 y1 U1 v o) (h2 : RcG y2 v2 o) (hk : ∀ g, g < y1.heap.size → ¬ U1 g → y2.heap[g]? = y1.heap[g]?) : ∃ bs, RS y0 y2 U1 v v2 bs := by
  cases o with
  | none =>
    have e1 : v = .slice none 0 0 := h1
    have e2 : v2 = .slice none 0 0 := h2
    subst e1 e2
    have hb : BSl y2 (.slice none 0 0) [] := ⟨none, 0, rfl, Nat.le_refl _, by unfold maxLen; omega, fun _ => rfl, by simp, fun e => by simp at e⟩
    exact ⟨[], ⟨by simp, ⟨none, 0, rfl, Nat.le_refl _, by unfold maxLen; omega⟩, ⟨none, 0, rfl, Nat.le_refl _, by unfold maxLen; omega⟩, hb, hb, ⟨[], by simp, ⟨rfl, .inl ⟨rfl, rfl⟩⟩⟩, fun g e => by simp [Value.ownBlock] at e⟩⟩
  | some bs =>
    obtain ⟨g, rfl, hr, hg, hu, hl⟩ := h1
    have hb2 : BSl y2 v2 bs := h2
    have hb2' := hb2
    obtain ⟨a, c, rfl, q1, q2, q3, q4, q5⟩ := hb2'
    have hgl := (Array.getElem?_eq_some_iff.1 hr).1
    have hr2 : y2.heap[g]? = some (.cells (byts bs) 5 (0, 0)) := (hk g hgl hu).trans hr
    refine ⟨bs, ⟨hl, ⟨_, _, rfl, Nat.le_refl _, by unfold maxLen; omega⟩, ⟨_, _, rfl, q1, q2⟩, ⟨_, bs.length, rfl, Nat.le_refl _, by unfold maxLen; omega, fun e => (by cases e), q4, fun _ => ⟨g, 0, rfl, fun i hi => ?_⟩⟩, hb2, ⟨bs.map byV, fun x hx => ?_, ⟨by simp, .inr ⟨g, bs.length, _, rfl, Nat.zero_le _, hr2, Nat.le_refl _, by unfold maxLen; omega, by simp [byts], ?_⟩⟩⟩, fun g' e => ?_⟩⟩
    · rw [cell_of_row _ _ _ _ _ _ hr2]
      simp [byts, byV, hi, List.getD]
    · obtain ⟨z, -, rfl⟩ := List.mem_map.1 hx
      exact ⟨_, rfl⟩
    · rw [List.take_of_length_le (by simp [byts])]
      simp [byts]
    · simp [Value.ownBlock] at e
      subst e
      exact ⟨hg, hu⟩
theorem BSl.below {w w' : World} {v : Value} {l : List Nat} (h : BSl w v l) (hb : Below w.heap.size w w') : BSl w' v l := by
  obtain ⟨a, cap, rfl, h1, h2, h3, h4, h5⟩ := h
  refine ⟨a, cap, rfl, h1, h2, h3, h4, fun hp => ?_⟩
  obtain ⟨b, off, rfl, hc⟩ := h5 hp
  refine ⟨b, off, rfl, fun i hi => ?_⟩
  have := hc i hi
  rw [hb.cell (p := ⟨b, off + i, none⟩) (World.block_lt_of_cell? w _ this)]
  exact this
theorem RS.wo {y0 y2 y : World} {U1 : Nat → Prop} {v v2 : Value} {bs : List Nat} (h : RS y0 y2 U1 v v2 bs) (hb : Below y2.heap.size y2 y) : Wo y y v 5 .u8 bs.length := by
  obtain ⟨xs, h1, h2⟩ := h.ow
  exact ⟨⟨xs, h1, rowKept h2 fun g e => hb.block g (h2.lt g e).2⟩, Chg.refl _ _⟩
/-- all of a Begin, from its frame on -/
theorem begin_fin {w y0 y1 y1' y2 y4 y5 : World} {lp rp M : Nat} {U U1 : Nat → Prop} {v v2 : Value} {bs : List Nat} (h0 : Below w.heap.size w y0) (h1 : Chg U y0 y1) (hlo : ∀ b, U1 b → U b ∨ y0.heap.size ≤ b) (h2 : Below y1.heap.size y1 y1') (ht : TG y2 lp rp (M + 1) U1) (h3 : Chg U1 y1' y2) (hr : RS y0 y2 U1 v v2 bs) (h4 : Below y2.heap.size y2 y4) (h5 : Chg (fun b => v.ownBlock = some b) y4 y5) : PlP w y5 lp rp M U := by
  have hs0 := h0.size
  have k1 : Chg (fun b => U b ∨ w.heap.size ≤ b) w y1 := (Chg.ofBelow h0).trans (h1.mono fun b _ e => .inl e)
  have k2 : Chg (fun b => U b ∨ w.heap.size ≤ b) w y1' := k1.trans (Chg.ofBelow h2)
  have k3 : Chg (fun b => U b ∨ w.heap.size ≤ b) w y2 := k2.trans (h3.mono fun b _ e => (hlo b e).imp id fun e => by omega)
  have k4 : Chg (fun b => U b ∨ w.heap.size ≤ b) w y4 := k3.trans (Chg.ofBelow h4)
  have k5 : Chg (fun b => U b ∨ w.heap.size ≤ b) w y5 := k4.trans (h5.mono fun b _ e => .inr (by have := (hr.nw b e).1; omega))
  refine ⟨U1, (ht.below h4).kept fun b e => h5.keep b ((ht.below h4).lt b e) fun e2 => (hr.nw b e2).2 e, k5.mono fun b hb e => ?_, fun b e => (hlo b e).imp id fun e => by omega⟩
  rcases e with e | e
  · exact e
  · omega
set_option maxHeartbeats 4000000 in
theorem plays_begin {w : World} {lp rp M : Nat} {U : Nat → Prop} (h : TG w lp rp M U) (hM : M ≤ 1000000000000000) (k1 k2 i : Int) (hi : -9000000000000000000 ≤ i ∧ i ≤ 9000000000000000000) (rc : Bool) :
    Calls Try.prog 63 #[.pointer (some ⟨lp, 0, none⟩), .pointer (some ⟨rp, 0, none⟩), .agg #[.int .i64 0, .int .i64 k1, .int .i64 k2], .int .i64 i, .bool rc] w fun e w' => e = .returned (.bool true) ∧ PlP w w' lp rp M U := by
  have HB := hide (boxOp w 0 k1 k2)
  have HBL := hide (tg_beginL (h.below HB.out) hM k2)
  have HBR := hide fun y U' r (hy : BgL y lp rp M U' k2 r) => tg_beginR hy hM
  have HOP : Hid (∀ y, Chg U (w.alloc (.cells #[.int .i64 0, .int .i64 k1, .int .i64 k2] 31)) y → y.cell? ⟨w.heap.size, 2, none⟩ = some (.int .i64 k2)) := hide fun y hc => cell_of_row _ _ _ _ _ _ ((hc.keep w.heap.size (by simp) fun e => by have := h.lt _ e; omega).trans (Go.heap_alloc_new w _))
  have HSC := hide fun y a b c => sameChange_any y a b c
  have HNU := hide fun (x : World) (e : Int) => num_any x e
  have HI := hide hi
  clear h hi
  cases rc with
  | true =>
    go_enter Try.func63, Try.ntmps63
    go_wp2_with (first
    | (go_at_call 13; refine HBL.out.mono ?_; rintro e y1 ⟨r, v, U1, rfl, hb, hv, hc, hlo⟩; have hlt : w.heap.size < y1.heap.size := (by have := hc.size; simp at this; omega); have d2 : (y1.alloc (.cells #[.int .i64 r.c0, .int .i64 r.c1, .int .i64 r.c2] 38)).cell? ⟨w.heap.size, 2, none⟩ = some (.int .i64 k2) := (World.cell?_of_block (a := ⟨w.heap.size, 2, none⟩) (Below.heap_alloc y1 (.cells #[.int .i64 r.c0, .int .i64 r.c1, .int .i64 r.c2] 38) w.heap.size hlt)).trans (HOP.out _ hc); clear hlt; have H1 := hide hb; have HV := hide hv; have HC := hide hc; have HLO := hide hlo; clear hb hv hc hlo HBL HOP)
    | (go_at_call 88; refine (HBR.out _ _ _ (H1.out.below ((Below.refl _ _).alloc (Nat.le_refl _) _))).mono ?_; rintro e y2 ⟨v2, rfl, hrc, htg, hc2⟩; have HLT := hide H1.out.lt; have hky : ∀ g, g < y1.heap.size → ¬ U1 g → y2.heap[g]? = y1.heap[g]? := (fun g hg hu => (hc2.keep g (by simp; omega) hu).trans (Below.heap_alloc _ _ _ hg)); obtain ⟨bs, hrs⟩ := rec_shapes HV.out hrc hky; have HRS := hide hrs; obtain ⟨a1, q1, rfl, l1, m1⟩ := hrs.f1; obtain ⟨a2, q2, rfl, l2, m2⟩ := hrs.f2; unfold maxLen at m1 m2; have hcb : y2.heap[y1.heap.size]? = some (.cells #[.int .i64 r.c0, .int .i64 r.c1, .int .i64 r.c2] 38 (0, 0)) := (hc2.keep _ (by simp) fun e => (by have := HLT.out _ e; omega)).trans (Go.heap_alloc_new _ _); have hcb2 : (y2.alloc (.cells #[.int .i64 r.c0, .int .i64 r.c1, .int .i64 r.c2] 38)).heap[y1.heap.size]? = some (.cells #[.int .i64 r.c0, .int .i64 r.c1, .int .i64 r.c2] 38 (0, 0)) := (Below.heap_alloc _ _ _ (Array.getElem?_eq_some_iff.1 hcb).1).trans hcb; have n0 : (y2.alloc (.cells #[.int .i64 r.c0, .int .i64 r.c1, .int .i64 r.c2] 38)).cell? ⟨y1.heap.size, 0, none⟩ = some (.int .i64 r.c0) := cell_of_row _ _ _ _ _ _ hcb2; have n1 : (y2.alloc (.cells #[.int .i64 r.c0, .int .i64 r.c1, .int .i64 r.c2] 38)).cell? ⟨y1.heap.size, 1, none⟩ = some (.int .i64 r.c1) := cell_of_row _ _ _ _ _ _ hcb2; have n2 : (y2.alloc (.cells #[.int .i64 r.c0, .int .i64 r.c1, .int .i64 r.c2] 38)).cell? ⟨y1.heap.size, 2, none⟩ = some (.int .i64 r.c2) := cell_of_row _ _ _ _ _ _ hcb2; have HFIN := hide (fun y4 y5 h4 h5 => begin_fin (y4 := y4) (y5 := y5) HB.out HC.out HLO.out ((Below.refl _ _).alloc (Nat.le_refl _) _) htg hc2 HRS.out h4 h5); have HWO := hide (fun y hy => HRS.out.wo (y := y) hy); have HSB := hide (fun y (hy : Below y2.heap.size y2 y) => sameBytes_any (HRS.out.b1.below hy) (HRS.out.b2.below hy)); have HSP := hide (fun y (hy : Wo y y (.slice a1 bs.length q1) 5 .u8 bs.length) => spoilBytes_any i HI.out hy HRS.out.le); have HB2 := hide ((Below.refl y2.heap.size y2).alloc (Nat.le_refl _) (.cells #[.int .i64 r.c0, .int .i64 r.c1, .int .i64 r.c2] 38)); clear hrc htg hc2 HBR d2 HV HC HLO HRS H1 HLT hky hrs hcb hcb2 HI; generalize bs.length = nb at *; obtain ⟨c0, c1, c2, obs, er⟩ := r; simp only at *; clear obs)
    | (go_at_call 89; refine (HSC.out _ _ _ _).mono ?_; rintro e y3 ⟨rfl, hb3⟩; have HB3 := hide (HB2.out.trans (hb3.mono HB2.out.size)); clear hb3 HSC)
    | (go_at_call 14; refine (HNU.out _ _).mono ?_; rintro e y ⟨rfl, rfl⟩)
    | (go_at_call 60; refine (HSB.out _ HB3.out).mono ?_; rintro e y4 ⟨rfl, m, rfl⟩; clear HSB)
    | (go_at_call 90; refine (HSP.out _ (HWO.out _ (below_drewN HB3.out _))).mono ?_; rintro e y5 ⟨rfl, hc5⟩; have HF := hide (HFIN.out _ _ (below_drewN HB3.out _) hc5); clear hc5 HSP HFIN))
    go_ret
    exact ⟨rfl, HF.out⟩
  | false =>
    go_enter Try.func63, Try.ntmps63
    go_wp2_with (first
    | (go_at_call 13; refine HBL.out.mono ?_; rintro e y1 ⟨r, v, U1, rfl, hb, hv, hc, hlo⟩; have hlt : w.heap.size < y1.heap.size := (by have := hc.size; simp at this; omega); have d2 : (y1.alloc (.cells #[.int .i64 r.c0, .int .i64 r.c1, .int .i64 r.c2] 38)).cell? ⟨w.heap.size, 2, none⟩ = some (.int .i64 k2) := (World.cell?_of_block (a := ⟨w.heap.size, 2, none⟩) (Below.heap_alloc y1 (.cells #[.int .i64 r.c0, .int .i64 r.c1, .int .i64 r.c2] 38) w.heap.size hlt)).trans (HOP.out _ hc); clear hlt; have H1 := hide hb; have HV := hide hv; have HC := hide hc; have HLO := hide hlo; clear hb hv hc hlo HBL HOP)
    | (go_at_call 88; refine (HBR.out _ _ _ (H1.out.below ((Below.refl _ _).alloc (Nat.le_refl _) _))).mono ?_; rintro e y2 ⟨v2, rfl, hrc, htg, hc2⟩; have HLT := hide H1.out.lt; have hky : ∀ g, g < y1.heap.size → ¬ U1 g → y2.heap[g]? = y1.heap[g]? := (fun g hg hu => (hc2.keep g (by simp; omega) hu).trans (Below.heap_alloc _ _ _ hg)); obtain ⟨bs, hrs⟩ := rec_shapes HV.out hrc hky; have HRS := hide hrs; obtain ⟨a1, q1, rfl, l1, m1⟩ := hrs.f1; obtain ⟨a2, q2, rfl, l2, m2⟩ := hrs.f2; unfold maxLen at m1 m2; have hcb : y2.heap[y1.heap.size]? = some (.cells #[.int .i64 r.c0, .int .i64 r.c1, .int .i64 r.c2] 38 (0, 0)) := (hc2.keep _ (by simp) fun e => (by have := HLT.out _ e; omega)).trans (Go.heap_alloc_new _ _); have hcb2 : (y2.alloc (.cells #[.int .i64 r.c0, .int .i64 r.c1, .int .i64 r.c2] 38)).heap[y1.heap.size]? = some (.cells #[.int .i64 r.c0, .int .i64 r.c1, .int .i64 r.c2] 38 (0, 0)) := (Below.heap_alloc _ _ _ (Array.getElem?_eq_some_iff.1 hcb).1).trans hcb; have n0 : (y2.alloc (.cells #[.int .i64 r.c0, .int .i64 r.c1, .int .i64 r.c2] 38)).cell? ⟨y1.heap.size, 0, none⟩ = some (.int .i64 r.c0) := cell_of_row _ _ _ _ _ _ hcb2; have n1 : (y2.alloc (.cells #[.int .i64 r.c0, .int .i64 r.c1, .int .i64 r.c2] 38)).cell? ⟨y1.heap.size, 1, none⟩ = some (.int .i64 r.c1) := cell_of_row _ _ _ _ _ _ hcb2; have n2 : (y2.alloc (.cells #[.int .i64 r.c0, .int .i64 r.c1, .int .i64 r.c2] 38)).cell? ⟨y1.heap.size, 2, none⟩ = some (.int .i64 r.c2) := cell_of_row _ _ _ _ _ _ hcb2; have HFIN := hide (fun y4 y5 h4 h5 => begin_fin (y4 := y4) (y5 := y5) HB.out HC.out HLO.out ((Below.refl _ _).alloc (Nat.le_refl _) _) htg hc2 HRS.out h4 h5); have HWO := hide (fun y hy => HRS.out.wo (y := y) hy); have HSB := hide (fun y (hy : Below y2.heap.size y2 y) => sameBytes_any (HRS.out.b1.below hy) (HRS.out.b2.below hy)); have HSP := hide (fun y (hy : Wo y y (.slice a1 bs.length q1) 5 .u8 bs.length) => spoilBytes_any i HI.out hy HRS.out.le); have HB2 := hide ((Below.refl y2.heap.size y2).alloc (Nat.le_refl _) (.cells #[.int .i64 r.c0, .int .i64 r.c1, .int .i64 r.c2] 38)); clear hrc htg hc2 HBR d2 HV HC HLO HRS H1 HLT hky hrs hcb hcb2 HI; generalize bs.length = nb at *; obtain ⟨c0, c1, c2, obs, er⟩ := r; simp only at *; clear obs)
    | (go_at_call 89; refine (HSC.out _ _ _ _).mono ?_; rintro e y3 ⟨rfl, hb3⟩; have HB3 := hide (HB2.out.trans (hb3.mono HB2.out.size)); clear hb3 HSC)
    | (go_at_call 14; refine (HNU.out _ _).mono ?_; rintro e y ⟨rfl, rfl⟩)
    | (go_at_call 90; refine (HSP.out _ (HWO.out _ HB3.out)).mono ?_; rintro e y5 ⟨rfl, hc5⟩; have HF := hide (HFIN.out _ _ HB3.out hc5); clear hc5 HSP HFIN))
    go_ret
    exact ⟨rfl, HF.out⟩
end Go.Proofs.Ytafjldmfghokaab
namespace Go.Proofs.Ytafjldmfghokaab
open Go.RowKit Go.Sort
open Num
set_option linter.unusedVariables false
set_option linter.unusedSimpArgs false
set_option maxRecDepth 20000

theorem end_fin {w y0 y1 y1' y2 y3 : World} {lp rp M : Nat} {U U1 : Nat → Prop} (h0 : Below w.heap.size w y0) (h1 : Chg U y0 y1) (hlo : ∀ b, U1 b → U b ∨ y0.heap.size ≤ b) (h2 : Below y1.heap.size y1 y1') (ht : TG y2 lp rp (M + 1) U1) (h3 : Chg U1 y1' y2) (h4 : Below y2.heap.size y2 y3) : PlP w y3 lp rp M U := by
  have hs0 := h0.size
  have k1 : Chg (fun b => U b ∨ w.heap.size ≤ b) w y1 := (Chg.ofBelow h0).trans (h1.mono fun b _ e => .inl e)
  have k2 : Chg (fun b => U b ∨ w.heap.size ≤ b) w y1' := k1.trans (Chg.ofBelow h2)
  have k3 : Chg (fun b => U b ∨ w.heap.size ≤ b) w y2 := k2.trans (h3.mono fun b _ e => (hlo b e).imp id fun e => by omega)
  have k4 : Chg (fun b => U b ∨ w.heap.size ≤ b) w y3 := k3.trans (Chg.ofBelow h4)
  refine ⟨U1, ht.below h4, k4.mono fun b hb e => ?_, fun b e => (hlo b e).imp id fun e => by omega⟩
  rcases e with e | e
  · exact e
  · omega
set_option maxHeartbeats 2000000 in
theorem plays_end {w : World} {lp rp M : Nat} {U : Nat → Prop} (h : TG w lp rp M U) (hM : M ≤ 1000000000000000) (k1 k2 i : Int) (hk : i64ok k2) (rc : Bool) :
    Calls Try.prog 63 #[.pointer (some ⟨lp, 0, none⟩), .pointer (some ⟨rp, 0, none⟩), .agg #[.int .i64 1, .int .i64 k1, .int .i64 k2], .int .i64 i, .bool rc] w fun e w' => e = .returned (.bool true) ∧ PlP w w' lp rp M U := by
  have HB := hide (boxOp w 1 k1 k2)
  have HD := hide HB.out.drew
  have HEL := hide (tg_endL (h.below HD.out) hM hk)
  have HER := hide fun y U' er (hy : EnL y lp rp M U' k2 er) => tg_endR hy hM
  have HOP : Hid (∀ y, Chg U (w.alloc (.cells #[.int .i64 1, .int .i64 k1, .int .i64 k2] 31)).drew y → y.heap[w.heap.size]? = some (.cells #[.int .i64 1, .int .i64 k1, .int .i64 k2] 31 (0, 0))) := hide fun y hc => (hc.keep w.heap.size (by simp) fun e => by have := h.lt _ e; omega).trans (Go.heap_alloc_new w _)
  have HNU := hide fun (x : World) (e : Int) => num_any x e
  have HLT : Hid (∀ U1 : Nat → Prop, (∀ b, U1 b → U b ∨ (w.alloc (.cells #[.int .i64 1, .int .i64 k1, .int .i64 k2] 31)).drew.heap.size ≤ b) → ¬ U1 w.heap.size) := hide fun U1 hlo e => by
    rcases hlo _ e with e | e
    · have := h.lt _ e; omega
    · have e2 : (w.alloc (.cells #[.int .i64 1, .int .i64 k1, .int .i64 k2] 31)).heap.size ≤ w.heap.size := e
      rw [World.size_alloc] at e2
      omega
  have c2 : (w.alloc (.cells #[.int .i64 1, .int .i64 k1, .int .i64 k2] 31)).cell? ⟨w.heap.size, 2, none⟩ = some (.int .i64 k2) := cell_of_row _ _ _ _ _ _ (Go.heap_alloc_new w _)
  clear h hk
  go_enter Try.func63, Try.ntmps63
  go_wp2_with fail
  go_region_held3 (fun z => z.cell? ⟨w.heap.size, 2, none⟩ = some (.int .i64 k2)) (first | exact c2 | exact d2 | exact z2)
    (first
      | (go_at_call 16; refine HEL.out.mono ?_; rintro e y1 ⟨er, U1, rfl, he, hc, hlo⟩; have H1 := hide he; have HC := hide hc; have HLO := hide hlo; have HBX := hide (HOP.out _ hc); have d2 : y1.cell? ⟨w.heap.size, 2, none⟩ = some (.int .i64 k2) := cell_of_row _ _ _ _ _ _ HBX.out; clear he hc hlo)
      | (go_at_call 91; refine (HER.out _ _ _ H1.out).mono ?_; rintro e y2 ⟨rfl, ht, hc2⟩; have HF := hide (end_fin HD.out HC.out HLO.out (Below.refl _ _) ht hc2 (Below.refl _ _)); have z2 : y2.cell? ⟨w.heap.size, 2, none⟩ = some (.int .i64 k2) := cell_of_row _ _ _ _ _ _ ((hc2.keep w.heap.size (Array.getElem?_eq_some_iff.1 HBX.out).1 (HLT.out _ HLO.out)).trans HBX.out); clear ht hc2)
      | (go_at_call 14; refine (HNU.out _ _).mono ?_; rintro e w4 ⟨rfl, rfl⟩))
  all_goals
    go_wp2_with fail
    go_ret
    exact ⟨rfl, HF.out⟩
set_option maxHeartbeats 2000000 in
theorem plays_ask {w : World} {lp rp M : Nat} {U : Nat → Prop} (h : TG w lp rp M U) (hM : M ≤ 1000000000000000) (k0 k1 k2 i : Int) (hk : i64ok k2) (hi : -9000000000000000000 ≤ i ∧ i ≤ 9000000000000000000) (rc : Bool) (h0 : k0 ≠ 0) (h1 : k0 ≠ 1) :
    Calls Try.prog 63 #[.pointer (some ⟨lp, 0, none⟩), .pointer (some ⟨rp, 0, none⟩), .agg #[.int .i64 k0, .int .i64 k1, .int .i64 k2], .int .i64 i, .bool rc] w fun e w' => e = .returned (.bool true) ∧ PlP w w' lp rp M U := by
  have HB := hide (boxOp w k0 k1 k2)
  have HA := hide (asks_any (h.below HB.out) hM k0 k1 k2 i hk hi)
  have HF : Hid (∀ y, Below w.heap.size w y → PlP w y lp rp M U) := hide fun y hy => ⟨U, (h.below hy).more (Nat.le_succ _), Chg.ofBelow hy, fun b e => .inl e⟩
  have b0 : (k0 == 0) = false := by simpa using h0
  have b1 : (k0 == 1) = false := by simpa using h1
  clear h hk hi h0 h1
  go_enter Try.func63, Try.ntmps63
  go_wp2_with (first
    | (go_at_call 92; refine HA.out.mono ?_; rintro e y1 ⟨rfl, hb⟩; have HF1 := hide (HF.out _ (HB.out.trans (hb.mono HB.out.size))); clear hb HA))
  go_ret
  exact ⟨rfl, HF1.out⟩
theorem plays_any {w : World} {lp rp M : Nat} {U : Nat → Prop} (h : TG w lp rp M U) (hM : M ≤ 1000000000000000) (k0 k1 k2 i : Int) (hk : i64ok k2) (hi : -9000000000000000000 ≤ i ∧ i ≤ 9000000000000000000) (rc : Bool) :
    Calls Try.prog 63 #[.pointer (some ⟨lp, 0, none⟩), .pointer (some ⟨rp, 0, none⟩), .agg #[.int .i64 k0, .int .i64 k1, .int .i64 k2], .int .i64 i, .bool rc] w fun e w' => e = .returned (.bool true) ∧ PlP w w' lp rp M U := by
  by_cases h0 : k0 = 0
  · subst h0; exact plays_begin h hM k1 k2 i hi rc
  by_cases h1 : k0 = 1
  · subst h1; exact plays_end h hM k1 k2 i hk rc
  exact plays_ask h hM k0 k1 k2 i hk hi rc h0 h1
end Go.Proofs.Ytafjldmfghokaab
namespace Go.Proofs.Ytafjldmfghokaab
open Go.ChangeShapes Go.WideShapes Go.ChangeAt Go.RowKit
set_option linter.unusedVariables false
set_option linter.unusedSimpArgs false
set_option maxRecDepth 20000

theorem trod_place_lt {H : Type} {enc : TypeId × Value → H} {W : World} {t : TypeId} {v : Value} {d : DataW H} {p : List MemPlace} (h1 : DataW.Trod enc Try.prog W 0 (fun _ => true) true t v d p) : ∀ x ∈ p, x.block < W.heap.size := by
  obtain ⟨m, hm⟩ := h1; exact DataW.trod_lt m _ _ _ hm
structure OpK where
  kind : Int
  of_ : Int
  key : Int
/-- a list of asks that came in -/
def OKl (w : World) (v : Value) (l : List OpK) : Prop :=
  ∃ a cap, v = .slice a l.length cap ∧ l.length ≤ cap ∧ cap ≤ maxLen ∧ (∀ s ∈ l, i64ok s.kind ∧ i64ok s.of_ ∧ i64ok s.key) ∧ (0 < l.length → ∃ b off, a = some ⟨b, off, none⟩ ∧ ∀ i (hi : i < l.length), w.cell? ⟨b, off + i * 3, none⟩ = some (.int .i64 l[i].kind) ∧ w.cell? ⟨b, off + i * 3 + 1, none⟩ = some (.int .i64 l[i].of_) ∧ w.cell? ⟨b, off + i * 3 + 2, none⟩ = some (.int .i64 l[i].key))
theorem cellsIntK : Try.prog.cellsOf 3 = 1 := by kernel_rfl
theorem cellsOpK : Try.prog.cellsOf 31 = 3 := by kernel_rfl
theorem bytesOpK : Try.prog.bytesOf 31 = 24 := by kernel_rfl
theorem open_ops {H : Type} {enc : TypeId × Value → H} {W : World} {base : Nat} {v : Value} {d : DataW H} {p : List MemPlace} {ts : List TypeId} {ds : List (DataW H)} (j : Nat) (hts : ts[j]? = some 25) (hds : ds[j]? = some d)
    (hsz : (DataW.weightsEach Try.prog ts ds).all (· ≤ reachBytes) = true)
    (hok : Value.okWide Try.prog W .any base 25 v) (h1 : DataW.Trod enc Try.prog W 0 (fun _ => true) true 25 v d p) : ∃ l : List OpK, OKl W v l ∧ l.length ≤ 1000000000000000 := by
  obtain ⟨a1, len1, cap1, rfl⟩ := okWide_slice Try.underlying25 hok
  obtain ⟨fuel, hf⟩ := h1
  rcases Go.Deep.open_slice Try.underlying25 hf with ⟨hcs, _⟩ | ⟨a, len, cap, m, n, D, Pl, hcs, _, hl, hm, hmm, hx, hel⟩
  · simp [Value.cells] at hcs
    obtain ⟨rfl, rfl, rfl⟩ := hcs
    exact ⟨[], ⟨none, 0, rfl, Nat.le_refl _, by unfold maxLen; omega, by simp, by simp⟩, Nat.zero_le _⟩
  · simp [Value.cells] at hcs
    obtain ⟨rfl, rfl, rfl⟩ := hcs
    have hlen : len1 ≤ 1000000000000000 := by
      simp only [Prod.mk.injEq] at hx
      have h0 := List.all_eq_true.1 hsz _ (DataW.weights_mem_each hts hds _ (by
        rw [hx.1]
        simp only [DataW.weights]
        rw [Try.underlying25]
        exact List.mem_cons_self))
      simp only [List.length_map, List.length_range, bytesOpK, decide_eq_true_eq] at h0
      unfold reachBytes at h0
      omega
    simp only [if_true] at hmm
    subst hmm
    have each : ∀ i, i < len1 → ∃ s : OpK, (i64ok s.kind ∧ i64ok s.of_ ∧ i64ok s.key) ∧ W.cell? (a.add (i * 3)) = some (.int .i64 s.kind) ∧ W.cell? (a.add (i * 3 + 1)) = some (.int .i64 s.of_) ∧ W.cell? (a.add (i * 3 + 2)) = some (.int .i64 s.key) := by
      intro i hi
      obtain ⟨cs', h1, h2⟩ := hel i (by omega)
      rw [cellsOpK] at h1
      obtain ⟨_, hlen, hcell⟩ := World.cells?_some h1
      obtain ⟨xs, k, hk, hxy, _, hxl, hfd⟩ := DataW.trod_struct Try.underlying31 h2
      match xs, hxl, cs', hlen with
      | [y0, y1, y2], _, [v0, v1, v2], _ =>
        have g0 := hfd 0 _ rfl
        have g1 := hfd 1 _ rfl
        have g2 := hfd 2 _ rfl
        simp [cellsIntK] at g0 g1 g2
        have e0 := hcell 0 (by omega)
        have e1 := hcell 1 (by omega)
        have e2 := hcell 2 (by omega)
        rw [Go.Deep.add_add] at e0 e1 e2
        obtain ⟨z0, hz0, _, wf0⟩ := DataW.trod_int Try.underlying3 g0
        obtain ⟨z1, hz1, _, wf1⟩ := DataW.trod_int Try.underlying3 g1
        obtain ⟨z2, hz2, _, wf2⟩ := DataW.trod_int Try.underlying3 g2
        simp at hz0 hz1 hz2
        subst hz0 hz1 hz2
        have b0 : i64ok z0 := by have := bounds_i64 wf0; unfold i64ok; omega
        have b1 : i64ok z1 := by have := bounds_i64 wf1; unfold i64ok; omega
        have b2 : i64ok z2 := by have := bounds_i64 wf2; unfold i64ok; omega
        exact ⟨⟨z0, z1, z2⟩, ⟨b0, b1, b2⟩, by simpa using e0, by simpa using e1, by simpa using e2⟩
    haveI : Inhabited OpK := ⟨⟨0, 0, 0⟩⟩
    obtain ⟨f, hfa⟩ := Go.Deep.choose_lt each
    refine ⟨(List.range len1).map f, ⟨some a, m, by simp, by simpa using hl, hm, ?_, ?_⟩, by simpa using hlen⟩
    · intro s hs
      obtain ⟨i, hi, rfl⟩ := List.mem_map.1 hs
      exact (hfa i (List.mem_range.1 hi)).1
    · intro hpos
      simp only [List.length_map, List.length_range] at hpos
      obtain ⟨b, off, spot⟩ := a
      have hspot : spot = none := by simpa [Addr.add] using World.cell?_spot (hfa 0 hpos).2.1
      subst hspot
      refine ⟨b, off, rfl, fun i hi => ?_⟩
      simp only [List.length_map, List.length_range] at hi
      have h := hfa i hi
      simp only [List.getElem_map, List.getElem_range]
      refine ⟨?_, ?_, ?_⟩
      · rw [← Addr.add_lit]; exact h.2.1
      · rw [Nat.add_assoc, ← Addr.add_lit]; exact h.2.2.1
      · rw [Nat.add_assoc, ← Addr.add_lit]; exact h.2.2.2
theorem again_ops {H : Type} {enc : TypeId × Value → H} {W W' : World} {v : Value} {d : DataW H} {p : List MemPlace} (h1 : DataW.Trod enc Try.prog W 0 (fun _ => true) true 25 v d p) (bel : Below W.heap.size W W') :
    DataW.Trod enc Try.prog W' 0 (fun b => decide (b < W.heap.size)) true 25 v d p := Below.trod laidOut (by kernel_rfl) (of_decide_eq_true (by kernel_rfl)) h1 bel (trod_place_lt h1)
theorem cellsU32 : Try.prog.cellsOf 22 = 1 := by kernel_rfl
theorem cellsMade : Try.prog.cellsOf 24 = 4 := by kernel_rfl
theorem made_cells {H : Type} {enc : TypeId × Value → H} {W : World} {n : Nat} {v0 v1 v2 v3 : Value} {y : DataW H × List MemPlace} (h : DataW.trod enc Try.prog W 0 (fun _ => true) true n 24 [v0, v1, v2, v3] = some y) : ∃ (a b c : Int) (d : Nat), v0 = .int .i64 a ∧ v1 = .int .i64 b ∧ v2 = .int .i64 c ∧ v3 = .int .u32 (d : Int) ∧ d < 4294967296 := by
  obtain ⟨xs2, k2, hk2, hxy2, _, hxl2, hfd2⟩ := DataW.trod_struct Try.underlying24 h
  match xs2, hxl2 with
  | [u0, u1, u2, u3], _ =>
    have m0 := hfd2 0 _ rfl
    have m1 := hfd2 1 _ rfl
    have m2 := hfd2 2 _ rfl
    have m3 := hfd2 3 _ rfl
    simp [cellsIntK, cellsU32] at m0 m1 m2 m3
    obtain ⟨b0, p0, _, q0⟩ := DataW.trod_int Try.underlying3 m0
    obtain ⟨b1, p1, _, q1⟩ := DataW.trod_int Try.underlying3 m1
    obtain ⟨b2, p2, _, q2⟩ := DataW.trod_int Try.underlying3 m2
    obtain ⟨b3, p3, _, q3⟩ := DataW.trod_int Try.underlying22 m3
    simp at p0 p1 p2 p3
    have h3 : 0 ≤ b3 := by have := bounds_u32 q3; omega
    have h4 : b3 < 4294967296 := by have := bounds_u32 q3; omega
    exact ⟨b0, b1, b2, b3.toNat, p0, p1, p2, by rw [p3, Int.toNat_of_nonneg h3], by omega⟩
theorem open_made {H : Type} {enc : TypeId × Value → H} {W : World} {base : Nat} {v : Value} {d : DataW H} {p : List MemPlace} (hok : Value.okWide Try.prog W .any base 24 v) (h1 : DataW.Trod enc Try.prog W 0 (fun _ => true) true 24 v d p) : ∃ (a b c : Int) (d : Nat), v = .agg #[.int .i64 a, .int .i64 b, .int .i64 c, .int .u32 (d : Int)] ∧ d < 4294967296 := by
  obtain ⟨cs, rfl, hcs⟩ := okWide_struct Try.underlying24 hok
  rw [cellsMade] at hcs
  obtain ⟨fuel, hf⟩ := h1
  obtain ⟨l⟩ := cs
  match l, hcs with
  | [v0, v1, v2, v3], _ =>
    obtain ⟨a, b, c, d, rfl, rfl, rfl, rfl, hd⟩ := made_cells hf
    exact ⟨a, b, c, d, rfl, hd⟩
theorem again_made {H : Type} {enc : TypeId × Value → H} {W W' : World} {v : Value} {d : DataW H} {p : List MemPlace} (h1 : DataW.Trod enc Try.prog W 0 (fun _ => true) true 24 v d p) (bel : Below W.heap.size W W') :
    DataW.Trod enc Try.prog W' 0 (fun b => decide (b < W.heap.size)) true 24 v d p := Below.trod laidOut (by kernel_rfl) (of_decide_eq_true (by kernel_rfl)) h1 bel (trod_place_lt h1)
end Go.Proofs.Ytafjldmfghokaab
namespace Go.Proofs.Ytafjldmfghokaab
open Go.RowKit Go.Sort
open Num
set_option linter.unusedVariables false
set_option linter.unusedSimpArgs false
set_option maxRecDepth 20000

theorem and_1 (n : Int) : bits .and .i64 n 1 = n % 2 := by
  have h1 : (BitVec.ofInt 64 1).toNat = 2 ^ 1 - 1 := by decide
  have key : (BitVec.ofInt 64 n &&& BitVec.ofInt 64 1).toNat = (n % ((2 ^ 64 : Nat) : Int)).toNat % 2 ^ 1 := by
    rw [BitVec.toNat_and, BitVec.toNat_ofInt, h1, Nat.and_two_pow_sub_one_eq_mod]
  show IntKind.i64.wrap ((BitVec.ofInt 64 n &&& BitVec.ofInt 64 1).toNat : Nat) = n % 2
  rw [key, IntKind.wrap_i64]
  omega
/-- a log and the document's, or none of either -/
def Sd (w : World) (lv rv : Value) (M : Nat) (U : Nat → Prop) : Prop := (lv = .pointer none ∧ rv = .pointer none ∧ ∀ b, ¬ U b) ∨ ∃ lp rp, lv = .pointer (some ⟨lp, 0, none⟩) ∧ rv = .pointer (some ⟨rp, 0, none⟩) ∧ TG w lp rp M U
theorem Sd.lt {w : World} {lv rv : Value} {M : Nat} {U : Nat → Prop} (h : Sd w lv rv M U) : ∀ b, U b → b < w.heap.size := fun b e => by
  rcases h with ⟨-, -, h⟩ | ⟨lp, rp, -, -, h⟩
  · exact absurd e (h b)
  · exact h.lt b e
theorem Sd.kept {w w' : World} {lv rv : Value} {M : Nat} {U : Nat → Prop} (h : Sd w lv rv M U) (hk : ∀ b, U b → w'.heap[b]? = w.heap[b]?) : Sd w' lv rv M U := by
  rcases h with h | ⟨lp, rp, h1, h2, h⟩
  · exact .inl h
  · exact .inr ⟨lp, rp, h1, h2, h.kept hk⟩
theorem Sd.more {w : World} {lv rv : Value} {M N : Nat} {U : Nat → Prop} (h : Sd w lv rv M U) (hn : M ≤ N) : Sd w lv rv N U := by
  rcases h with h | ⟨lp, rp, h1, h2, h⟩
  · exact .inl h
  · exact .inr ⟨lp, rp, h1, h2, h.more hn⟩
/-- the law's two pairs, in a run that began at w0 -/
structure X2 (w0 w : World) (bx : Nat) (l0 l1 r0 r1 : Value) (M : Nat) (U0 U1 : Nat → Prop) : Prop where
  box : w.heap[bx]? = some (.cells #[l0, l1, r0, r1] 82 (0, 0))
  s0 : Sd w l0 r0 M U0
  s1 : Sd w l1 r1 M U1
  ap : ∀ b, U0 b → ¬ U1 b
  b0 : ¬ U0 bx
  b1 : ¬ U1 bx
  lo : ∀ b, U0 b ∨ U1 b ∨ b = bx → w0.heap.size ≤ b
  be : Below w0.heap.size w0 w
section
variable {w0 w w' : World} {bx M : Nat} {l0 l1 r0 r1 : Value} {U0 U1 : Nat → Prop}
theorem X2.calm (h : X2 w0 w bx l0 l1 r0 r1 M U0 U1) (hb : Below w.heap.size w w') : X2 w0 w' bx l0 l1 r0 r1 M U0 U1 :=
  ⟨(hb.block _ (Array.getElem?_eq_some_iff.1 h.box).1).trans h.box, h.s0.kept fun b e => hb.block b (h.s0.lt b e), h.s1.kept fun b e => hb.block b (h.s1.lt b e), h.ap, h.b0, h.b1, h.lo, h.be.trans (hb.mono h.be.size)⟩
theorem X2.next (h : X2 w0 w bx l0 l1 r0 r1 M U0 U1) : X2 w0 w bx l0 l1 r0 r1 (M + 1) U0 U1 :=
  ⟨h.box, h.s0.more (Nat.le_succ _), h.s1.more (Nat.le_succ _), h.ap, h.b0, h.b1, h.lo, h.be⟩
theorem X2.play0 {lp rp : Nat} (h : X2 w0 w bx (.pointer (some ⟨lp, 0, none⟩)) l1 (.pointer (some ⟨rp, 0, none⟩)) r1 M U0 U1) (hp : PlP w w' lp rp M U0) : ∃ U0', X2 w0 w' bx (.pointer (some ⟨lp, 0, none⟩)) l1 (.pointer (some ⟨rp, 0, none⟩)) r1 (M + 1) U0' U1 := by
  obtain ⟨U', ht, hc, hlo⟩ := hp
  have hbx := (Array.getElem?_eq_some_iff.1 h.box).1
  have hs := h.be.size
  refine ⟨U', (hc.keep bx hbx h.b0).trans h.box, .inr ⟨lp, rp, rfl, rfl, ht⟩, (h.s1.kept fun b e => hc.keep b (h.s1.lt b e) fun e2 => h.ap b e2 e).more (Nat.le_succ _), fun b e1 e2 => ?_, fun e => ?_, h.b1, fun b e => ?_, h.be.trans (hc.below hs fun b e => h.lo b (.inl e))⟩
  · rcases hlo b e1 with e | e
    · exact h.ap b e e2
    · have := h.s1.lt b e2; omega
  · rcases hlo _ e with e | e
    · exact h.b0 e
    · omega
  · rcases e with e | e | e
    · rcases hlo b e with e | e
      · exact h.lo b (.inl e)
      · omega
    · exact h.lo b (.inr (.inl e))
    · exact h.lo b (.inr (.inr e))
theorem X2.play1 {lp rp : Nat} (h : X2 w0 w bx l0 (.pointer (some ⟨lp, 0, none⟩)) r0 (.pointer (some ⟨rp, 0, none⟩)) M U0 U1) (hp : PlP w w' lp rp M U1) : ∃ U1', X2 w0 w' bx l0 (.pointer (some ⟨lp, 0, none⟩)) r0 (.pointer (some ⟨rp, 0, none⟩)) (M + 1) U0 U1' := by
  obtain ⟨U', ht, hc, hlo⟩ := hp
  have hbx := (Array.getElem?_eq_some_iff.1 h.box).1
  have hs := h.be.size
  refine ⟨U', (hc.keep bx hbx h.b1).trans h.box, (h.s0.kept fun b e => hc.keep b (h.s0.lt b e) fun e2 => h.ap b e e2).more (Nat.le_succ _), .inr ⟨lp, rp, rfl, rfl, ht⟩, fun b e1 e2 => ?_, h.b0, fun e => ?_, fun b e => ?_, h.be.trans (hc.below hs fun b e => h.lo b (.inr (.inl e)))⟩
  · rcases hlo b e2 with e | e
    · exact h.ap b e1 e
    · have := h.s0.lt b e1; omega
  · rcases hlo _ e with e | e
    · exact h.b1 e
    · omega
  · rcases e with e | e | e
    · exact h.lo b (.inl e)
    · rcases hlo b e with e | e
      · exact h.lo b (.inr (.inl e))
      · omega
    · exact h.lo b (.inr (.inr e))
end
def XX (w0 w : World) (bx : Nat) (l0 l1 r0 r1 : Value) (M : Nat) : Prop := ∃ U0 U1, X2 w0 w bx l0 l1 r0 r1 M U0 U1
set_option maxHeartbeats 4000000 in
theorem script_any {w0 w : World} {bx : Nat} {l0 l1 r0 r1 : Value} (h : XX w0 w bx l0 l1 r0 r1 0) {sv : Value} {l : List OpK} (hs : OKl w0 sv l) (hz : l.length ≤ 1000000000000000) (rc : Bool) :
    Calls Try.prog 33 #[.pointer (some ⟨bx, 0, none⟩), sv, .bool rc] w fun e w' => e = .returned (.bool true) ∧ Below w0.heap.size w0 w' := by
  obtain ⟨a, cap, rfl, hl1, hl2, hok, hcl⟩ := hs
  have HCL : Hid (∀ i (hi : i < l.length), ∃ b off k0 k1 k2, a = some ⟨b, off, none⟩ ∧ i64ok k2 ∧ ∀ x, Below w0.heap.size w0 x → x.cell? ⟨b, off + i * 3, none⟩ = some (.int .i64 k0) ∧ x.cell? ⟨b, off + i * 3 + 1, none⟩ = some (.int .i64 k1) ∧ x.cell? ⟨b, off + i * 3 + 2, none⟩ = some (.int .i64 k2)) := hide fun i hi => by
    obtain ⟨b, off, e, hc⟩ := hcl (by omega)
    obtain ⟨q1, q2, q3⟩ := hc i hi
    refine ⟨b, off, l[i].kind, l[i].of_, l[i].key, e, (hok l[i] (List.getElem_mem hi)).2.2, fun x hx => ⟨?_, ?_, ?_⟩⟩
    · rw [hx.cell (p := ⟨b, off + i * 3, none⟩) (World.block_lt_of_cell? w0 _ q1)]; exact q1
    · rw [hx.cell (p := ⟨b, off + i * 3 + 1, none⟩) (World.block_lt_of_cell? w0 _ q2)]; exact q2
    · rw [hx.cell (p := ⟨b, off + i * 3 + 2, none⟩) (World.block_lt_of_cell? w0 _ q3)]; exact q3
  unfold maxLen at hl2
  have HX0 := hide h
  clear h hok hcl
  generalize l.length = n at *
  go_enter Try.func33, Try.ntmps33
  go_wp2_with fail
  go_loopw [7] (fun x wr => ∃ i : Nat, i ≤ n ∧ x = .int .i64 (i : Int) ∧ XX w0 wr bx l0 l1 r0 r1 i) (fun x _ => n - (intOf x).toNat)
  case atStart => exact ⟨0, Nat.zero_le _, rfl, HX0.out⟩
  case round =>
    clear HX0
    obtain ⟨i, hi, rfl, U0, U1, hx⟩ := hrel
    by_cases hlt : i < n
    · obtain ⟨b, off, k0, k1, k2, rfl, hk2, hcell⟩ := HCL.out i hlt
      obtain ⟨d0, d1, d2⟩ := hcell wr hx.be
      have HX := hide hx
      have p0 : wr.cell? ⟨bx, 0, none⟩ = some l0 := cell_of_row _ _ _ _ _ _ hx.box
      have p1 : wr.cell? ⟨bx, 1, none⟩ = some l1 := cell_of_row _ _ _ _ _ _ hx.box
      have p2 : wr.cell? ⟨bx, 2, none⟩ = some r0 := cell_of_row _ _ _ _ _ _ hx.box
      have p3 : wr.cell? ⟨bx, 3, none⟩ = some r1 := cell_of_row _ _ _ _ _ _ hx.box
      have HD : Hid (X2 w0 wr.drew bx l0 l1 r0 r1 i U0 U1) := hide (hx.calm (Below.refl _ _).drew)
      have hand := and_1 k1
      clear hx HCL hcell
      rcases (show k1 % 2 = 0 ∨ k1 % 2 = 1 by omega) with e | e
      · rw [e] at hand
        clear e
        rcases HX.out.s0 with ⟨rfl, rfl, -⟩ | ⟨lp, rp, rfl, rfl, htg⟩
        · go_wp2_with fail
          go_roundw
          case rel => exact ⟨i + 1, by omega, by go_num, U0, U1, HX.out.next⟩
          case measure => simp [intOf]; omega
        · have HP := hide (plays_any (htg.below (Below.refl _ _).drew) (by omega) k0 k1 k2 (i : Int) hk2 (by omega) rc)
          have HN : Hid (∀ y, PlP wr.drew y lp rp i U0 → XX w0 y bx (.pointer (some ⟨lp, 0, none⟩)) l1 (.pointer (some ⟨rp, 0, none⟩)) r1 (i + 1)) := hide fun y hy => by
            obtain ⟨U', h'⟩ := HD.out.play0 hy
            exact ⟨U', U1, h'⟩
          clear htg HX HD
          go_wp2_with fail
          refine wp_still_tail 18 (by kernel_rfl) (by kernel_rfl) ?_
          simp only [List.take_succ_cons, List.take_zero, List.drop_succ_cons, List.drop_zero]
          repeat still_step
          refine wpStill_nil ?_
          go_wp2_with (first
            | (go_at_call 63; refine HP.out.mono ?_; rintro e y ⟨rfl, hp⟩; have HF := hide (HN.out _ hp); clear hp HP HN))
          go_roundw
          case rel => exact ⟨i + 1, by omega, by go_num, HF.out⟩
          case measure => simp [intOf]; omega
      · rw [e] at hand
        clear e
        rcases HX.out.s1 with ⟨rfl, rfl, -⟩ | ⟨lp, rp, rfl, rfl, htg⟩
        · go_wp2_with fail
          go_roundw
          case rel => exact ⟨i + 1, by omega, by go_num, U0, U1, HX.out.next⟩
          case measure => simp [intOf]; omega
        · have HP := hide (plays_any (htg.below (Below.refl _ _).drew) (by omega) k0 k1 k2 (i : Int) hk2 (by omega) rc)
          have HN : Hid (∀ y, PlP wr.drew y lp rp i U1 → XX w0 y bx l0 (.pointer (some ⟨lp, 0, none⟩)) r0 (.pointer (some ⟨rp, 0, none⟩)) (i + 1)) := hide fun y hy => by
            obtain ⟨U', h'⟩ := HD.out.play1 hy
            exact ⟨U0, U', h'⟩
          clear htg HX HD
          go_wp2_with fail
          refine wp_still_tail 18 (by kernel_rfl) (by kernel_rfl) ?_
          simp only [List.take_succ_cons, List.take_zero, List.drop_succ_cons, List.drop_zero]
          repeat still_step
          refine wpStill_nil ?_
          go_wp2_with (first
            | (go_at_call 63; refine HP.out.mono ?_; rintro e y ⟨rfl, hp⟩; have HF := hide (HN.out _ hp); clear hp HP HN))
          go_roundw
          case rel => exact ⟨i + 1, by omega, by go_num, HF.out⟩
          case measure => simp [intOf]; omega
    · go_wp2_with fail
      go_ret
      exact ⟨rfl, hx.be⟩
end Go.Proofs.Ytafjldmfghokaab
namespace Go.Proofs.Ytafjldmfghokaab
open Go.RowKit Go.Sort
open Num
set_option linter.unusedVariables false
set_option linter.unusedSimpArgs false
set_option maxRecDepth 20000

theorem Sd.ptr {w : World} {lv rv : Value} {M : Nat} {U : Nat → Prop} (h : Sd w lv rv M U) : ∃ p q, lv = .pointer p ∧ rv = .pointer q := by
  rcases h with ⟨h1, h2, -⟩ | ⟨lp, rp, h1, h2, -⟩
  · exact ⟨_, _, h1, h2⟩
  · exact ⟨_, _, h1, h2⟩
theorem start_ok {n : Nat} (h1 : 1 ≤ n) (h2 : n ≤ 16) : (⟨n, [], [], [], []⟩ : LS).Ok 0 :=
  ⟨h1, h2, by simp, rfl, by simp, by simp, fun s => by simp, by simp, by simp, rfl⟩
/-- both are made -/
theorem mk_yes {w : World} {a b c : Int} {d : Nat} (h : mkOk a b c) (hd : d < 4294967296) :
    Calls Try.prog 27 #[.int .i64 a, .int .i64 b, .int .i64 c, .int .u32 (d : Int)] w fun e w' => ∃ lp, e = .returned (.tuple #[.pointer (some ⟨lp, 0, none⟩), .int .i64 0]) ∧ Below w.heap.size w w' ∧
      ∀ y, Below w'.heap.size w' y → Calls Try.prog 62 #[.int .i64 a, .int .i64 b, .int .i64 c, .int .u32 (d : Int)] y fun e z => ∃ rp, e = .returned (.tuple #[.pointer (some ⟨rp, 0, none⟩), .int .i64 0]) ∧ Below y.heap.size y z ∧ ∃ U, TG z lp rp 0 U ∧ ∀ b, U b → w.heap.size ≤ b := by
  obtain ⟨⟨h1, h2⟩, ⟨h3, h4⟩, h5⟩ := h
  obtain ⟨n, rfl⟩ : ∃ n : Nat, a = (n : Int) := ⟨a.toNat, by omega⟩
  obtain ⟨ext, rfl⟩ : ∃ n : Nat, b = (n : Int) := ⟨b.toNat, by omega⟩
  have h5' := okSz_iff.1 h5
  obtain ⟨size, rfl⟩ : ∃ n : Nat, c = (n : Int) := ⟨c.toNat, by omega⟩
  have hsz : size = 128 ∨ size = 256 ∨ size = 512 ∨ size = 1024 := by omega
  refine (logNew_any w n ext size d (by omega) (by omega) (by omega) (by omega) hsz).mono ?_
  rintro e w' ⟨lp, hlp, rfl, hl, hb⟩
  refine ⟨lp, rfl, hb, fun y hy => (gNew_any y n ext size d (by omega) (by omega) (by omega) (by omega) h5).mono ?_⟩
  rintro e z ⟨rp, cv, hrp, rfl, hr, hz, hu⟩
  have hs := hb.size
  have hs2 := hy.size
  have hly := (hl.below hy).below hz
  have hlu : ∀ b, GU lp (w.heap.size + 1) w.heap.size (.slice none 0 0) (.slice none 0 0) (.slice none 0 0) b → w.heap.size ≤ b := by
    rintro b (rfl | rfl | rfl | e | e | e)
    · exact hlp
    · omega
    · exact Nat.le_refl _
    · simp [Value.ownBlock] at e
    · simp [Value.ownBlock] at e
    · simp [Value.ownBlock] at e
  refine ⟨rp, rfl, hz, fun b => GU lp (w.heap.size + 1) w.heap.size (.slice none 0 0) (.slice none 0 0) (.slice none 0 0) b ∨ RGU rp y.heap.size cv b, ⟨_, _, _, _, _, ⟨n, [], [], [], []⟩, _, cv, _, 0, ext, size, d, 0, hly, ?_, Rel.start n, start_ok (by omega) (by omega), Nat.le_refl _, Nat.le_refl _, by simp, by omega, hsz, fun b e1 e2 => ?_, fun b => Iff.rfl⟩, fun b e => ?_⟩
  · rw [show (d + 0) % 4294967296 = d by omega]
    simpa using hr
  · have := (hl.below hy).lt b e1
    have := hu b e2
    omega
  · rcases e with e | e
    · exact hlu b e
    · have := hu b e; omega
/-- while the two are made -/
structure MX (w wr : World) (a0 b0 c0 : Int) (d0 : Nat) (a1 b1 c1 : Int) (d1 : Nat) (l0 l1 r0 r1 : Value) (U0 U1 : Nat → Prop) : Prop where
  x : X2 w wr (w.heap.size + 3) l0 l1 r0 r1 0 U0 U1
  rb : wr.heap[w.heap.size + 2]? = some (.cells #[.pointer none, .pointer none, .pointer none, .pointer none] 82 (0, 0))
  mb : wr.heap[w.heap.size + 4]? = some (.cells #[.int .i64 a0, .int .i64 b0, .int .i64 c0, .int .u32 (d0 : Int), .int .i64 a1, .int .i64 b1, .int .i64 c1, .int .u32 (d1 : Int)] 64 (0, 0))
  u : ∀ b, U0 b ∨ U1 b → w.heap.size + 5 ≤ b
section
variable {w wr y z : World} {a0 b0 c0 a1 b1 c1 : Int} {d0 d1 : Nat} {l0 l1 r0 r1 : Value} {U0 U1 : Nat → Prop}
theorem MX.calm (h : MX w wr a0 b0 c0 d0 a1 b1 c1 d1 l0 l1 r0 r1 U0 U1) (hb : Below wr.heap.size wr y) : MX w y a0 b0 c0 d0 a1 b1 c1 d1 l0 l1 r0 r1 U0 U1 :=
  ⟨h.x.calm hb, (hb.block _ (Array.getElem?_eq_some_iff.1 h.rb).1).trans h.rb, (hb.block _ (Array.getElem?_eq_some_iff.1 h.mb).1).trans h.mb, h.u⟩
theorem set_box {z : World} {g : Nat} {v0 v1 v2 v3 : Value} (h : z.heap[g]? = some (.cells #[v0, v1, v2, v3] 82 (0, 0))) (a b : Value) : ((z.setCell ⟨g, 0, none⟩ a).setCell ⟨g, 2, none⟩ b).heap[g]? = some (.cells #[a, v1, b, v3] 82 (0, 0)) ∧ ((z.setCell ⟨g, 1, none⟩ a).setCell ⟨g, 3, none⟩ b).heap[g]? = some (.cells #[v0, a, v2, b] 82 (0, 0)) := by
  have h1 := Go.heap_setCell_same z g 0 _ 82 a h
  have h2 := Go.heap_setCell_same _ g 2 _ 82 b h1
  have h3 := Go.heap_setCell_same z g 1 _ 82 a h
  have h4 := Go.heap_setCell_same _ g 3 _ 82 b h3
  exact ⟨h2, h4⟩
theorem MX.set0 {l r : Value} {U : Nat → Prop} (h : MX w wr a0 b0 c0 d0 a1 b1 c1 d1 l0 l1 r0 r1 U0 U1) (hs : Sd wr l r 0 U) (hu : ∀ b, U b → w.heap.size + 5 ≤ b) (hd : ∀ b, U b → ¬ U1 b) : MX w ((wr.setCell ⟨w.heap.size + 3, 0, none⟩ l).setCell ⟨w.heap.size + 3, 2, none⟩ r) a0 b0 c0 d0 a1 b1 c1 d1 l l1 r r1 U U1 := by
  have hk : ∀ b, b ≠ w.heap.size + 3 → ((wr.setCell ⟨w.heap.size + 3, 0, none⟩ l).setCell ⟨w.heap.size + 3, 2, none⟩ r).heap[b]? = wr.heap[b]? := fun b hb => by rw [Go.heap_setCell_other _ _ _ _ hb, Go.heap_setCell_other _ _ _ _ hb]
  refine ⟨⟨(set_box h.x.box l r).1, hs.kept fun b e => hk b (by have := hu b e; omega), h.x.s1.kept fun b e => hk b (by have := h.u b (.inr e); omega), hd, fun e => by have := hu _ e; omega, h.x.b1, fun b e => ?_, h.x.be.trans ⟨rfl, rfl, rfl, by simp only [World.size_setCell]; exact Nat.le_refl _, fun b hb => hk b (by omega)⟩⟩, (hk _ (by omega)).trans h.rb, (hk _ (by omega)).trans h.mb, fun b e => ?_⟩
  · rcases e with e | e | e
    · have := hu b e; omega
    · have := h.u b (.inr e); omega
    · omega
  · rcases e with e | e
    · exact hu b e
    · exact h.u b (.inr e)
theorem MX.set1 {l r : Value} {U : Nat → Prop} (h : MX w wr a0 b0 c0 d0 a1 b1 c1 d1 l0 l1 r0 r1 U0 U1) (hs : Sd wr l r 0 U) (hu : ∀ b, U b → w.heap.size + 5 ≤ b) (hd : ∀ b, U0 b → ¬ U b) : MX w ((wr.setCell ⟨w.heap.size + 3, 1, none⟩ l).setCell ⟨w.heap.size + 3, 3, none⟩ r) a0 b0 c0 d0 a1 b1 c1 d1 l0 l r0 r U0 U := by
  have hk : ∀ b, b ≠ w.heap.size + 3 → ((wr.setCell ⟨w.heap.size + 3, 1, none⟩ l).setCell ⟨w.heap.size + 3, 3, none⟩ r).heap[b]? = wr.heap[b]? := fun b hb => by rw [Go.heap_setCell_other _ _ _ _ hb, Go.heap_setCell_other _ _ _ _ hb]
  refine ⟨⟨(set_box h.x.box l r).2, h.x.s0.kept fun b e => hk b (by have := h.u b (.inl e); omega), hs.kept fun b e => hk b (by have := hu b e; omega), hd, h.x.b0, fun e => by have := hu _ e; omega, fun b e => ?_, h.x.be.trans ⟨rfl, rfl, rfl, by simp only [World.size_setCell]; exact Nat.le_refl _, fun b hb => hk b (by omega)⟩⟩, (hk _ (by omega)).trans h.rb, (hk _ (by omega)).trans h.mb, fun b e => ?_⟩
  · rcases e with e | e | e
    · have := h.u b (.inl e); omega
    · have := hu b e; omega
    · omega
  · rcases e with e | e
    · exact h.u b (.inl e)
    · exact hu b e
end
def MXX (w wr : World) (a0 b0 c0 : Int) (d0 : Nat) (a1 b1 c1 : Int) (d1 : Nat) : Prop := ∃ l0 l1 r0 r1 U0 U1, MX w wr a0 b0 c0 d0 a1 b1 c1 d1 l0 l1 r0 r1 U0 U1
theorem MXX.yes {w wr y z : World} {a0 b0 c0 a1 b1 c1 : Int} {d0 d1 lp rp : Nat} {U : Nat → Prop} (h : MXX w wr a0 b0 c0 d0 a1 b1 c1 d1) (hz : Below wr.heap.size wr z) (ht : TG z lp rp 0 U) (hu : ∀ b, U b → wr.heap.size ≤ b) : MXX w ((z.setCell ⟨w.heap.size + 3, 0, none⟩ (.pointer (some ⟨lp, 0, none⟩))).setCell ⟨w.heap.size + 3, 2, none⟩ (.pointer (some ⟨rp, 0, none⟩))) a0 b0 c0 d0 a1 b1 c1 d1 ∧ MXX w ((z.setCell ⟨w.heap.size + 3, 1, none⟩ (.pointer (some ⟨lp, 0, none⟩))).setCell ⟨w.heap.size + 3, 3, none⟩ (.pointer (some ⟨rp, 0, none⟩))) a0 b0 c0 d0 a1 b1 c1 d1 := by
  obtain ⟨l0, l1, r0, r1, U0, U1, h⟩ := h
  have hs := (Array.getElem?_eq_some_iff.1 h.mb).1
  have hd : Sd z (.pointer (some ⟨lp, 0, none⟩)) (.pointer (some ⟨rp, 0, none⟩)) 0 U := .inr ⟨lp, rp, rfl, rfl, ht⟩
  exact ⟨⟨_, _, _, _, _, _, (h.calm hz).set0 hd (fun b e => by have := hu b e; omega) (fun b e e2 => by have := hu b e; have := h.x.s1.lt b e2; omega)⟩, ⟨_, _, _, _, _, _, (h.calm hz).set1 hd (fun b e => by have := hu b e; omega) (fun b e e2 => by have := hu b e2; have := h.x.s0.lt b e; omega)⟩⟩
theorem MXX.no {w wr z : World} {a0 b0 c0 a1 b1 c1 : Int} {d0 d1 : Nat} (h : MXX w wr a0 b0 c0 d0 a1 b1 c1 d1) (hz : Below wr.heap.size wr z) : MXX w ((z.setCell ⟨w.heap.size + 3, 0, none⟩ (.pointer none)).setCell ⟨w.heap.size + 3, 2, none⟩ (.pointer none)) a0 b0 c0 d0 a1 b1 c1 d1 ∧ MXX w ((z.setCell ⟨w.heap.size + 3, 1, none⟩ (.pointer none)).setCell ⟨w.heap.size + 3, 3, none⟩ (.pointer none)) a0 b0 c0 d0 a1 b1 c1 d1 := by
  obtain ⟨l0, l1, r0, r1, U0, U1, h⟩ := h
  have hd : Sd z (.pointer none) (.pointer none) 0 (fun _ => False) := .inl ⟨rfl, rfl, fun _ e => e⟩
  exact ⟨⟨_, _, _, _, _, _, (h.calm hz).set0 hd (fun b e => e.elim) (fun b e => e.elim)⟩, ⟨_, _, _, _, _, _, (h.calm hz).set1 hd (fun b e => e.elim) (fun b e e2 => e2)⟩⟩
theorem MXX.cells {w wr : World} {a0 b0 c0 a1 b1 c1 : Int} {d0 d1 : Nat} (h : MXX w wr a0 b0 c0 d0 a1 b1 c1 d1) : wr.heap[w.heap.size + 4]? = some (.cells #[.int .i64 a0, .int .i64 b0, .int .i64 c0, .int .u32 (d0 : Int), .int .i64 a1, .int .i64 b1, .int .i64 c1, .int .u32 (d1 : Int)] 64 (0, 0)) ∧ ∃ l0 l1 r0 r1, wr.heap[w.heap.size + 3]? = some (.cells #[l0, l1, r0, r1] 82 (0, 0)) := by
  obtain ⟨l0, l1, r0, r1, U0, U1, h⟩ := h
  exact ⟨h.mb, _, _, _, _, h.x.box⟩
theorem MXX.calm {w wr y : World} {a0 b0 c0 a1 b1 c1 : Int} {d0 d1 : Nat} (h : MXX w wr a0 b0 c0 d0 a1 b1 c1 d1) (hb : Below wr.heap.size wr y) : MXX w y a0 b0 c0 d0 a1 b1 c1 d1 := by
  obtain ⟨l0, l1, r0, r1, U0, U1, h⟩ := h
  exact ⟨_, _, _, _, _, _, h.calm hb⟩
/-- what makes hands back -/
def MkP (w w' : World) (vs : Array Value) : Prop := ∃ l0 l1 r0 r1 U0 U1, vs = #[l0, l1, r0, r1] ∧ Sd w' l0 r0 0 U0 ∧ Sd w' l1 r1 0 U1 ∧ (∀ b, U0 b → ¬ U1 b) ∧ (∀ b, U0 b ∨ U1 b → w.heap.size ≤ b) ∧ Below w.heap.size w w'
theorem results_row_tmp {P : Program} {fn : Func} {p u : Tmp} {ty : TypeId} (h : fn.results = #[.cell p ty, .tmp u]) (tmps : Array Value) (w : World) (g : Nat) (t : TypeId) (cs : Array Value) (fr : Nat × Nat) (d : TypeDesc)
    (hp : tmps.getD p undef = .pointer (some ⟨g, 0, none⟩)) (hg : w.heap[g]? = some (.cells cs t fr))
    (hu : P.underlying ty = some d) (hd : (match d with | .struct _ | .array _ _ => true | _ => false) = true) (hi : (P.info? ty).map (·.size) = some cs.size) :
    (results fn tmps).run P w = .ok (.tuple #[.agg cs, tmps.getD u undef]) w := by
  have hp' : tmps[p]?.getD undef = .pointer (some ⟨g, 0, none⟩) := by simpa using hp
  simp [results, h, hp', asAddr, run_loadVar_row w g t ty cs fr d hg hu hd hi]
theorem logsSize : (Try.prog.info? 82).map (·.size) = some 4 := by kernel_rfl
theorem set4 {w : World} {g : Nat} {x0 x1 x2 x3 : Value} {t : TypeId} (h : w.heap[g]? = some (.cells #[x0, x1, x2, x3] t (0, 0))) (a b c d : Value) : ((((w.setCell ⟨g, 0, none⟩ a).setCell ⟨g, 1, none⟩ b).setCell ⟨g, 2, none⟩ c).setCell ⟨g, 3, none⟩ d).heap[g]? = some (.cells #[a, b, c, d] t (0, 0)) := by
  have h1 := Go.heap_setCell_same w g 0 _ t a h
  have h2 := Go.heap_setCell_same _ g 1 _ t b h1
  have h3 := Go.heap_setCell_same _ g 2 _ t c h2
  exact Go.heap_setCell_same _ g 3 _ t d h3
theorem MX.fin {w wr : World} {a0 b0 c0 a1 b1 c1 : Int} {d0 d1 : Nat} {l0 l1 r0 r1 : Value} {U0 U1 : Nat → Prop} (h : MX w wr a0 b0 c0 d0 a1 b1 c1 d1 l0 l1 r0 r1 U0 U1) (a b c d : Value) : MkP w ((((wr.setCell ⟨w.heap.size + 2, 0, none⟩ a).setCell ⟨w.heap.size + 2, 1, none⟩ b).setCell ⟨w.heap.size + 2, 2, none⟩ c).setCell ⟨w.heap.size + 2, 3, none⟩ d) #[l0, l1, r0, r1] := by
  have hk : ∀ b', b' ≠ w.heap.size + 2 → ((((wr.setCell ⟨w.heap.size + 2, 0, none⟩ a).setCell ⟨w.heap.size + 2, 1, none⟩ b).setCell ⟨w.heap.size + 2, 2, none⟩ c).setCell ⟨w.heap.size + 2, 3, none⟩ d).heap[b']? = wr.heap[b']? := fun b' hb => by rw [Go.heap_setCell_other _ _ _ _ hb, Go.heap_setCell_other _ _ _ _ hb, Go.heap_setCell_other _ _ _ _ hb, Go.heap_setCell_other _ _ _ _ hb]
  exact ⟨l0, l1, r0, r1, U0, U1, rfl, h.x.s0.kept fun b' e => hk b' (by have := h.u b' (.inl e); omega), h.x.s1.kept fun b' e => hk b' (by have := h.u b' (.inr e); omega), h.x.ap, fun b' e => by have := h.u b' e; omega, h.x.be.trans ⟨rfl, rfl, rfl, by simp only [World.size_setCell]; exact Nat.le_refl _, fun b' hb => hk b' (by omega)⟩⟩
theorem MX.start (w : World) (a0 b0 c0 : Int) (d0 : Nat) (a1 b1 c1 : Int) (d1 : Nat) : MXX w (((((w.alloc (.cells #[.int .i64 a0, .int .i64 b0, .int .i64 c0, .int .u32 (d0 : Int)] 24)).alloc (.cells #[.int .i64 a1, .int .i64 b1, .int .i64 c1, .int .u32 (d1 : Int)] 24)).alloc (.cells #[.pointer none, .pointer none, .pointer none, .pointer none] 82)).alloc (.cells #[.pointer none, .pointer none, .pointer none, .pointer none] 82)).alloc (.cells #[.int .i64 a0, .int .i64 b0, .int .i64 c0, .int .u32 (d0 : Int), .int .i64 a1, .int .i64 b1, .int .i64 c1, .int .u32 (d1 : Int)] 64)) a0 b0 c0 d0 a1 b1 c1 d1 := by
  have hd : ∀ x, Sd x (.pointer none) (.pointer none) 0 (fun _ => False) := fun x => .inl ⟨rfl, rfl, fun _ e => e⟩
  refine ⟨.pointer none, .pointer none, .pointer none, .pointer none, fun _ => False, fun _ => False, ⟨⟨?_, hd _, hd _, fun b e => e.elim, fun e => e, fun e => e, fun b e => ?_, ?_⟩, ?_, ?_, fun b e => by rcases e with e | e <;> exact e.elim⟩⟩
  · rw [Below.heap_alloc _ _ _ (by simp)]
    have := Go.heap_alloc_new (((w.alloc (.cells #[.int .i64 a0, .int .i64 b0, .int .i64 c0, .int .u32 (d0 : Int)] 24)).alloc (.cells #[.int .i64 a1, .int .i64 b1, .int .i64 c1, .int .u32 (d1 : Int)] 24)).alloc (.cells #[.pointer none, .pointer none, .pointer none, .pointer none] 82)) (.cells #[.pointer none, .pointer none, .pointer none, .pointer none] 82)
    simpa using this
  · rcases e with e | e | e
    · exact e.elim
    · exact e.elim
    · omega
  · exact ((((((Below.refl w.heap.size w).alloc (Nat.le_refl _) _).alloc (by simp) _).alloc (by simp; omega) _).alloc (by simp; omega) _).alloc (by simp; omega) _)
  · rw [Below.heap_alloc _ _ _ (by simp), Below.heap_alloc _ _ _ (by simp)]
    have := Go.heap_alloc_new ((w.alloc (.cells #[.int .i64 a0, .int .i64 b0, .int .i64 c0, .int .u32 (d0 : Int)] 24)).alloc (.cells #[.int .i64 a1, .int .i64 b1, .int .i64 c1, .int .u32 (d1 : Int)] 24)) (.cells #[.pointer none, .pointer none, .pointer none, .pointer none] 82)
    simpa using this
  · have := Go.heap_alloc_new ((((w.alloc (.cells #[.int .i64 a0, .int .i64 b0, .int .i64 c0, .int .u32 (d0 : Int)] 24)).alloc (.cells #[.int .i64 a1, .int .i64 b1, .int .i64 c1, .int .u32 (d1 : Int)] 24)).alloc (.cells #[.pointer none, .pointer none, .pointer none, .pointer none] 82)).alloc (.cells #[.pointer none, .pointer none, .pointer none, .pointer none] 82)) (.cells #[.int .i64 a0, .int .i64 b0, .int .i64 c0, .int .u32 (d0 : Int), .int .i64 a1, .int .i64 b1, .int .i64 c1, .int .u32 (d1 : Int)] 64)
    simpa using this
set_option maxHeartbeats 4000000 in
theorem makes_any (w : World) (a0 b0 c0 : Int) (d0 : Nat) (a1 b1 c1 : Int) (d1 : Nat) (hd0 : d0 < 4294967296) (hd1 : d1 < 4294967296) :
    Calls Try.prog 32 #[.agg #[.int .i64 a0, .int .i64 b0, .int .i64 c0, .int .u32 (d0 : Int)], .agg #[.int .i64 a1, .int .i64 b1, .int .i64 c1, .int .u32 (d1 : Int)]] w fun e w' => ∃ vs, e = .returned (.tuple #[.agg vs, .bool true]) ∧ MkP w w' vs := by
  have HNU := hide fun (x : World) (e : Int) => num_any x e
  have HM0 := hide (MX.start w a0 b0 c0 d0 a1 b1 c1 d1)
  go_enter Try.func32, Try.ntmps32
  go_wp2_with fail
  go_loopw [8] (fun x wr => ∃ k : Nat, k ≤ 2 ∧ x = .int .i64 (k : Int) ∧ MXX w wr a0 b0 c0 d0 a1 b1 c1 d1) (fun x _ => 2 - (intOf x).toNat)
  case atStart => exact ⟨0, by omega, rfl, HM0.out⟩
  case round =>
    clear HM0
    obtain ⟨k, hk, rfl, hx⟩ := hrel
    have HX := hide hx
    clear hx
    by_cases hlt : k < 2
    · rcases (show k = 0 ∨ k = 1 by omega) with rfl | rfl
      · by_cases hm : mkOk a0 b0 c0
        · have HL := hide (mk_yes (w := wr.drew) hm hd0)
          have HM := hide hm
          obtain ⟨hmb, -⟩ := HX.out.cells
          have m0 : wr.cell? ⟨w.heap.size + 4, 0, none⟩ = some (.int .i64 a0) := cell_of_row _ _ _ _ _ _ hmb
          have m1 : wr.cell? ⟨w.heap.size + 4, 1, none⟩ = some (.int .i64 b0) := cell_of_row _ _ _ _ _ _ hmb
          have m2 : wr.cell? ⟨w.heap.size + 4, 2, none⟩ = some (.int .i64 c0) := cell_of_row _ _ _ _ _ _ hmb
          have m3 : wr.cell? ⟨w.heap.size + 4, 3, none⟩ = some (.int .u32 (d0 : Int)) := cell_of_row _ _ _ _ _ _ hmb
          clear hmb hm
          go_wp2_with fail
          go_region_held3 (fun q => q.cell? ⟨w.heap.size + 4, 0, none⟩ = some (.int .i64 a0) ∧ q.cell? ⟨w.heap.size + 4, 1, none⟩ = some (.int .i64 b0) ∧ q.cell? ⟨w.heap.size + 4, 2, none⟩ = some (.int .i64 c0) ∧ q.cell? ⟨w.heap.size + 4, 3, none⟩ = some (.int .u32 (d0 : Int))) (first | exact ⟨m0, m1, m2, m3⟩ | exact ⟨n0, n1, n2, n3⟩)
            ((go_at_call 27; refine HL.out.mono ?_; rintro e y1 ⟨lp, rfl, hb1, hr⟩; have n0 : y1.cell? ⟨w.heap.size + 4, 0, none⟩ = some (.int .i64 a0) := cell_of_row _ _ _ _ _ _ (HX.out.calm (((Below.refl _ _).drew).trans (hb1.mono (Nat.le_refl _)))).cells.1; have n1 : y1.cell? ⟨w.heap.size + 4, 1, none⟩ = some (.int .i64 b0) := cell_of_row _ _ _ _ _ _ (HX.out.calm (((Below.refl _ _).drew).trans (hb1.mono (Nat.le_refl _)))).cells.1; have n2 : y1.cell? ⟨w.heap.size + 4, 2, none⟩ = some (.int .i64 c0) := cell_of_row _ _ _ _ _ _ (HX.out.calm (((Below.refl _ _).drew).trans (hb1.mono (Nat.le_refl _)))).cells.1; have n3 : y1.cell? ⟨w.heap.size + 4, 3, none⟩ = some (.int .u32 (d0 : Int)) := cell_of_row _ _ _ _ _ _ (HX.out.calm (((Below.refl _ _).drew).trans (hb1.mono (Nat.le_refl _)))).cells.1; have HB1 := hide (((Below.refl wr.heap.size wr).drew).trans (hb1.mono (Nat.le_refl _))); have HR := hide (hr y1.drew (Below.refl _ _).drew); clear hb1 hr HL))
          clear m0 m1 m2 m3
          go_wp2_with fail
          go_region_held3 (fun q => q.cell? ⟨w.heap.size + 4, 0, none⟩ = some (.int .i64 a0) ∧ q.cell? ⟨w.heap.size + 4, 1, none⟩ = some (.int .i64 b0) ∧ q.cell? ⟨w.heap.size + 4, 2, none⟩ = some (.int .i64 c0) ∧ q.cell? ⟨w.heap.size + 4, 3, none⟩ = some (.int .u32 (d0 : Int))) (first | exact ⟨n0, n1, n2, n3⟩ | exact ⟨t0, t1, t2, t3⟩)
            ((go_at_call 62; refine HR.out.mono ?_; rintro e z ⟨rp, rfl, hb2, U, ht, hu⟩; have HZ := hide ((HB1.out.trans ((Below.refl y1.heap.size y1).drew.mono HB1.out.size)).trans (hb2.mono HB1.out.size)); have HN := hide (HX.out.yes (y := z) HZ.out ht hu).1; obtain ⟨x0, x1, x2, x3, hbx⟩ := (HX.out.calm HZ.out).cells.2; have g0 : z.cell? ⟨w.heap.size + 3, 0, none⟩ = some x0 := cell_of_row _ _ _ _ _ _ hbx; have f0 : z.frozen? ⟨w.heap.size + 3, 0, none⟩ = false := frozen_of_row _ _ _ _ 82 hbx; have g1 : z.cell? ⟨w.heap.size + 3, 2, none⟩ = some x2 := cell_of_row _ _ _ _ _ _ hbx; have f1 : z.frozen? ⟨w.heap.size + 3, 2, none⟩ = false := frozen_of_row _ _ _ _ 82 hbx; clear hbx; have t0 : z.cell? ⟨w.heap.size + 4, 0, none⟩ = some (.int .i64 a0) := cell_of_row _ _ _ _ _ _ (HX.out.calm HZ.out).cells.1; have t1 : z.cell? ⟨w.heap.size + 4, 1, none⟩ = some (.int .i64 b0) := cell_of_row _ _ _ _ _ _ (HX.out.calm HZ.out).cells.1; have t2 : z.cell? ⟨w.heap.size + 4, 2, none⟩ = some (.int .i64 c0) := cell_of_row _ _ _ _ _ _ (HX.out.calm HZ.out).cells.1; have t3 : z.cell? ⟨w.heap.size + 4, 3, none⟩ = some (.int .u32 (d0 : Int)) := cell_of_row _ _ _ _ _ _ (HX.out.calm HZ.out).cells.1; clear hb2 ht hu HR))
          clear n0 n1 n2 n3 t0 t1 t2 t3
          go_wp2_with (first
            | (go_at_call 14; refine (HNU.out _ _).mono ?_; rintro e y ⟨rfl, rfl⟩))
          go_roundw
          case rel => exact ⟨0 + 1, by omega, by go_num, HN.out⟩
          case measure => simp [intOf]
        · have HL := hide (logNew_no wr.drew a0 b0 c0 d0 hm)
          have HM := hide hm
          obtain ⟨hmb, -⟩ := HX.out.cells
          have m0 : wr.cell? ⟨w.heap.size + 4, 0, none⟩ = some (.int .i64 a0) := cell_of_row _ _ _ _ _ _ hmb
          have m1 : wr.cell? ⟨w.heap.size + 4, 1, none⟩ = some (.int .i64 b0) := cell_of_row _ _ _ _ _ _ hmb
          have m2 : wr.cell? ⟨w.heap.size + 4, 2, none⟩ = some (.int .i64 c0) := cell_of_row _ _ _ _ _ _ hmb
          have m3 : wr.cell? ⟨w.heap.size + 4, 3, none⟩ = some (.int .u32 (d0 : Int)) := cell_of_row _ _ _ _ _ _ hmb
          clear hmb hm
          go_wp2_with fail
          go_region_held3 (fun q => q.cell? ⟨w.heap.size + 4, 0, none⟩ = some (.int .i64 a0) ∧ q.cell? ⟨w.heap.size + 4, 1, none⟩ = some (.int .i64 b0) ∧ q.cell? ⟨w.heap.size + 4, 2, none⟩ = some (.int .i64 c0) ∧ q.cell? ⟨w.heap.size + 4, 3, none⟩ = some (.int .u32 (d0 : Int))) (first | exact ⟨m0, m1, m2, m3⟩ | exact ⟨n0, n1, n2, n3⟩)
            ((go_at_call 27; refine HL.out.mono ?_; rintro e y1 ⟨rfl, hb1⟩; have n0 : y1.cell? ⟨w.heap.size + 4, 0, none⟩ = some (.int .i64 a0) := cell_of_row _ _ _ _ _ _ (HX.out.calm (((Below.refl _ _).drew).trans (hb1.mono (Nat.le_refl _)))).cells.1; have n1 : y1.cell? ⟨w.heap.size + 4, 1, none⟩ = some (.int .i64 b0) := cell_of_row _ _ _ _ _ _ (HX.out.calm (((Below.refl _ _).drew).trans (hb1.mono (Nat.le_refl _)))).cells.1; have n2 : y1.cell? ⟨w.heap.size + 4, 2, none⟩ = some (.int .i64 c0) := cell_of_row _ _ _ _ _ _ (HX.out.calm (((Below.refl _ _).drew).trans (hb1.mono (Nat.le_refl _)))).cells.1; have n3 : y1.cell? ⟨w.heap.size + 4, 3, none⟩ = some (.int .u32 (d0 : Int)) := cell_of_row _ _ _ _ _ _ (HX.out.calm (((Below.refl _ _).drew).trans (hb1.mono (Nat.le_refl _)))).cells.1; have HB1 := hide (((Below.refl wr.heap.size wr).drew).trans (hb1.mono (Nat.le_refl _))); have HR := hide (gNew_no y1.drew a0 b0 c0 d0 HM.out); clear hb1 HL))
          clear m0 m1 m2 m3
          go_wp2_with fail
          go_region_held3 (fun q => q.cell? ⟨w.heap.size + 4, 0, none⟩ = some (.int .i64 a0) ∧ q.cell? ⟨w.heap.size + 4, 1, none⟩ = some (.int .i64 b0) ∧ q.cell? ⟨w.heap.size + 4, 2, none⟩ = some (.int .i64 c0) ∧ q.cell? ⟨w.heap.size + 4, 3, none⟩ = some (.int .u32 (d0 : Int))) (first | exact ⟨n0, n1, n2, n3⟩ | exact ⟨t0, t1, t2, t3⟩)
            ((go_at_call 62; refine HR.out.mono ?_; rintro e z ⟨rfl, hb2⟩; have HZ := hide ((HB1.out.trans ((Below.refl y1.heap.size y1).drew.mono HB1.out.size)).trans (hb2.mono HB1.out.size)); have HN := hide (HX.out.no HZ.out).1; obtain ⟨x0, x1, x2, x3, hbx⟩ := (HX.out.calm HZ.out).cells.2; have g0 : z.cell? ⟨w.heap.size + 3, 0, none⟩ = some x0 := cell_of_row _ _ _ _ _ _ hbx; have f0 : z.frozen? ⟨w.heap.size + 3, 0, none⟩ = false := frozen_of_row _ _ _ _ 82 hbx; have g1 : z.cell? ⟨w.heap.size + 3, 2, none⟩ = some x2 := cell_of_row _ _ _ _ _ _ hbx; have f1 : z.frozen? ⟨w.heap.size + 3, 2, none⟩ = false := frozen_of_row _ _ _ _ 82 hbx; clear hbx; have t0 : z.cell? ⟨w.heap.size + 4, 0, none⟩ = some (.int .i64 a0) := cell_of_row _ _ _ _ _ _ (HX.out.calm HZ.out).cells.1; have t1 : z.cell? ⟨w.heap.size + 4, 1, none⟩ = some (.int .i64 b0) := cell_of_row _ _ _ _ _ _ (HX.out.calm HZ.out).cells.1; have t2 : z.cell? ⟨w.heap.size + 4, 2, none⟩ = some (.int .i64 c0) := cell_of_row _ _ _ _ _ _ (HX.out.calm HZ.out).cells.1; have t3 : z.cell? ⟨w.heap.size + 4, 3, none⟩ = some (.int .u32 (d0 : Int)) := cell_of_row _ _ _ _ _ _ (HX.out.calm HZ.out).cells.1; clear hb2 HR))
          clear n0 n1 n2 n3 t0 t1 t2 t3
          go_wp2_with (first
            | (go_at_call 14; refine (HNU.out _ _).mono ?_; rintro e y ⟨rfl, rfl⟩))
          go_roundw
          case rel => exact ⟨0 + 1, by omega, by go_num, HN.out⟩
          case measure => simp [intOf]
      · by_cases hm : mkOk a1 b1 c1
        · have HL := hide (mk_yes (w := wr.drew) hm hd1)
          have HM := hide hm
          obtain ⟨hmb, -⟩ := HX.out.cells
          have m0 : wr.cell? ⟨w.heap.size + 4, 4, none⟩ = some (.int .i64 a1) := cell_of_row _ _ _ _ _ _ hmb
          have m1 : wr.cell? ⟨w.heap.size + 4, 5, none⟩ = some (.int .i64 b1) := cell_of_row _ _ _ _ _ _ hmb
          have m2 : wr.cell? ⟨w.heap.size + 4, 6, none⟩ = some (.int .i64 c1) := cell_of_row _ _ _ _ _ _ hmb
          have m3 : wr.cell? ⟨w.heap.size + 4, 7, none⟩ = some (.int .u32 (d1 : Int)) := cell_of_row _ _ _ _ _ _ hmb
          clear hmb hm
          go_wp2_with fail
          go_region_held3 (fun q => q.cell? ⟨w.heap.size + 4, 4, none⟩ = some (.int .i64 a1) ∧ q.cell? ⟨w.heap.size + 4, 5, none⟩ = some (.int .i64 b1) ∧ q.cell? ⟨w.heap.size + 4, 6, none⟩ = some (.int .i64 c1) ∧ q.cell? ⟨w.heap.size + 4, 7, none⟩ = some (.int .u32 (d1 : Int))) (first | exact ⟨m0, m1, m2, m3⟩ | exact ⟨n0, n1, n2, n3⟩)
            ((go_at_call 27; refine HL.out.mono ?_; rintro e y1 ⟨lp, rfl, hb1, hr⟩; have n0 : y1.cell? ⟨w.heap.size + 4, 4, none⟩ = some (.int .i64 a1) := cell_of_row _ _ _ _ _ _ (HX.out.calm (((Below.refl _ _).drew).trans (hb1.mono (Nat.le_refl _)))).cells.1; have n1 : y1.cell? ⟨w.heap.size + 4, 5, none⟩ = some (.int .i64 b1) := cell_of_row _ _ _ _ _ _ (HX.out.calm (((Below.refl _ _).drew).trans (hb1.mono (Nat.le_refl _)))).cells.1; have n2 : y1.cell? ⟨w.heap.size + 4, 6, none⟩ = some (.int .i64 c1) := cell_of_row _ _ _ _ _ _ (HX.out.calm (((Below.refl _ _).drew).trans (hb1.mono (Nat.le_refl _)))).cells.1; have n3 : y1.cell? ⟨w.heap.size + 4, 7, none⟩ = some (.int .u32 (d1 : Int)) := cell_of_row _ _ _ _ _ _ (HX.out.calm (((Below.refl _ _).drew).trans (hb1.mono (Nat.le_refl _)))).cells.1; have HB1 := hide (((Below.refl wr.heap.size wr).drew).trans (hb1.mono (Nat.le_refl _))); have HR := hide (hr y1.drew (Below.refl _ _).drew); clear hb1 hr HL))
          clear m0 m1 m2 m3
          go_wp2_with fail
          go_region_held3 (fun q => q.cell? ⟨w.heap.size + 4, 4, none⟩ = some (.int .i64 a1) ∧ q.cell? ⟨w.heap.size + 4, 5, none⟩ = some (.int .i64 b1) ∧ q.cell? ⟨w.heap.size + 4, 6, none⟩ = some (.int .i64 c1) ∧ q.cell? ⟨w.heap.size + 4, 7, none⟩ = some (.int .u32 (d1 : Int))) (first | exact ⟨n0, n1, n2, n3⟩ | exact ⟨t0, t1, t2, t3⟩)
            ((go_at_call 62; refine HR.out.mono ?_; rintro e z ⟨rp, rfl, hb2, U, ht, hu⟩; have HZ := hide ((HB1.out.trans ((Below.refl y1.heap.size y1).drew.mono HB1.out.size)).trans (hb2.mono HB1.out.size)); have HN := hide (HX.out.yes (y := z) HZ.out ht hu).2; obtain ⟨x0, x1, x2, x3, hbx⟩ := (HX.out.calm HZ.out).cells.2; have g0 : z.cell? ⟨w.heap.size + 3, 1, none⟩ = some x1 := cell_of_row _ _ _ _ _ _ hbx; have f0 : z.frozen? ⟨w.heap.size + 3, 1, none⟩ = false := frozen_of_row _ _ _ _ 82 hbx; have g1 : z.cell? ⟨w.heap.size + 3, 3, none⟩ = some x3 := cell_of_row _ _ _ _ _ _ hbx; have f1 : z.frozen? ⟨w.heap.size + 3, 3, none⟩ = false := frozen_of_row _ _ _ _ 82 hbx; clear hbx; have t0 : z.cell? ⟨w.heap.size + 4, 4, none⟩ = some (.int .i64 a1) := cell_of_row _ _ _ _ _ _ (HX.out.calm HZ.out).cells.1; have t1 : z.cell? ⟨w.heap.size + 4, 5, none⟩ = some (.int .i64 b1) := cell_of_row _ _ _ _ _ _ (HX.out.calm HZ.out).cells.1; have t2 : z.cell? ⟨w.heap.size + 4, 6, none⟩ = some (.int .i64 c1) := cell_of_row _ _ _ _ _ _ (HX.out.calm HZ.out).cells.1; have t3 : z.cell? ⟨w.heap.size + 4, 7, none⟩ = some (.int .u32 (d1 : Int)) := cell_of_row _ _ _ _ _ _ (HX.out.calm HZ.out).cells.1; clear hb2 ht hu HR))
          clear n0 n1 n2 n3 t0 t1 t2 t3
          go_wp2_with (first
            | (go_at_call 14; refine (HNU.out _ _).mono ?_; rintro e y ⟨rfl, rfl⟩))
          go_roundw
          case rel => exact ⟨1 + 1, by omega, by go_num, HN.out⟩
          case measure => simp [intOf]
        · have HL := hide (logNew_no wr.drew a1 b1 c1 d1 hm)
          have HM := hide hm
          obtain ⟨hmb, -⟩ := HX.out.cells
          have m0 : wr.cell? ⟨w.heap.size + 4, 4, none⟩ = some (.int .i64 a1) := cell_of_row _ _ _ _ _ _ hmb
          have m1 : wr.cell? ⟨w.heap.size + 4, 5, none⟩ = some (.int .i64 b1) := cell_of_row _ _ _ _ _ _ hmb
          have m2 : wr.cell? ⟨w.heap.size + 4, 6, none⟩ = some (.int .i64 c1) := cell_of_row _ _ _ _ _ _ hmb
          have m3 : wr.cell? ⟨w.heap.size + 4, 7, none⟩ = some (.int .u32 (d1 : Int)) := cell_of_row _ _ _ _ _ _ hmb
          clear hmb hm
          go_wp2_with fail
          go_region_held3 (fun q => q.cell? ⟨w.heap.size + 4, 4, none⟩ = some (.int .i64 a1) ∧ q.cell? ⟨w.heap.size + 4, 5, none⟩ = some (.int .i64 b1) ∧ q.cell? ⟨w.heap.size + 4, 6, none⟩ = some (.int .i64 c1) ∧ q.cell? ⟨w.heap.size + 4, 7, none⟩ = some (.int .u32 (d1 : Int))) (first | exact ⟨m0, m1, m2, m3⟩ | exact ⟨n0, n1, n2, n3⟩)
            ((go_at_call 27; refine HL.out.mono ?_; rintro e y1 ⟨rfl, hb1⟩; have n0 : y1.cell? ⟨w.heap.size + 4, 4, none⟩ = some (.int .i64 a1) := cell_of_row _ _ _ _ _ _ (HX.out.calm (((Below.refl _ _).drew).trans (hb1.mono (Nat.le_refl _)))).cells.1; have n1 : y1.cell? ⟨w.heap.size + 4, 5, none⟩ = some (.int .i64 b1) := cell_of_row _ _ _ _ _ _ (HX.out.calm (((Below.refl _ _).drew).trans (hb1.mono (Nat.le_refl _)))).cells.1; have n2 : y1.cell? ⟨w.heap.size + 4, 6, none⟩ = some (.int .i64 c1) := cell_of_row _ _ _ _ _ _ (HX.out.calm (((Below.refl _ _).drew).trans (hb1.mono (Nat.le_refl _)))).cells.1; have n3 : y1.cell? ⟨w.heap.size + 4, 7, none⟩ = some (.int .u32 (d1 : Int)) := cell_of_row _ _ _ _ _ _ (HX.out.calm (((Below.refl _ _).drew).trans (hb1.mono (Nat.le_refl _)))).cells.1; have HB1 := hide (((Below.refl wr.heap.size wr).drew).trans (hb1.mono (Nat.le_refl _))); have HR := hide (gNew_no y1.drew a1 b1 c1 d1 HM.out); clear hb1 HL))
          clear m0 m1 m2 m3
          go_wp2_with fail
          go_region_held3 (fun q => q.cell? ⟨w.heap.size + 4, 4, none⟩ = some (.int .i64 a1) ∧ q.cell? ⟨w.heap.size + 4, 5, none⟩ = some (.int .i64 b1) ∧ q.cell? ⟨w.heap.size + 4, 6, none⟩ = some (.int .i64 c1) ∧ q.cell? ⟨w.heap.size + 4, 7, none⟩ = some (.int .u32 (d1 : Int))) (first | exact ⟨n0, n1, n2, n3⟩ | exact ⟨t0, t1, t2, t3⟩)
            ((go_at_call 62; refine HR.out.mono ?_; rintro e z ⟨rfl, hb2⟩; have HZ := hide ((HB1.out.trans ((Below.refl y1.heap.size y1).drew.mono HB1.out.size)).trans (hb2.mono HB1.out.size)); have HN := hide (HX.out.no HZ.out).2; obtain ⟨x0, x1, x2, x3, hbx⟩ := (HX.out.calm HZ.out).cells.2; have g0 : z.cell? ⟨w.heap.size + 3, 1, none⟩ = some x1 := cell_of_row _ _ _ _ _ _ hbx; have f0 : z.frozen? ⟨w.heap.size + 3, 1, none⟩ = false := frozen_of_row _ _ _ _ 82 hbx; have g1 : z.cell? ⟨w.heap.size + 3, 3, none⟩ = some x3 := cell_of_row _ _ _ _ _ _ hbx; have f1 : z.frozen? ⟨w.heap.size + 3, 3, none⟩ = false := frozen_of_row _ _ _ _ 82 hbx; clear hbx; have t0 : z.cell? ⟨w.heap.size + 4, 4, none⟩ = some (.int .i64 a1) := cell_of_row _ _ _ _ _ _ (HX.out.calm HZ.out).cells.1; have t1 : z.cell? ⟨w.heap.size + 4, 5, none⟩ = some (.int .i64 b1) := cell_of_row _ _ _ _ _ _ (HX.out.calm HZ.out).cells.1; have t2 : z.cell? ⟨w.heap.size + 4, 6, none⟩ = some (.int .i64 c1) := cell_of_row _ _ _ _ _ _ (HX.out.calm HZ.out).cells.1; have t3 : z.cell? ⟨w.heap.size + 4, 7, none⟩ = some (.int .u32 (d1 : Int)) := cell_of_row _ _ _ _ _ _ (HX.out.calm HZ.out).cells.1; clear hb2 HR))
          clear n0 n1 n2 n3 t0 t1 t2 t3
          go_wp2_with (first
            | (go_at_call 14; refine (HNU.out _ _).mono ?_; rintro e y ⟨rfl, rfl⟩))
          go_roundw
          case rel => exact ⟨1 + 1, by omega, by go_num, HN.out⟩
          case measure => simp [intOf]
    · obtain ⟨l0, l1, r0, r1, U0, U1, hmx⟩ := HX.out
      obtain ⟨p0, q0, rfl, rfl⟩ := hmx.x.s0.ptr
      obtain ⟨p1, q1, rfl, rfl⟩ := hmx.x.s1.ptr
      have HF := hide hmx
      have e0 : wr.cell? ⟨w.heap.size + 3, 0, none⟩ = some (.pointer p0) := cell_of_row _ _ _ _ _ _ hmx.x.box
      have e1 : wr.cell? ⟨w.heap.size + 3, 1, none⟩ = some (.pointer p1) := cell_of_row _ _ _ _ _ _ hmx.x.box
      have e2 : wr.cell? ⟨w.heap.size + 3, 2, none⟩ = some (.pointer q0) := cell_of_row _ _ _ _ _ _ hmx.x.box
      have e3 : wr.cell? ⟨w.heap.size + 3, 3, none⟩ = some (.pointer q1) := cell_of_row _ _ _ _ _ _ hmx.x.box
      have g0 : wr.cell? ⟨w.heap.size + 2, 0, none⟩ = some (.pointer none) := cell_of_row _ _ _ _ _ _ hmx.rb
      have g1 : wr.cell? ⟨w.heap.size + 2, 1, none⟩ = some (.pointer none) := cell_of_row _ _ _ _ _ _ hmx.rb
      have g2 : wr.cell? ⟨w.heap.size + 2, 2, none⟩ = some (.pointer none) := cell_of_row _ _ _ _ _ _ hmx.rb
      have g3 : wr.cell? ⟨w.heap.size + 2, 3, none⟩ = some (.pointer none) := cell_of_row _ _ _ _ _ _ hmx.rb
      have f0 : wr.frozen? ⟨w.heap.size + 2, 0, none⟩ = false := frozen_of_row _ _ _ _ 82 hmx.rb
      have f1 : wr.frozen? ⟨w.heap.size + 2, 1, none⟩ = false := frozen_of_row _ _ _ _ 82 hmx.rb
      have f2 : wr.frozen? ⟨w.heap.size + 2, 2, none⟩ = false := frozen_of_row _ _ _ _ 82 hmx.rb
      have f3 : wr.frozen? ⟨w.heap.size + 2, 3, none⟩ = false := frozen_of_row _ _ _ _ 82 hmx.rb
      have hk2 : ¬ (k : Int) < 2 := by omega
      have HFF : Hid (∃ vs, Ending.returned (.tuple #[.agg #[(.pointer p0), (.pointer p1), (.pointer q0), (.pointer q1)], .bool true]) = .returned (.tuple #[.agg vs, .bool true]) ∧ MkP w ((((wr.setCell ⟨w.heap.size + 2, 0, none⟩ (.pointer p0)).setCell ⟨w.heap.size + 2, 1, none⟩ (.pointer p1)).setCell ⟨w.heap.size + 2, 2, none⟩ (.pointer q0)).setCell ⟨w.heap.size + 2, 3, none⟩ (.pointer q1)) vs) := hide ⟨_, rfl, hmx.fin _ _ _ _⟩
      clear hmx HX hlt hk
      go_wp2_with fail
      (try simp only [Exit.inBlock, Exit.then])
      exact bodyPost_ret (results_row_tmp (p := 4) (u := 5) rfl _ _ (w.heap.size + 2) 82 _ (0, 0) _ rfl (set4 HF.out.rb _ _ _ _) Try.underlying82 rfl logsSize) rfl HFF.out
end Go.Proofs.Ytafjldmfghokaab
namespace Go.Proofs.Ytafjldmfghokaab
open Go.RowKit Go.Sort
open Num
set_option linter.unusedVariables false
set_option linter.unusedSimpArgs false
set_option maxRecDepth 20000

theorem MkP.start {w0 w w' : World} {vs : Array Value} (h : MkP w w' vs) (h0 : Below w0.heap.size w0 w) : ∃ p0 p1 q0 q1, vs = #[.pointer p0, .pointer p1, .pointer q0, .pointer q1] ∧ XX w0 (w'.alloc (.cells #[.pointer p0, .pointer p1, .pointer q0, .pointer q1] 82)) w'.heap.size (.pointer p0) (.pointer p1) (.pointer q0) (.pointer q1) 0 := by
  obtain ⟨l0, l1, r0, r1, U0, U1, rfl, h1, h2, h3, h4, h5⟩ := h
  obtain ⟨p0, q0, rfl, rfl⟩ := h1.ptr
  obtain ⟨p1, q1, rfl, rfl⟩ := h2.ptr
  have hs := h0.size
  have hs2 := h5.size
  have hb : Below w'.heap.size w' (w'.alloc (.cells #[.pointer p0, .pointer p1, .pointer q0, .pointer q1] 82)) := (Below.refl _ _).alloc (Nat.le_refl _) _
  refine ⟨p0, p1, q0, q1, rfl, U0, U1, Go.heap_alloc_new _ _, h1.kept fun b e => hb.block b (h1.lt b e), h2.kept fun b e => hb.block b (h2.lt b e), h3, fun e => ?_, fun e => ?_, fun b e => ?_, (h0.trans (h5.mono hs)).trans (hb.mono (by omega))⟩
  · have := h1.lt _ e; omega
  · have := h2.lt _ e; omega
  · rcases e with e | e | e
    · have := h4 b (.inl e); omega
    · have := h4 b (.inr e); omega
    · omega
set_option maxHeartbeats 2000000 in
theorem lawLog (w : World) (a0 b0 c0 : Int) (d0 : Nat) (a1 b1 c1 : Int) (d1 : Nat) (hd0 : d0 < 4294967296) (hd1 : d1 < 4294967296) (sv : Value) (l : List OpK) (hs : OKl w sv l) (hz : l.length ≤ 1000000000000000) :
    Calls Try.prog 7 #[.agg #[.int .i64 a0, .int .i64 b0, .int .i64 c0, .int .u32 (d0 : Int)], .agg #[.int .i64 a1, .int .i64 b1, .int .i64 c1, .int .u32 (d1 : Int)], sv] w fun e w' => e = .returned (.bool true) ∧ Below w.heap.size w w' := by
  have HB : Hid (Below w.heap.size w ((w.alloc (.cells #[.int .i64 a0, .int .i64 b0, .int .i64 c0, .int .u32 (d0 : Int)] 24)).alloc (.cells #[.int .i64 a1, .int .i64 b1, .int .i64 c1, .int .u32 (d1 : Int)] 24))) := hide (((Below.refl _ _).alloc (Nat.le_refl _) _).alloc (by simp) _)
  have HM := hide (makes_any ((w.alloc (.cells #[.int .i64 a0, .int .i64 b0, .int .i64 c0, .int .u32 (d0 : Int)] 24)).alloc (.cells #[.int .i64 a1, .int .i64 b1, .int .i64 c1, .int .u32 (d1 : Int)] 24)) a0 b0 c0 d0 a1 b1 c1 d1 hd0 hd1)
  have HS := hide fun y bx l0 l1 r0 r1 (hy : XX w y bx l0 l1 r0 r1 0) => script_any hy hs hz false
  clear hs hz hd0 hd1
  go_enter Try.func7, Try.ntmps7
  go_wp2_with (first
    | (go_at_call 32; refine HM.out.mono ?_; rintro e y ⟨vs, rfl, hm⟩; obtain ⟨l0, l1, r0, r1, rfl, hx⟩ := hm.start HB.out; have HX := hide hx; clear hm hx HM)
    | (go_at_call 33; refine (HS.out _ _ _ _ _ _ HX.out).mono ?_; rintro e z ⟨rfl, hb⟩; have HF := hide hb; clear hb HS))
  go_ret
  exact ⟨rfl, HF.out⟩
set_option maxHeartbeats 2000000 in
theorem lawRecords (w : World) (a0 b0 c0 : Int) (d0 : Nat) (a1 b1 c1 : Int) (d1 : Nat) (hd0 : d0 < 4294967296) (hd1 : d1 < 4294967296) (sv : Value) (l : List OpK) (hs : OKl w sv l) (hz : l.length ≤ 1000000000000000) :
    Calls Try.prog 8 #[.agg #[.int .i64 a0, .int .i64 b0, .int .i64 c0, .int .u32 (d0 : Int)], .agg #[.int .i64 a1, .int .i64 b1, .int .i64 c1, .int .u32 (d1 : Int)], sv] w fun e w' => e = .returned (.bool true) ∧ Below w.heap.size w w' := by
  have HB : Hid (Below w.heap.size w ((w.alloc (.cells #[.int .i64 a0, .int .i64 b0, .int .i64 c0, .int .u32 (d0 : Int)] 24)).alloc (.cells #[.int .i64 a1, .int .i64 b1, .int .i64 c1, .int .u32 (d1 : Int)] 24))) := hide (((Below.refl _ _).alloc (Nat.le_refl _) _).alloc (by simp) _)
  have HM := hide (makes_any ((w.alloc (.cells #[.int .i64 a0, .int .i64 b0, .int .i64 c0, .int .u32 (d0 : Int)] 24)).alloc (.cells #[.int .i64 a1, .int .i64 b1, .int .i64 c1, .int .u32 (d1 : Int)] 24)) a0 b0 c0 d0 a1 b1 c1 d1 hd0 hd1)
  have HS := hide fun y bx l0 l1 r0 r1 (hy : XX w y bx l0 l1 r0 r1 0) => script_any hy hs hz true
  clear hs hz hd0 hd1
  go_enter Try.func8, Try.ntmps8
  go_wp2_with (first
    | (go_at_call 32; refine HM.out.mono ?_; rintro e y ⟨vs, rfl, hm⟩; obtain ⟨l0, l1, r0, r1, rfl, hx⟩ := hm.start HB.out; have HX := hide hx; clear hm hx HM)
    | (go_at_call 33; refine (HS.out _ _ _ _ _ _ HX.out).mono ?_; rintro e z ⟨rfl, hb⟩; have HF := hide hb; clear hb HS))
  go_ret
  exact ⟨rfl, HF.out⟩
end Go.Proofs.Ytafjldmfghokaab
