import Derived.Test.YtafjldmfghokaabAGe
namespace Go.Proofs.Ytafjldmfghokaab
open Go.RowKit Go.Sort
open Num
set_option linter.unusedVariables false
set_option linter.unusedSimpArgs false
set_option maxRecDepth 20000

theorem wp_still_tail {P : Program} {id : Nat} {Q : Exit → Act → World → Prop} {a : Act} {w : World} {l : List Oper} (n : Nat) (hm : P.follows .mixedOrders = true) (hB : Region.lexTailB .any l.toArray n = true)
    (h : wpStill P l.toArray w.drew (fun a' => wpList P l.toArray Q (l.drop n) a' w.drew) (l.take n) a) : (Code.region id l.toArray true).wp P Q a w :=
  wp_region_still_tail n hm hB h
abbrev zch : Array Value := #[.int .i64 0, .int .i64 0, .int .i64 0]
/-- the record that the document hands out -/
def RcG (w' : World) (v : Value) : Option (List Nat) → Prop
  | none => v = .slice none 0 0
  | some bs => BSl w' v bs
/-- what the document's Begin answers -/
def GBegP (w : World) (rp q : Nat) (cv : Value) (S : LS) (P ext size first written : Nat) (x : Int) (e : Ending) (w' : World) : Prop :=
  ∃ S' written' r v C', e = .returned (.tuple #[.agg #[.int .i64 r.c0, .int .i64 r.c1, .int .i64 r.c2], v, .int .i64 r.er]) ∧ BegRes S ext size first written x S' written' r ∧ RcG w' v r.bs ∧ RGR w' rp q cv C' P ext size ((first + written') % 4294967296) (min written' 65535) (written' * 4 % S.slots) ∧ Rel S' C' P ∧ Chg (RGU rp q cv) w w'
theorem BSl.stay {w w' : World} {v : Value} {l : List Nat} (h : BSl w v l) (hb : ∀ g, v.ownBlock = some g → w'.heap[g]? = w.heap[g]?) : BSl w' v l := by
  obtain ⟨a, cap, rfl, h1, h2, h3, h4, h5⟩ := h
  refine ⟨a, cap, rfl, h1, h2, h3, h4, fun hp => ?_⟩
  obtain ⟨b, off, rfl, hc⟩ := h5 hp
  refine ⟨b, off, rfl, fun i hi => ?_⟩
  rw [← hc i hi]
  exact World.cell?_of_block (hb b rfl)
/-- behind the document's Get -/
structure GR (w y : World) (rp q : Nat) (cv : Value) (S' : LS) (C' : List RC) (P ext size next age start : Nat) : Prop where
  box : y.heap[w.heap.size]? = some (.cells zch 38 (0, 0))
  lg : RGR y rp q cv C' P ext size next age start
  rel : Rel S' C' P
  ch : Chg (RGU rp q cv) w y
  gl : ∀ b, RGU rp q cv b → b < w.heap.size
theorem chg_box {w y : World} {U : Nat → Prop} (h : Chg U w y) (a b c : Value) : Chg U w (((y.setCell ⟨w.heap.size, 0, none⟩ a).setCell ⟨w.heap.size, 1, none⟩ b).setCell ⟨w.heap.size, 2, none⟩ c) := by
  refine ⟨h.os, h.tape, h.output, by simp only [World.size_setCell]; exact h.size, fun k hk hn => ?_⟩
  have hne : k ≠ w.heap.size := by omega
  rw [Go.heap_setCell_other _ _ _ _ hne, Go.heap_setCell_other _ _ _ _ hne, Go.heap_setCell_other _ _ _ _ hne]
  exact h.keep k hk hn
theorem GR.old {w y : World} {rp q : Nat} {cv : Value} {S S' : LS} {C' : List RC} {P ext size first written : Nat} {x : Int} (h : GR w y rp q cv S' C' P ext size ((first + written) % 4294967296) (min written 65535) (written * 4 % S.slots)) (hin : 0 ≤ x ∧ x < (ext : Int)) {slot : Nat} {old : Int} {gone : Bool} {er : Int} (hg : GetRes S x S' slot false old gone er) :
    GBegP w rp q cv S P ext size first written x (.returned (.tuple #[.agg zch, .slice none 0 0, .int .i64 er])) (((y.setCell ⟨w.heap.size, 0, none⟩ (.int .i64 0)).setCell ⟨w.heap.size, 1, none⟩ (.int .i64 0)).setCell ⟨w.heap.size, 2, none⟩ (.int .i64 0)) := by
  refine ⟨S', written, ⟨0, 0, 0, none, er⟩, .slice none 0 0, C', rfl, .inr (.inl ⟨hin, slot, old, gone, er, hg, rfl, rfl⟩), rfl, h.lg.kept fun b e => ?_, h.rel, chg_box h.ch _ _ _⟩
  have := h.gl b e
  have hne : b ≠ w.heap.size := by omega
  rw [Go.heap_setCell_other _ _ _ _ hne, Go.heap_setCell_other _ _ _ _ hne, Go.heap_setCell_other _ _ _ _ hne]
theorem GR.new {w y z W3 : World} {rp q : Nat} {cv : Value} {S S' : LS} {C' : List RC} {P ext size first written : Nat} {x : Int} (h : GR w y rp q cv S' C' P ext size ((first + written) % 4294967296) (min written 65535) (written * 4 % S.slots)) (hin : 0 ≤ x ∧ x < (ext : Int)) {slot : Nat} {old c2 : Int} {gone : Bool} (hc2 : c2 = if gone then old else -1) (hg : GetRes S x S' slot true old gone 0) (hz : Below y.heap.size y z) {v : Value}
    (hrow : W3.heap[rp]? = some (.cells #[.pointer (some ⟨q, 0, none⟩), .int .i64 (ext : Int), .int .i64 (size : Int), .int .u32 (((first + (written + 1)) % 4294967296 : Nat) : Int), .int .i64 ((min (written + 1) 65535 : Nat) : Int), .int .i64 (((written + 1) * 4 % S.slots : Nat) : Int)] 154 (0, 0))) (hk : ∀ b, b ≠ rp → W3.heap[b]? = z.heap[b]?) (hs : W3.heap.size = z.heap.size) (ho : W3.os = z.os) (ht : W3.tape = z.tape) (hu : W3.output = z.output)
    (hv : BSl z v (recOf S' size first written (slot : Int) x c2)) (hn : ∀ g, v.ownBlock = some g → y.heap.size ≤ g) :
    GBegP w rp q cv S P ext size first written x (.returned (.tuple #[.agg #[.int .i64 (slot : Int), .int .i64 x, .int .i64 c2], v, .int .i64 0])) (((W3.setCell ⟨w.heap.size, 0, none⟩ (.int .i64 (slot : Int))).setCell ⟨w.heap.size, 1, none⟩ (.int .i64 x)).setCell ⟨w.heap.size, 2, none⟩ (.int .i64 c2)) := by
  have hrl := h.gl rp (.inl rfl)
  have hbx := (Array.getElem?_eq_some_iff.1 h.box).1
  have hys := h.ch.size
  have hzs := hz.size
  have hk2 : ∀ b, b ≠ w.heap.size → (((W3.setCell ⟨w.heap.size, 0, none⟩ (.int .i64 (slot : Int))).setCell ⟨w.heap.size, 1, none⟩ (.int .i64 x)).setCell ⟨w.heap.size, 2, none⟩ (.int .i64 c2)).heap[b]? = W3.heap[b]? := fun b hne => by
    rw [Go.heap_setCell_other _ _ _ _ hne, Go.heap_setCell_other _ _ _ _ hne, Go.heap_setCell_other _ _ _ _ hne]
  have hch : Chg (RGU rp q cv) w W3 := by
    refine ⟨ho.trans (hz.os.trans h.ch.os), ht.trans (hz.tape.trans h.ch.tape), hu.trans (hz.output.trans h.ch.output), by omega, fun b hb hnu => ?_⟩
    rw [hk b (fun e => hnu (.inl e)), hz.block b (by omega)]
    exact h.ch.keep b hb hnu
  refine ⟨S', written + 1, ⟨(slot : Int), x, c2, some (recOf S' size first written (slot : Int) x c2), 0⟩, v, C', rfl, .inr (.inr ⟨hin, slot, old, gone, hg, rfl, by rw [hc2]⟩), ?_, ⟨(hk2 rp (by omega)).trans hrow, h.lg.l.kept fun b e => ?_, h.lg.ap⟩, h.rel, chg_box hch _ _ _⟩
  · refine hv.stay fun g e => ?_
    have := hn g e
    rw [hk2 g (by omega), hk g (by omega)]
  · have := h.gl b (.inr e)
    rw [hk2 b (by omega), hk b (fun e2 => h.lg.ap (e2 ▸ e)), hz.block b (by omega)]
theorem row3 {z : World} {rp : Nat} {v0 v1 v2 v3 v4 v5 : Value} (h : z.heap[rp]? = some (.cells #[v0, v1, v2, v3, v4, v5] 154 (0, 0))) (a b c : Value) : (((z.setCell ⟨rp, 3, none⟩ a).setCell ⟨rp, 4, none⟩ b).setCell ⟨rp, 5, none⟩ c).heap[rp]? = some (.cells #[v0, v1, v2, a, b, c] 154 (0, 0)) := by
  have h1 := Go.heap_setCell_same z rp 3 _ 154 a h
  have h2 := Go.heap_setCell_same _ rp 4 _ 154 b h1
  exact Go.heap_setCell_same _ rp 5 _ 154 c h2
theorem row2 {z : World} {rp : Nat} {v0 v1 v2 v3 v4 v5 : Value} (h : z.heap[rp]? = some (.cells #[v0, v1, v2, v3, v4, v5] 154 (0, 0))) (a c : Value) : ((z.setCell ⟨rp, 3, none⟩ a).setCell ⟨rp, 5, none⟩ c).heap[rp]? = some (.cells #[v0, v1, v2, a, v4, c] 154 (0, 0)) := by
  have h1 := Go.heap_setCell_same z rp 3 _ 154 a h
  exact Go.heap_setCell_same _ rp 5 _ 154 c h1
set_option maxHeartbeats 4000000 in
theorem gBegin_any {w : World} {rp q M : Nat} {cv : Value} {C : List RC} {P ext size first written : Nat} {S : LS} (h : RGR w rp q cv C P ext size ((first + written) % 4294967296) (min written 65535) (written * 4 % S.slots)) (hR : Rel S C P) (hS : S.Ok M) (hM : M ≤ 4611686018427387904) (hw : written ≤ 1000000000000000) (hx4 : ext ≤ 1024) (hsz : 128 ≤ size ∧ size ≤ 1024) (hks : ∀ k ∈ S.ks, 0 ≤ k ∧ k < (ext : Int)) (x : Int) :
    Calls Try.prog 88 #[.pointer (some ⟨rp, 0, none⟩), .int .i64 x] w (GBegP w rp q cv S P ext size first written x) := by
  have HB0 := hide ((Below.refl w.heap.size w).alloc (Nat.le_refl _) (.cells zch 38))
  have HL0 := hide (h.below HB0.out)
  have c1 : (w.alloc (.cells zch 38)).cell? ⟨rp, 1, none⟩ = some (.int .i64 (ext : Int)) := HL0.out.c 1
  have c0 : (w.alloc (.cells zch 38)).cell? ⟨rp, 0, none⟩ = some (.pointer (some ⟨q, 0, none⟩)) := HL0.out.c 0
  by_cases hin : 0 ≤ x ∧ x < (ext : Int)
  case neg =>
    have HF : Hid (GBegP w rp q cv S P ext size first written x (.returned (.tuple #[.agg zch, .slice none 0 0, .int .i64 2])) (w.alloc (.cells zch 38))) := hide ⟨S, written, ⟨0, 0, 0, none, 2⟩, .slice none 0 0, C, rfl, .inl ⟨hin, rfl, rfl, rfl⟩, rfl, HL0.out, hR, Chg.ofBelow HB0.out⟩
    clear h hS hR hks
    by_cases h0 : 0 ≤ x
    · have b0 : (x < 0) = False := by simp; omega
      have b1 : (ext : Int) ≤ x := by omega
      clear hin h0
      go_enter Try.func88, Try.ntmps88
      go_wp2_with fail
      exact bodyPost_ret (results_row_tmp2 (p := 4) (u := 5) (v := 6) rfl _ _ w.heap.size 38 _ (0, 0) _ rfl (Go.heap_alloc_new w _) Try.underlying38 rfl chgSize) rfl HF.out
    · have b1 : x < 0 := by omega
      clear hin h0
      go_enter Try.func88, Try.ntmps88
      go_wp2_with fail
      exact bodyPost_ret (results_row_tmp2 (p := 4) (u := 5) (v := 6) rfl _ _ w.heap.size 38 _ (0, 0) _ rfl (Go.heap_alloc_new w _) Try.underlying38 rfl chgSize) rfl HF.out
  have hi64 : i64ok x := by unfold i64ok; omega
  have HG : Hid (Calls Try.prog 104 #[.pointer (some ⟨q, 0, none⟩), .int .i64 x] (w.alloc (.cells zch 38)) (RGet (w.alloc (.cells zch 38)) q P cv S x)) := hide (by
    by_cases hm : x ∈ S.ks
    · obtain ⟨s, hs⟩ := List.getElem?_of_mem hm
      exact rGet_in HL0.out.l hR hS hM hs
    · exact rGet_out HL0.out.l hR hS hm)
  have HGT : Hid (∀ y S' C', RLR y q cv C' P → Rel S' C' P → Chg (RU q cv) (w.alloc (.cells zch 38)) y → GR w y rp q cv S' C' P ext size ((first + written) % 4294967296) (min written 65535) (written * 4 % S.slots)) := hide fun y S' C' hl hr hc => by
    have hlt := h.lt
    refine ⟨(hc.keep w.heap.size (by simp) (fun e => by have := h.l.lt _ e; omega)).trans (Go.heap_alloc_new w _), HL0.out.turn hl hc, hr, (Chg.ofBelow HB0.out).trans (hc.mono fun b _ e => .inr e), hlt⟩
  have HIN := hide hin
  have HOK : Hid (∀ S' slot fresh old gone er, GetRes S x S' slot fresh old gone er → S'.Ok (M + 1) ∧ (∀ k ∈ S'.ks, 0 ≤ k ∧ k < (ext : Int)) ∧ (gone = true → 0 ≤ old ∧ old < (ext : Int)) ∧ slot < 17) := hide fun S' slot fresh old gone er hg => ⟨hg.ok hS hi64, fun k hk => by
    rcases hg.ks.1 k hk with e | e
    · exact hks k e
    · subst e; exact hin, fun e => hks _ (hg.ks.2 e), hg.slot_lt hS⟩
  have b0 : (x < 0) = False := by simp; omega
  have b1 : ((ext : Int) ≤ x) = False := by simp; omega
  clear h hS hR hks hin hi64
  go_enter Try.func88, Try.ntmps88
  go_wp2_with (first
    | (go_at_call 104; refine HG.out.mono ?_; rintro e y ⟨S', slot, fresh, old, gone, er, C', hg, rfl, hl, hr, hc⟩; have HGR := hide hg; have HY := hide (HGT.out _ _ _ hl hr hc); have HO := hide (HOK.out _ _ _ _ _ _ hg); have e0 : y.cell? ⟨w.heap.size, 0, none⟩ = some (.int .i64 0) := cell_of_row _ _ _ _ _ _ HY.out.box; have e1 : y.cell? ⟨w.heap.size, 1, none⟩ = some (.int .i64 0) := cell_of_row _ _ _ _ _ _ HY.out.box; have e2 : y.cell? ⟨w.heap.size, 2, none⟩ = some (.int .i64 0) := cell_of_row _ _ _ _ _ _ HY.out.box; have f0 : y.frozen? ⟨w.heap.size, 0, none⟩ = false := frozen_of_row _ _ _ _ 38 HY.out.box; have f1 : y.frozen? ⟨w.heap.size, 1, none⟩ = false := frozen_of_row _ _ _ _ 38 HY.out.box; have f2 : y.frozen? ⟨w.heap.size, 2, none⟩ = false := frozen_of_row _ _ _ _ 38 HY.out.box; rcases hg.cases with ⟨rfl, rfl, rfl⟩ | ⟨rfl, rfl, rfl⟩ | ⟨rfl, rfl, rfl⟩ | ⟨rfl, rfl, rfl⟩ <;> clear hg hl hr hc HG HL0 c0 c1 HGT HB0 HOK))
  · exact bodyPost_ret (results_row_tmp2 (p := 4) (u := 5) (v := 6) rfl _ _ w.heap.size 38 _ (0, 0) _ rfl (set3 HY.out.box _ _ _) Try.underlying38 rfl chgSize) rfl (GR.old HY.out HIN.out HGR.out)
  · exact bodyPost_ret (results_row_tmp2 (p := 4) (u := 5) (v := 6) rfl _ _ w.heap.size 38 _ (0, 0) _ rfl (set3 HY.out.box _ _ _) Try.underlying38 rfl chgSize) rfl (GR.old HY.out HIN.out HGR.out)
  · clear e0 e1 e2 f0 f1 f2
    have HBY := hide ((Below.refl y.heap.size y).alloc (Nat.le_refl _) (.cells #[.int .i64 (slot : Int), .int .i64 x, .int .i64 (-1)] 38))
    have HSL := hide (gSlots_any (HY.out.lg.below HBY.out) HY.out.rel HO.out.1)
    have hos1 := HO.out.1.s1
    have hos2 := HO.out.1.s2
    have HLN := hide (rowL_len HO.out.1)
    have HSS := hide HGR.out.slots
    obtain ⟨hin1, hin2⟩ := HIN.out
    obtain ⟨X, hX⟩ : ∃ X : Nat, x = (X : Int) := ⟨x.toNat, by omega⟩
    have HC2 : Hid (((-1) : Int) = -1 ∨ (0 ≤ ((-1) : Int) ∧ ((-1) : Int) < 4294967296)) := hide (by first | (left; rfl) | (right; have := HO.out.2.2.1 (by trivial); omega))
    have HZV : Hid (∀ z ∈ rowL S', z = -1 ∨ (0 ≤ z ∧ z < 4294967296)) := hide fun z hz => by
      unfold rowL at hz
      rcases List.mem_append.1 hz with e | e
      · right; have := HO.out.2.1 z e; omega
      · left; exact (List.mem_replicate.1 e).2
    have HREC : Hid (∀ z1 z sv, GIn (y.alloc (.cells #[.int .i64 (slot : Int), .int .i64 x, .int .i64 (-1)] 38)) z1 sv (rowL S') → Below z1.heap.size z1 z → Calls Try.prog 106 #[.int .i64 (size : Int), .int .u32 (((first + written) % 4294967296 : Nat) : Int), .int .i64 ((min written 65535 : Nat) : Int), sv, .agg #[.int .i64 (slot : Int), .int .i64 x, .int .i64 (-1)], .int .i64 ((written * 4 % S.slots : Nat) : Int)] z fun e w' => ∃ v, e = .returned v ∧ GBy z w' v (recOf S' size first written (slot : Int) x (-1))) := hide fun z1 z sv hv hz => by
      have hl := HO.out.2.2.2
      have hs := (hv.later hz).ow
      have hr := rRecord_any (w := z) (sv := sv) (zs := rowL S') size ((first + written) % 4294967296) (min written 65535) slot X (-1) (written * 4 % S.slots) hs (by rw [HLN.out]; omega) (by rw [HLN.out]; omega) HZV.out hsz (by omega) (by omega) (by omega) (by omega) HC2.out (by rw [HLN.out, HSS.out]; exact Nat.mod_lt _ (by rw [← HSS.out]; omega))
      rw [HLN.out, ← hX] at hr
      unfold recOf
      rw [HSS.out] at hr ⊢
      exact hr
    have HXX := hide hX
    clear hX
    have HCY : Hid (∀ z, Below y.heap.size y z → RGR z rp q cv C' P ext size ((first + written) % 4294967296) (min written 65535) (written * 4 % S.slots) ∧ z.heap[w.heap.size]? = some (.cells zch 38 (0, 0))) := hide fun z hz => ⟨HY.out.lg.below hz, (hz.block _ (Array.getElem?_eq_some_iff.1 HY.out.box).1).trans HY.out.box⟩
    have HCB : Hid (∀ z, Below (y.alloc (.cells #[.int .i64 (slot : Int), .int .i64 x, .int .i64 (-1)] 38)).heap.size (y.alloc (.cells #[.int .i64 (slot : Int), .int .i64 x, .int .i64 (-1)] 38)) z → z.heap[y.heap.size]? = some (.cells #[.int .i64 (slot : Int), .int .i64 x, .int .i64 (-1)] 38 (0, 0))) := hide fun z hz => (hz.block _ (by simp)).trans (Go.heap_alloc_new y _)
    have HNEW := hide fun z W3 v hz hrow hk hs ho ht hu hv hn => GR.new (z := z) (W3 := W3) (v := v) (c2 := (-1)) HY.out HIN.out (by simp) HGR.out hz hrow hk hs ho ht hu hv hn
    have hw0 := (Array.getElem?_eq_some_iff.1 HY.out.box).1
    have hw1 := HY.out.gl rp (.inl rfl)
    have ne1 : ¬ w.heap.size = rp := by omega
    have ne2 : ¬ rp = w.heap.size := by omega
    have ne3 : ¬ y.heap.size = rp := by omega
    have ne4 : ¬ y.heap.size = w.heap.size := by omega
    have ne5 : ¬ w.heap.size = y.heap.size := by omega
    have ne6 : ¬ rp = y.heap.size := by omega
    have hsl := HSS.out
    have hNXl : (first + written) % 4294967296 < 4294967296 := by omega
    have hAGl : min written 65535 ≤ 65535 := by omega
    have hSTl : written * 4 % S.slots < S.slots := Nat.mod_lt _ (by omega)
    have hq3 : ((((first + written) % 4294967296 : Nat) : Int) + 1) % 4294967296 = (((first + (written + 1)) % 4294967296 : Nat) : Int) := by omega
    have hq5 : (((written * 4 % S.slots : Nat) : Int) + 4) % (S.slots : Int) = (((written + 1) * 4 % S.slots : Nat) : Int) := by
      have : ((written + 1) * 4 % S.slots : Nat) = (written * 4 % S.slots + 4) % S.slots := by rw [Nat.add_mul, Nat.mod_add_mod]
      rw [this]; simp
    have hq4 : written < 65535 → min (written + 1) 65535 = min written 65535 + 1 := by omega
    have hq4' : ¬ written < 65535 → min (written + 1) 65535 = min written 65535 := by omega
    have hq4l : (min written 65535 < 65535) = (written < 65535) := by apply propext; omega
    generalize (first + written) % 4294967296 = NX at HREC HCY hNXl hq3
    generalize min written 65535 = AG at HREC HCY hAGl hq4 hq4' hq4l
    generalize written * 4 % S.slots = ST at HREC HCY hSTl hq5
    have HQ := hide (And.intro hq3 (And.intro hq4 (And.intro hq4' hq5)))
    clear hq3 hq4 hq4' hq5
    go_wp2_with (first
      | (go_at_call 105; refine HSL.out.mono ?_; rintro e z1 ⟨sv, rfl, hv⟩; have HV := hide hv; obtain ⟨asv, csv, esv, hcs1, hcs2⟩ := hv.form; rw [HLN.out, HSS.out] at esv hcs1; subst esv; have HB1 := hide hv.be; clear hv HSL))
    unfold maxLen at hcs2
    have HZ1 := hide (HBY.out.trans (HB1.out.mono HBY.out.size))
    obtain ⟨hlg, hbx⟩ := HCY.out _ HZ1.out
    have hb2 := HCB.out _ HB1.out
    have k2 : z1.cell? ⟨rp, 2, none⟩ = some (.int .i64 (size : Int)) := hlg.c 2
    have k3 : z1.cell? ⟨rp, 3, none⟩ = some (.int .u32 (NX : Int)) := hlg.c 3
    have k4 : z1.cell? ⟨rp, 4, none⟩ = some (.int .i64 (AG : Int)) := hlg.c 4
    have k5 : z1.cell? ⟨rp, 5, none⟩ = some (.int .i64 (ST : Int)) := hlg.c 5
    have m0 : z1.cell? ⟨y.heap.size, 0, none⟩ = some (.int .i64 (slot : Int)) := cell_of_row _ _ _ _ _ _ hb2
    have m1 : z1.cell? ⟨y.heap.size, 1, none⟩ = some (.int .i64 x) := cell_of_row _ _ _ _ _ _ hb2
    have m2 : z1.cell? ⟨y.heap.size, 2, none⟩ = some (.int .i64 (-1)) := cell_of_row _ _ _ _ _ _ hb2
    have HD1 : Hid (Below z1.heap.size z1 z1.drew) := hide (Below.refl _ _).drew
    clear hlg hbx hb2
    refine wp_still_tail 18 (by kernel_rfl) (by kernel_rfl) ?_
    simp only [List.take_succ_cons, List.take_zero, List.drop_succ_cons, List.drop_zero]
    repeat still_step
    refine wpStill_nil ?_
    clear k2 k3 k4 k5 m0 m1 m2
    by_cases hag : written < 65535
    · have hag0 : AG < 65535 := by rw [hq4l]; exact hag
      have hag1 : ((AG : Int) < 65535) = True := by simp; omega
      have HAG := hide (HQ.out.2.1 hag)
      clear hag hq4l hag0
      go_wp2_with (first
        | (go_at_call 106; refine (HREC.out _ _ _ HV.out HD1.out).mono ?_; rintro e z2 ⟨v, rfl, hg⟩; have HGV := hide hg; have HB2 := hide (HD1.out.trans (hg.be.mono HD1.out.size)); have HZ2 := hide (HZ1.out.trans (HB2.out.mono HZ1.out.size)); have HY2 := hide (HB1.out.trans (HB2.out.mono HB1.out.size)); have p3 : z2.cell? ⟨rp, 3, none⟩ = some (.int .u32 (NX : Int)) := (HCY.out _ HZ2.out).1.c 3; have p4 : z2.cell? ⟨rp, 4, none⟩ = some (.int .i64 (AG : Int)) := (HCY.out _ HZ2.out).1.c 4; have p5 : z2.cell? ⟨rp, 5, none⟩ = some (.int .i64 (ST : Int)) := (HCY.out _ HZ2.out).1.c 5; have g3 : z2.frozen? ⟨rp, 3, none⟩ = false := (HCY.out _ HZ2.out).1.f 3; have g4 : z2.frozen? ⟨rp, 4, none⟩ = false := (HCY.out _ HZ2.out).1.f 4; have g5 : z2.frozen? ⟨rp, 5, none⟩ = false := (HCY.out _ HZ2.out).1.f 5; have n0 : z2.cell? ⟨y.heap.size, 0, none⟩ = some (.int .i64 (slot : Int)) := cell_of_row _ _ _ _ _ _ (HCB.out _ HY2.out); have n1 : z2.cell? ⟨y.heap.size, 1, none⟩ = some (.int .i64 x) := cell_of_row _ _ _ _ _ _ (HCB.out _ HY2.out); have n2 : z2.cell? ⟨y.heap.size, 2, none⟩ = some (.int .i64 (-1)) := cell_of_row _ _ _ _ _ _ (HCB.out _ HY2.out); have e0 : z2.cell? ⟨w.heap.size, 0, none⟩ = some (.int .i64 0) := cell_of_row _ _ _ _ _ _ (HCY.out _ HZ2.out).2; have e1 : z2.cell? ⟨w.heap.size, 1, none⟩ = some (.int .i64 0) := cell_of_row _ _ _ _ _ _ (HCY.out _ HZ2.out).2; have e2 : z2.cell? ⟨w.heap.size, 2, none⟩ = some (.int .i64 0) := cell_of_row _ _ _ _ _ _ (HCY.out _ HZ2.out).2; have f0 : z2.frozen? ⟨w.heap.size, 0, none⟩ = false := frozen_of_row _ _ _ _ 38 (HCY.out _ HZ2.out).2; have f1 : z2.frozen? ⟨w.heap.size, 1, none⟩ = false := frozen_of_row _ _ _ _ 38 (HCY.out _ HZ2.out).2; have f2 : z2.frozen? ⟨w.heap.size, 2, none⟩ = false := frozen_of_row _ _ _ _ 38 (HCY.out _ HZ2.out).2; clear hg HREC))
      have HK : Hid (∀ b, b ≠ rp → (((z2.setCell ⟨rp, 3, none⟩ (.int .u32 (((NX : Int) + 1) % 4294967296))).setCell ⟨rp, 4, none⟩ (.int .i64 ((AG : Int) + 1))).setCell ⟨rp, 5, none⟩ (.int .i64 (((ST : Int) + 4) % (S.slots : Int)))).heap[b]? = z2.heap[b]?) := hide (fun b hb => by rw [Go.heap_setCell_other _ _ _ _ hb, Go.heap_setCell_other _ _ _ _ hb, Go.heap_setCell_other _ _ _ _ hb])
      exact bodyPost_ret (results_row_tmp2 (p := 4) (u := 5) (v := 6) rfl _ _ w.heap.size 38 _ (0, 0) _ rfl (set3 ((HK.out _ ne1).trans (HCY.out _ HZ2.out).2) _ _ _) Try.underlying38 rfl chgSize) rfl (HNEW.out z2 _ v HZ2.out (by rw [← HQ.out.1, ← HQ.out.2.2.2, HAG.out]; first | exact row3 (HCY.out _ HZ2.out).1.row _ _ _ | (have := row3 (HCY.out _ HZ2.out).1.row (.int .u32 (((NX : Int) + 1) % 4294967296)) (.int .i64 ((AG : Int) + 1)) (.int .i64 (((ST : Int) + 4) % (S.slots : Int))); simpa using this)) HK.out (by simp only [World.size_setCell]) rfl rfl rfl (HGV.out.sl (by rw [recOf_len hsz.1]; unfold maxLen; omega)) (fun g e => Nat.le_trans HZ1.out.size (HGV.out.nw g e)))
    · have hag0 : ¬ AG < 65535 := by rw [hq4l]; exact hag
      have hag1 : ((AG : Int) < 65535) = False := by simp; omega
      have HAG := hide (HQ.out.2.2.1 hag)
      clear hag hq4l hag0
      go_wp2_with (first
        | (go_at_call 106; refine (HREC.out _ _ _ HV.out HD1.out).mono ?_; rintro e z2 ⟨v, rfl, hg⟩; have HGV := hide hg; have HB2 := hide (HD1.out.trans (hg.be.mono HD1.out.size)); have HZ2 := hide (HZ1.out.trans (HB2.out.mono HZ1.out.size)); have HY2 := hide (HB1.out.trans (HB2.out.mono HB1.out.size)); have p3 : z2.cell? ⟨rp, 3, none⟩ = some (.int .u32 (NX : Int)) := (HCY.out _ HZ2.out).1.c 3; have p4 : z2.cell? ⟨rp, 4, none⟩ = some (.int .i64 (AG : Int)) := (HCY.out _ HZ2.out).1.c 4; have p5 : z2.cell? ⟨rp, 5, none⟩ = some (.int .i64 (ST : Int)) := (HCY.out _ HZ2.out).1.c 5; have g3 : z2.frozen? ⟨rp, 3, none⟩ = false := (HCY.out _ HZ2.out).1.f 3; have g4 : z2.frozen? ⟨rp, 4, none⟩ = false := (HCY.out _ HZ2.out).1.f 4; have g5 : z2.frozen? ⟨rp, 5, none⟩ = false := (HCY.out _ HZ2.out).1.f 5; have n0 : z2.cell? ⟨y.heap.size, 0, none⟩ = some (.int .i64 (slot : Int)) := cell_of_row _ _ _ _ _ _ (HCB.out _ HY2.out); have n1 : z2.cell? ⟨y.heap.size, 1, none⟩ = some (.int .i64 x) := cell_of_row _ _ _ _ _ _ (HCB.out _ HY2.out); have n2 : z2.cell? ⟨y.heap.size, 2, none⟩ = some (.int .i64 (-1)) := cell_of_row _ _ _ _ _ _ (HCB.out _ HY2.out); have e0 : z2.cell? ⟨w.heap.size, 0, none⟩ = some (.int .i64 0) := cell_of_row _ _ _ _ _ _ (HCY.out _ HZ2.out).2; have e1 : z2.cell? ⟨w.heap.size, 1, none⟩ = some (.int .i64 0) := cell_of_row _ _ _ _ _ _ (HCY.out _ HZ2.out).2; have e2 : z2.cell? ⟨w.heap.size, 2, none⟩ = some (.int .i64 0) := cell_of_row _ _ _ _ _ _ (HCY.out _ HZ2.out).2; have f0 : z2.frozen? ⟨w.heap.size, 0, none⟩ = false := frozen_of_row _ _ _ _ 38 (HCY.out _ HZ2.out).2; have f1 : z2.frozen? ⟨w.heap.size, 1, none⟩ = false := frozen_of_row _ _ _ _ 38 (HCY.out _ HZ2.out).2; have f2 : z2.frozen? ⟨w.heap.size, 2, none⟩ = false := frozen_of_row _ _ _ _ 38 (HCY.out _ HZ2.out).2; clear hg HREC))
      have HK : Hid (∀ b, b ≠ rp → ((z2.setCell ⟨rp, 3, none⟩ (.int .u32 (((NX : Int) + 1) % 4294967296))).setCell ⟨rp, 5, none⟩ (.int .i64 (((ST : Int) + 4) % (S.slots : Int)))).heap[b]? = z2.heap[b]?) := hide (fun b hb => by rw [Go.heap_setCell_other _ _ _ _ hb, Go.heap_setCell_other _ _ _ _ hb])
      exact bodyPost_ret (results_row_tmp2 (p := 4) (u := 5) (v := 6) rfl _ _ w.heap.size 38 _ (0, 0) _ rfl (set3 ((HK.out _ ne1).trans (HCY.out _ HZ2.out).2) _ _ _) Try.underlying38 rfl chgSize) rfl (HNEW.out z2 _ v HZ2.out (by rw [← HQ.out.1, ← HQ.out.2.2.2, HAG.out]; exact row2 (HCY.out _ HZ2.out).1.row _ _) HK.out (by simp only [World.size_setCell]) rfl rfl rfl (HGV.out.sl (by rw [recOf_len hsz.1]; unfold maxLen; omega)) (fun g e => Nat.le_trans HZ1.out.size (HGV.out.nw g e)))
  · clear e0 e1 e2 f0 f1 f2
    have HBY := hide ((Below.refl y.heap.size y).alloc (Nat.le_refl _) (.cells #[.int .i64 (slot : Int), .int .i64 x, .int .i64 old] 38))
    have HSL := hide (gSlots_any (HY.out.lg.below HBY.out) HY.out.rel HO.out.1)
    have hos1 := HO.out.1.s1
    have hos2 := HO.out.1.s2
    have HLN := hide (rowL_len HO.out.1)
    have HSS := hide HGR.out.slots
    obtain ⟨hin1, hin2⟩ := HIN.out
    obtain ⟨X, hX⟩ : ∃ X : Nat, x = (X : Int) := ⟨x.toNat, by omega⟩
    have HC2 : Hid ((old : Int) = -1 ∨ (0 ≤ (old : Int) ∧ (old : Int) < 4294967296)) := hide (by first | (left; rfl) | (right; have := HO.out.2.2.1 (by trivial); omega))
    have HZV : Hid (∀ z ∈ rowL S', z = -1 ∨ (0 ≤ z ∧ z < 4294967296)) := hide fun z hz => by
      unfold rowL at hz
      rcases List.mem_append.1 hz with e | e
      · right; have := HO.out.2.1 z e; omega
      · left; exact (List.mem_replicate.1 e).2
    have HREC : Hid (∀ z1 z sv, GIn (y.alloc (.cells #[.int .i64 (slot : Int), .int .i64 x, .int .i64 old] 38)) z1 sv (rowL S') → Below z1.heap.size z1 z → Calls Try.prog 106 #[.int .i64 (size : Int), .int .u32 (((first + written) % 4294967296 : Nat) : Int), .int .i64 ((min written 65535 : Nat) : Int), sv, .agg #[.int .i64 (slot : Int), .int .i64 x, .int .i64 old], .int .i64 ((written * 4 % S.slots : Nat) : Int)] z fun e w' => ∃ v, e = .returned v ∧ GBy z w' v (recOf S' size first written (slot : Int) x old)) := hide fun z1 z sv hv hz => by
      have hl := HO.out.2.2.2
      have hs := (hv.later hz).ow
      have hr := rRecord_any (w := z) (sv := sv) (zs := rowL S') size ((first + written) % 4294967296) (min written 65535) slot X old (written * 4 % S.slots) hs (by rw [HLN.out]; omega) (by rw [HLN.out]; omega) HZV.out hsz (by omega) (by omega) (by omega) (by omega) HC2.out (by rw [HLN.out, HSS.out]; exact Nat.mod_lt _ (by rw [← HSS.out]; omega))
      rw [HLN.out, ← hX] at hr
      unfold recOf
      rw [HSS.out] at hr ⊢
      exact hr
    have HXX := hide hX
    clear hX
    have HCY : Hid (∀ z, Below y.heap.size y z → RGR z rp q cv C' P ext size ((first + written) % 4294967296) (min written 65535) (written * 4 % S.slots) ∧ z.heap[w.heap.size]? = some (.cells zch 38 (0, 0))) := hide fun z hz => ⟨HY.out.lg.below hz, (hz.block _ (Array.getElem?_eq_some_iff.1 HY.out.box).1).trans HY.out.box⟩
    have HCB : Hid (∀ z, Below (y.alloc (.cells #[.int .i64 (slot : Int), .int .i64 x, .int .i64 old] 38)).heap.size (y.alloc (.cells #[.int .i64 (slot : Int), .int .i64 x, .int .i64 old] 38)) z → z.heap[y.heap.size]? = some (.cells #[.int .i64 (slot : Int), .int .i64 x, .int .i64 old] 38 (0, 0))) := hide fun z hz => (hz.block _ (by simp)).trans (Go.heap_alloc_new y _)
    have HNEW := hide fun z W3 v hz hrow hk hs ho ht hu hv hn => GR.new (z := z) (W3 := W3) (v := v) (c2 := old) HY.out HIN.out (by simp) HGR.out hz hrow hk hs ho ht hu hv hn
    have hw0 := (Array.getElem?_eq_some_iff.1 HY.out.box).1
    have hw1 := HY.out.gl rp (.inl rfl)
    have ne1 : ¬ w.heap.size = rp := by omega
    have ne2 : ¬ rp = w.heap.size := by omega
    have ne3 : ¬ y.heap.size = rp := by omega
    have ne4 : ¬ y.heap.size = w.heap.size := by omega
    have ne5 : ¬ w.heap.size = y.heap.size := by omega
    have ne6 : ¬ rp = y.heap.size := by omega
    have hsl := HSS.out
    have hNXl : (first + written) % 4294967296 < 4294967296 := by omega
    have hAGl : min written 65535 ≤ 65535 := by omega
    have hSTl : written * 4 % S.slots < S.slots := Nat.mod_lt _ (by omega)
    have hq3 : ((((first + written) % 4294967296 : Nat) : Int) + 1) % 4294967296 = (((first + (written + 1)) % 4294967296 : Nat) : Int) := by omega
    have hq5 : (((written * 4 % S.slots : Nat) : Int) + 4) % (S.slots : Int) = (((written + 1) * 4 % S.slots : Nat) : Int) := by
      have : ((written + 1) * 4 % S.slots : Nat) = (written * 4 % S.slots + 4) % S.slots := by rw [Nat.add_mul, Nat.mod_add_mod]
      rw [this]; simp
    have hq4 : written < 65535 → min (written + 1) 65535 = min written 65535 + 1 := by omega
    have hq4' : ¬ written < 65535 → min (written + 1) 65535 = min written 65535 := by omega
    have hq4l : (min written 65535 < 65535) = (written < 65535) := by apply propext; omega
    generalize (first + written) % 4294967296 = NX at HREC HCY hNXl hq3
    generalize min written 65535 = AG at HREC HCY hAGl hq4 hq4' hq4l
    generalize written * 4 % S.slots = ST at HREC HCY hSTl hq5
    have HQ := hide (And.intro hq3 (And.intro hq4 (And.intro hq4' hq5)))
    clear hq3 hq4 hq4' hq5
    go_wp2_with (first
      | (go_at_call 105; refine HSL.out.mono ?_; rintro e z1 ⟨sv, rfl, hv⟩; have HV := hide hv; obtain ⟨asv, csv, esv, hcs1, hcs2⟩ := hv.form; rw [HLN.out, HSS.out] at esv hcs1; subst esv; have HB1 := hide hv.be; clear hv HSL))
    unfold maxLen at hcs2
    have HZ1 := hide (HBY.out.trans (HB1.out.mono HBY.out.size))
    obtain ⟨hlg, hbx⟩ := HCY.out _ HZ1.out
    have hb2 := HCB.out _ HB1.out
    have k2 : z1.cell? ⟨rp, 2, none⟩ = some (.int .i64 (size : Int)) := hlg.c 2
    have k3 : z1.cell? ⟨rp, 3, none⟩ = some (.int .u32 (NX : Int)) := hlg.c 3
    have k4 : z1.cell? ⟨rp, 4, none⟩ = some (.int .i64 (AG : Int)) := hlg.c 4
    have k5 : z1.cell? ⟨rp, 5, none⟩ = some (.int .i64 (ST : Int)) := hlg.c 5
    have m0 : z1.cell? ⟨y.heap.size, 0, none⟩ = some (.int .i64 (slot : Int)) := cell_of_row _ _ _ _ _ _ hb2
    have m1 : z1.cell? ⟨y.heap.size, 1, none⟩ = some (.int .i64 x) := cell_of_row _ _ _ _ _ _ hb2
    have m2 : z1.cell? ⟨y.heap.size, 2, none⟩ = some (.int .i64 old) := cell_of_row _ _ _ _ _ _ hb2
    have HD1 : Hid (Below z1.heap.size z1 z1.drew) := hide (Below.refl _ _).drew
    clear hlg hbx hb2
    refine wp_still_tail 18 (by kernel_rfl) (by kernel_rfl) ?_
    simp only [List.take_succ_cons, List.take_zero, List.drop_succ_cons, List.drop_zero]
    repeat still_step
    refine wpStill_nil ?_
    clear k2 k3 k4 k5 m0 m1 m2
    by_cases hag : written < 65535
    · have hag0 : AG < 65535 := by rw [hq4l]; exact hag
      have hag1 : ((AG : Int) < 65535) = True := by simp; omega
      have HAG := hide (HQ.out.2.1 hag)
      clear hag hq4l hag0
      go_wp2_with (first
        | (go_at_call 106; refine (HREC.out _ _ _ HV.out HD1.out).mono ?_; rintro e z2 ⟨v, rfl, hg⟩; have HGV := hide hg; have HB2 := hide (HD1.out.trans (hg.be.mono HD1.out.size)); have HZ2 := hide (HZ1.out.trans (HB2.out.mono HZ1.out.size)); have HY2 := hide (HB1.out.trans (HB2.out.mono HB1.out.size)); have p3 : z2.cell? ⟨rp, 3, none⟩ = some (.int .u32 (NX : Int)) := (HCY.out _ HZ2.out).1.c 3; have p4 : z2.cell? ⟨rp, 4, none⟩ = some (.int .i64 (AG : Int)) := (HCY.out _ HZ2.out).1.c 4; have p5 : z2.cell? ⟨rp, 5, none⟩ = some (.int .i64 (ST : Int)) := (HCY.out _ HZ2.out).1.c 5; have g3 : z2.frozen? ⟨rp, 3, none⟩ = false := (HCY.out _ HZ2.out).1.f 3; have g4 : z2.frozen? ⟨rp, 4, none⟩ = false := (HCY.out _ HZ2.out).1.f 4; have g5 : z2.frozen? ⟨rp, 5, none⟩ = false := (HCY.out _ HZ2.out).1.f 5; have n0 : z2.cell? ⟨y.heap.size, 0, none⟩ = some (.int .i64 (slot : Int)) := cell_of_row _ _ _ _ _ _ (HCB.out _ HY2.out); have n1 : z2.cell? ⟨y.heap.size, 1, none⟩ = some (.int .i64 x) := cell_of_row _ _ _ _ _ _ (HCB.out _ HY2.out); have n2 : z2.cell? ⟨y.heap.size, 2, none⟩ = some (.int .i64 old) := cell_of_row _ _ _ _ _ _ (HCB.out _ HY2.out); have e0 : z2.cell? ⟨w.heap.size, 0, none⟩ = some (.int .i64 0) := cell_of_row _ _ _ _ _ _ (HCY.out _ HZ2.out).2; have e1 : z2.cell? ⟨w.heap.size, 1, none⟩ = some (.int .i64 0) := cell_of_row _ _ _ _ _ _ (HCY.out _ HZ2.out).2; have e2 : z2.cell? ⟨w.heap.size, 2, none⟩ = some (.int .i64 0) := cell_of_row _ _ _ _ _ _ (HCY.out _ HZ2.out).2; have f0 : z2.frozen? ⟨w.heap.size, 0, none⟩ = false := frozen_of_row _ _ _ _ 38 (HCY.out _ HZ2.out).2; have f1 : z2.frozen? ⟨w.heap.size, 1, none⟩ = false := frozen_of_row _ _ _ _ 38 (HCY.out _ HZ2.out).2; have f2 : z2.frozen? ⟨w.heap.size, 2, none⟩ = false := frozen_of_row _ _ _ _ 38 (HCY.out _ HZ2.out).2; clear hg HREC))
      have HK : Hid (∀ b, b ≠ rp → (((z2.setCell ⟨rp, 3, none⟩ (.int .u32 (((NX : Int) + 1) % 4294967296))).setCell ⟨rp, 4, none⟩ (.int .i64 ((AG : Int) + 1))).setCell ⟨rp, 5, none⟩ (.int .i64 (((ST : Int) + 4) % (S.slots : Int)))).heap[b]? = z2.heap[b]?) := hide (fun b hb => by rw [Go.heap_setCell_other _ _ _ _ hb, Go.heap_setCell_other _ _ _ _ hb, Go.heap_setCell_other _ _ _ _ hb])
      exact bodyPost_ret (results_row_tmp2 (p := 4) (u := 5) (v := 6) rfl _ _ w.heap.size 38 _ (0, 0) _ rfl (set3 ((HK.out _ ne1).trans (HCY.out _ HZ2.out).2) _ _ _) Try.underlying38 rfl chgSize) rfl (HNEW.out z2 _ v HZ2.out (by rw [← HQ.out.1, ← HQ.out.2.2.2, HAG.out]; first | exact row3 (HCY.out _ HZ2.out).1.row _ _ _ | (have := row3 (HCY.out _ HZ2.out).1.row (.int .u32 (((NX : Int) + 1) % 4294967296)) (.int .i64 ((AG : Int) + 1)) (.int .i64 (((ST : Int) + 4) % (S.slots : Int))); simpa using this)) HK.out (by simp only [World.size_setCell]) rfl rfl rfl (HGV.out.sl (by rw [recOf_len hsz.1]; unfold maxLen; omega)) (fun g e => Nat.le_trans HZ1.out.size (HGV.out.nw g e)))
    · have hag0 : ¬ AG < 65535 := by rw [hq4l]; exact hag
      have hag1 : ((AG : Int) < 65535) = False := by simp; omega
      have HAG := hide (HQ.out.2.2.1 hag)
      clear hag hq4l hag0
      go_wp2_with (first
        | (go_at_call 106; refine (HREC.out _ _ _ HV.out HD1.out).mono ?_; rintro e z2 ⟨v, rfl, hg⟩; have HGV := hide hg; have HB2 := hide (HD1.out.trans (hg.be.mono HD1.out.size)); have HZ2 := hide (HZ1.out.trans (HB2.out.mono HZ1.out.size)); have HY2 := hide (HB1.out.trans (HB2.out.mono HB1.out.size)); have p3 : z2.cell? ⟨rp, 3, none⟩ = some (.int .u32 (NX : Int)) := (HCY.out _ HZ2.out).1.c 3; have p4 : z2.cell? ⟨rp, 4, none⟩ = some (.int .i64 (AG : Int)) := (HCY.out _ HZ2.out).1.c 4; have p5 : z2.cell? ⟨rp, 5, none⟩ = some (.int .i64 (ST : Int)) := (HCY.out _ HZ2.out).1.c 5; have g3 : z2.frozen? ⟨rp, 3, none⟩ = false := (HCY.out _ HZ2.out).1.f 3; have g4 : z2.frozen? ⟨rp, 4, none⟩ = false := (HCY.out _ HZ2.out).1.f 4; have g5 : z2.frozen? ⟨rp, 5, none⟩ = false := (HCY.out _ HZ2.out).1.f 5; have n0 : z2.cell? ⟨y.heap.size, 0, none⟩ = some (.int .i64 (slot : Int)) := cell_of_row _ _ _ _ _ _ (HCB.out _ HY2.out); have n1 : z2.cell? ⟨y.heap.size, 1, none⟩ = some (.int .i64 x) := cell_of_row _ _ _ _ _ _ (HCB.out _ HY2.out); have n2 : z2.cell? ⟨y.heap.size, 2, none⟩ = some (.int .i64 old) := cell_of_row _ _ _ _ _ _ (HCB.out _ HY2.out); have e0 : z2.cell? ⟨w.heap.size, 0, none⟩ = some (.int .i64 0) := cell_of_row _ _ _ _ _ _ (HCY.out _ HZ2.out).2; have e1 : z2.cell? ⟨w.heap.size, 1, none⟩ = some (.int .i64 0) := cell_of_row _ _ _ _ _ _ (HCY.out _ HZ2.out).2; have e2 : z2.cell? ⟨w.heap.size, 2, none⟩ = some (.int .i64 0) := cell_of_row _ _ _ _ _ _ (HCY.out _ HZ2.out).2; have f0 : z2.frozen? ⟨w.heap.size, 0, none⟩ = false := frozen_of_row _ _ _ _ 38 (HCY.out _ HZ2.out).2; have f1 : z2.frozen? ⟨w.heap.size, 1, none⟩ = false := frozen_of_row _ _ _ _ 38 (HCY.out _ HZ2.out).2; have f2 : z2.frozen? ⟨w.heap.size, 2, none⟩ = false := frozen_of_row _ _ _ _ 38 (HCY.out _ HZ2.out).2; clear hg HREC))
      have HK : Hid (∀ b, b ≠ rp → ((z2.setCell ⟨rp, 3, none⟩ (.int .u32 (((NX : Int) + 1) % 4294967296))).setCell ⟨rp, 5, none⟩ (.int .i64 (((ST : Int) + 4) % (S.slots : Int)))).heap[b]? = z2.heap[b]?) := hide (fun b hb => by rw [Go.heap_setCell_other _ _ _ _ hb, Go.heap_setCell_other _ _ _ _ hb])
      exact bodyPost_ret (results_row_tmp2 (p := 4) (u := 5) (v := 6) rfl _ _ w.heap.size 38 _ (0, 0) _ rfl (set3 ((HK.out _ ne1).trans (HCY.out _ HZ2.out).2) _ _ _) Try.underlying38 rfl chgSize) rfl (HNEW.out z2 _ v HZ2.out (by rw [← HQ.out.1, ← HQ.out.2.2.2, HAG.out]; exact row2 (HCY.out _ HZ2.out).1.row _ _) HK.out (by simp only [World.size_setCell]) rfl rfl rfl (HGV.out.sl (by rw [recOf_len hsz.1]; unfold maxLen; omega)) (fun g e => Nat.le_trans HZ1.out.size (HGV.out.nw g e)))
end Go.Proofs.Ytafjldmfghokaab
