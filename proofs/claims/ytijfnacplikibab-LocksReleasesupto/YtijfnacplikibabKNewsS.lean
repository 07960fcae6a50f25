import Derived.Test.YtijfnacplikibabKCall
import Derived.Test.YtijfnacplikibabKNew
import Derived.Test.YtijfnacplikibabKRef0
import Derived.Test.YtijfnacplikibabKKeep
namespace Go.Proofs.Ytijfnacplikibab
open Go.RowKit
set_option linter.unusedVariables false
set_option linter.unusedSimpArgs false
set_option maxRecDepth 20000

def nilV : Nat → Value := fun _ => .slice none 0 0
def nilL : Nat → List (Int × Int) := fun _ => []
/-- a pair of new tables and their book -/
structure NS (w x : World) (pp p b rb k n : Nat) (ws : Int) (bv : Value) (nl : Nat) (ys : List Value) : Prop where
  pr : x.heap[pp]? = some (.cells #[.pointer (some ⟨p, 0, none⟩), .pointer (some ⟨rb, 0, none⟩), .pointer (some ⟨k, 0, none⟩)] 40 (0, 0))
  t : TRep x p b 0 n nilV nilL ws 0
  r : x.heap[rb]? = some (.cells (rRow n ws) 73 (0, 0))
  bk : Bk x k false bv (.slice none 0 0) (.slice none 0 0) nl ys
  bel : Below w.heap.size w x
  lo : w.heap.size ≤ p ∧ w.heap.size ≤ k ∧ ∀ g, bv.ownBlock = some g → w.heap.size ≤ g
  nb : nl ≤ 100
section
variable {w x y : World} {pp p b rb k n : Nat} {ws : Int} {bv : Value} {nl : Nat} {ys : List Value}
theorem NS.below (h : NS w x pp p b rb k n ws bv nl ys) (hb : Below x.heap.size x y) : NS w y pp p b rb k n ws bv nl ys :=
  ⟨(hb.block _ (Array.getElem?_eq_some_iff.1 h.pr).1).trans h.pr, h.t.below hb, (hb.block _ (Array.getElem?_eq_some_iff.1 h.r).1).trans h.r, h.bk.below hb, h.bel.trans (hb.mono h.bel.size), h.lo, h.nb⟩
/-- the table was asked -/
theorem NS.asked (h : NS w x pp p b rb k n ws bv nl ys) (ht : TRep y p b 0 n nilV nilL ws 0) (hc : Chg (· = p) x y) : NS w y pp p b rb k n ws bv nl ys := by
  have k1 := hc.keep pp (Array.getElem?_eq_some_iff.1 h.pr).1 (neType h.pr h.t.row (by decide))
  have k2 := hc.keep rb (Array.getElem?_eq_some_iff.1 h.r).1 (neType h.r h.t.row (by decide))
  have k3 := hc.keep k h.bk.lt (neType h.bk.row h.t.row (by decide))
  refine ⟨k1.trans h.pr, ht, k2.trans h.r, h.bk.kept k3 fun g e => hc.keep g (h.bk.bo.lt g e).2 ?_, ?_, h.lo, h.nb⟩
  · obtain ⟨cs, hcs⟩ := rowCells h.bk.bo e
    exact neType hcs h.t.row (by decide)
  · have hs := h.bel.size
    exact h.bel.trans (hc.below hs fun g e => by rw [e]; exact h.lo.1)
/-- a list was kept -/
theorem NS.keep (h : NS w x pp p b rb k n ws bv nl ys) {v : Value} {l : List Int} {m : Nat} {bv' gv : Value} (hv : IRow x v l) (hlo : ∀ g, v.ownBlock = some g → w.heap.size ≤ g) (hk : Kp x y k nl m bv v (.slice none 0 0) (.slice none 0 0) ys bv' gv) (hb : nl + 2 ≤ 100) : NS w y pp p b rb k n ws bv' (nl + 2) (ys ++ [v, gv]) := by
  obtain ⟨A, hA, hA2, hA3⟩ := h.t.arr
  have key : ∀ (g : Nat) (cs : Array Value) (t : TypeId), x.heap[g]? = some (.cells cs t (0, 0)) → t ≠ 31 → t ≠ 50 → t ≠ 3 → y.heap[g]? = x.heap[g]? := fun g cs t hg h1 h2 h3 => hk.chg.keep g (Array.getElem?_eq_some_iff.1 hg).1 (by
    rintro (rfl | e | e)
    · exact neType hg h.bk.row h1 rfl
    · obtain ⟨ds, hds⟩ := rowCells h.bk.bo e
      exact neType hg hds h2 rfl
    · obtain ⟨ds, hds⟩ := rowCells hv e
      exact neType hg hds h3 rfl)
  refine ⟨(key _ _ _ h.pr (by decide) (by decide) (by decide)).trans h.pr, h.t.kept fun g hg => ?_, (key _ _ _ h.r (by decide) (by decide) (by decide)).trans h.r, hk.bk, ?_, ⟨h.lo.1, h.lo.2.1, fun g e => ?_⟩, hb⟩
  · rcases hg with rfl | rfl | ⟨j, hj, e⟩
    · exact key _ _ _ h.t.row (by decide) (by decide) (by decide)
    · exact key _ _ _ hA (by decide) (by decide) (by decide)
    · simp [nilV, Value.ownBlock] at e
  · have hs := h.bel.size
    exact h.bel.trans (hk.chg.below hs fun g e => by
      rcases e with rfl | e | e
      · exact h.lo.2.1
      · exact h.lo.2.2 g e
      · exact hlo g e)
  · rcases hk.bloc g e with e | e
    · exact h.lo.2.2 g e
    · exact Nat.le_trans h.bel.size e
theorem NS.cells (h : NS w x pp p b rb k n ws bv nl ys) : x.cell? ⟨pp, 0, none⟩ = some (.pointer (some ⟨p, 0, none⟩)) ∧ x.cell? ⟨pp, 1, none⟩ = some (.pointer (some ⟨rb, 0, none⟩)) ∧ x.cell? ⟨pp, 2, none⟩ = some (.pointer (some ⟨k, 0, none⟩)) :=
  ⟨by rw [cell_of_row _ _ _ _ _ _ h.pr]; rfl, by rw [cell_of_row _ _ _ _ _ _ h.pr]; rfl, by rw [cell_of_row _ _ _ _ _ _ h.pr]; rfl⟩
end
def opV (kd e : Int) : Value := .agg #[.int .i64 kd, .bool false, .int .i64 e, .int .i64 0, .int .i64 0]
/-- what a step leaves -/
def SP (w : World) (pp p b rb k n : Nat) (ws : Int) (nl : Nat) (e : Ending) (y : World) : Prop := e = .returned (.bool true) ∧ ∃ bv' ys', NS w y pp p b rb k n ws bv' (nl + 2) ys'
/-- what Holders and Waiters of a new table say, in range or not -/
theorem holders_new (x : World) (p b n : Nat) (ws : Int) (h : TRep x p b 0 n nilV nilL ws 0) (e : Int) : Calls Try.prog 25 #[.pointer (some ⟨p, 0, none⟩), .int .i64 e] x fun e' y => ∃ v, e' = .returned (.tuple #[v, .int .i64 0, .int .i64 (if 0 ≤ e ∧ e < (n : Int) then 0 else 2)]) ∧ TRep y p b 0 n nilV nilL ws 0 ∧ Chg (· = p) x y ∧ IRow y v [] ∧ ∀ g, v.ownBlock = some g → x.heap.size ≤ g := by
  by_cases he : 0 ≤ e ∧ e < (n : Int)
  · obtain ⟨j, rfl⟩ : ∃ j : Nat, e = (j : Int) := ⟨e.toNat, by omega⟩
    rw [if_pos he]
    exact Holders_any x p b n nilV nilL ws 0 j h (by omega) (by simp [nilL])
  · rw [if_neg he]
    refine (Holders_no x p b n nilV nilL ws 0 e h he).mono ?_
    rintro e' y ⟨rfl, h1, h2⟩
    exact ⟨_, rfl, h1, h2, IRow.nil _, fun g e => by simp [Value.ownBlock] at e⟩
theorem waiters_new (x : World) (p b n : Nat) (ws : Int) (h : TRep x p b 0 n nilV nilL ws 0) (e : Int) : Calls Try.prog 27 #[.pointer (some ⟨p, 0, none⟩), .int .i64 e] x fun e' y => ∃ v, e' = .returned (.tuple #[v, .int .i64 (if 0 ≤ e ∧ e < (n : Int) then 0 else 2)]) ∧ TRep y p b 0 n nilV nilL ws 0 ∧ Chg (· = p) x y ∧ IRow y v [] ∧ ∀ g, v.ownBlock = some g → x.heap.size ≤ g := by
  by_cases he : 0 ≤ e ∧ e < (n : Int)
  · obtain ⟨j, rfl⟩ : ∃ j : Nat, e = (j : Int) := ⟨e.toNat, by omega⟩
    rw [if_pos he]
    exact Waiters_any x p b n nilV nilL ws 0 j h (by omega) (by simp [nilL])
  · rw [if_neg he]
    refine (Waiters_no x p b n nilV nilL ws 0 e h he).mono ?_
    rintro e' y ⟨rfl, h1, h2⟩
    exact ⟨_, rfl, h1, h2, IRow.nil _, fun g e => by simp [Value.ownBlock] at e⟩
theorem NS.drew {w x : World} {pp p b rb k n : Nat} {ws : Int} {bv : Value} {nl : Nat} {ys : List Value} (h : NS w x pp p b rb k n ws bv nl ys) : NS w x.drew pp p b rb k n ws bv nl ys := h.below ⟨rfl, rfl, rfl, Nat.le_refl _, fun _ _ => rfl⟩
/-- the operation's box stays -/
theorem NS.op {w x x1 y : World} {pp p b rb k n : Nat} {ws : Int} {bv : Value} {nl : Nat} {ys : List Value} (h : NS w x pp p b rb k n ws bv nl ys) {g : Nat} {cs : Array Value} (hg : x.heap[g]? = some (.cells cs 36 (0, 0))) (hc : Chg (· = p) x y) : y.heap[g]? = some (.cells cs 36 (0, 0)) :=
  (hc.keep g (Array.getElem?_eq_some_iff.1 hg).1 (neType hg h.t.row (by decide))).trans hg
set_option maxHeartbeats 1000000 in
theorem step_holders (w x : World) (pp p b rb k n : Nat) (ws : Int) (bv : Value) (nl : Nat) (ys : List Value) (e : Int) (h : NS w x pp p b rb k n ws bv nl ys) (hnl : nl + 2 ≤ 100) : Calls Try.prog 10 #[.pointer (some ⟨pp, 0, none⟩), opV 5 e] x fun e' y => SP w pp p b rb k n ws nl e' y := by
  unfold opV
  have HN := hide (h.below ((Below.refl x.heap.size x).alloc (Nat.le_refl _) (.cells #[.int .i64 5, .bool false, .int .i64 e, .int .i64 0, .int .i64 0] 36)))
  have HT := hide fun z (hz : NS w z pp p b rb k n ws bv nl ys) => holders_new z p b n ws hz.t e
  have HR := hide fun z (hz : NS w z pp p b rb k n ws bv nl ys) => rHolders_new z rb n ws e hz.r
  generalize (if 0 ≤ e ∧ e < (n : Int) then (0 : Int) else 2) = er at *
  have HK := hide fun z (hz : NS w z pp p b rb k n ws bv nl ys) (v : Value) (hv : IRow z v []) => keep_any hz.bk hv (by simp) (by omega)
  have HS := hide fun z (a v : Value) (ha : IRow z a []) (hv : IRow z v []) => same_any z a v [] [] ha hv
  obtain ⟨c0, c1, c2⟩ := HN.out.cells
  clear h
  go_enter Try.func10, Try.ntmps10
  go_wp2_with fail
  have HND := hide HN.out.drew
  have HO : Hid ((x.alloc (.cells #[.int .i64 5, .bool false, .int .i64 e, .int .i64 0, .int .i64 0] 36)).drew.heap[x.heap.size]? = some (.cells #[.int .i64 5, .bool false, .int .i64 e, .int .i64 0, .int .i64 0] 36 (0, 0))) := hide (Go.heap_alloc_new x _)
  have o2 : (x.alloc (.cells #[.int .i64 5, .bool false, .int .i64 e, .int .i64 0, .int .i64 0] 36)).cell? ⟨x.heap.size, 2, none⟩ = some (.int .i64 e) := by simp [go_sem]
  go_region_held3 (fun z => z.cell? ⟨pp, 0, none⟩ = some (.pointer (some ⟨p, 0, none⟩)) ∧ z.cell? ⟨x.heap.size, 2, none⟩ = some (.int .i64 e)) (first | exact ⟨c0, o2⟩ | exact ⟨d0, p2⟩ | assumption)
    ((go_at_call 25; refine (HT.out _ HND.out).mono ?_; rintro e' w2 ⟨v, rfl, ht, hc, hv, hl⟩; obtain ⟨av, cv, rfl, -, -⟩ := rowForm hv; have HV := hide hv; have HN2 := hide (HND.out.asked ht hc); have HVL : Hid (∀ g, (Value.slice av 0 cv).ownBlock = some g → w.heap.size ≤ g) := hide fun g hg => Nat.le_trans HND.out.bel.size (hl g hg); have HO2 := hide (HND.out.op (x1 := x) HO.out hc); obtain ⟨d0, d1, d2⟩ := HN2.out.cells; have p2 : w2.cell? ⟨x.heap.size, 2, none⟩ = some (.int .i64 e) := by { rw [cell_of_row _ _ _ _ _ _ HO2.out]; rfl }; clear ht hc hv hl HT))
  go_wp2_with fail
  have HN3 := hide HN2.out.drew
  go_region_held3 (fun z => z.cell? ⟨pp, 1, none⟩ = some (.pointer (some ⟨rb, 0, none⟩)) ∧ z.cell? ⟨x.heap.size, 2, none⟩ = some (.int .i64 e)) (first | exact ⟨d1, p2⟩ | assumption)
    ((go_at_call 26; refine (HR.out _ HN3.out).mono ?_; rintro e' w3 ⟨rfl, rfl⟩; clear HR))
  have HV3 : Hid (IRow w2.drew (.slice av 0 cv) []) := hide (HV.out.kept fun _ _ => rfl)
  have HZ3 : Hid (IRow w2.drew (.slice none 0 0) []) := hide (IRow.nil _)
  generalize w2.drew = w3 at *
  obtain ⟨e0, e1, e2⟩ := HN3.out.cells
  have HE : Hid (decide (([] : List Int) = []) = true) := hide (by simp)
  go_wp2_with (first
    | (go_at_call 19; refine (HS.out _ _ _ HV3.out HZ3.out).mono ?_; rintro e' w4 ⟨rfl, hb4⟩; rw [HE.out]; have HN4 := hide (HN3.out.below hb4); have HV4 : Hid (IRow w4 (.slice av 0 cv) []) := hide (HV3.out.kept fun g hg => hb4.block g (HV3.out.lt hg)); obtain ⟨f0, f1, f2⟩ := HN4.out.cells; clear hb4)
    | (go_at_call 20; refine (HK.out _ HN4.out _ HV4.out).mono ?_; rintro e' w5 ⟨rfl, bv', gv, hkp⟩; have HN5 := hide (HN4.out.keep HV4.out HVL.out hkp hnl); clear hkp))
  go_ret
  exact ⟨rfl, _, _, HN5.out⟩
set_option maxHeartbeats 1000000 in
theorem step_waiters (w x : World) (pp p b rb k n : Nat) (ws : Int) (bv : Value) (nl : Nat) (ys : List Value) (e : Int) (h : NS w x pp p b rb k n ws bv nl ys) (hnl : nl + 2 ≤ 100) : Calls Try.prog 10 #[.pointer (some ⟨pp, 0, none⟩), opV 6 e] x fun e' y => SP w pp p b rb k n ws nl e' y := by
  unfold opV
  have HN := hide (h.below ((Below.refl x.heap.size x).alloc (Nat.le_refl _) (.cells #[.int .i64 6, .bool false, .int .i64 e, .int .i64 0, .int .i64 0] 36)))
  have HT := hide fun z (hz : NS w z pp p b rb k n ws bv nl ys) => waiters_new z p b n ws hz.t e
  have HR := hide fun z (hz : NS w z pp p b rb k n ws bv nl ys) => rWaiters_new z rb n ws e hz.r
  generalize (if 0 ≤ e ∧ e < (n : Int) then (0 : Int) else 2) = er at *
  have HK := hide fun z (hz : NS w z pp p b rb k n ws bv nl ys) (v : Value) (hv : IRow z v []) => keep_any hz.bk hv (by simp) (by omega)
  have HS := hide fun z (a v : Value) (ha : IRow z a []) (hv : IRow z v []) => same_any z a v [] [] ha hv
  obtain ⟨c0, c1, c2⟩ := HN.out.cells
  clear h
  go_enter Try.func10, Try.ntmps10
  go_wp2_with fail
  have HND := hide HN.out.drew
  have HO : Hid ((x.alloc (.cells #[.int .i64 6, .bool false, .int .i64 e, .int .i64 0, .int .i64 0] 36)).drew.heap[x.heap.size]? = some (.cells #[.int .i64 6, .bool false, .int .i64 e, .int .i64 0, .int .i64 0] 36 (0, 0))) := hide (Go.heap_alloc_new x _)
  have o2 : (x.alloc (.cells #[.int .i64 6, .bool false, .int .i64 e, .int .i64 0, .int .i64 0] 36)).cell? ⟨x.heap.size, 2, none⟩ = some (.int .i64 e) := by simp [go_sem]
  go_region_held3 (fun z => z.cell? ⟨pp, 0, none⟩ = some (.pointer (some ⟨p, 0, none⟩)) ∧ z.cell? ⟨x.heap.size, 2, none⟩ = some (.int .i64 e)) (first | exact ⟨c0, o2⟩ | exact ⟨d0, p2⟩ | assumption)
    ((go_at_call 27; refine (HT.out _ HND.out).mono ?_; rintro e' w2 ⟨v, rfl, ht, hc, hv, hl⟩; obtain ⟨av, cv, rfl, -, -⟩ := rowForm hv; have HV := hide hv; have HN2 := hide (HND.out.asked ht hc); have HVL : Hid (∀ g, (Value.slice av 0 cv).ownBlock = some g → w.heap.size ≤ g) := hide fun g hg => Nat.le_trans HND.out.bel.size (hl g hg); have HO2 := hide (HND.out.op (x1 := x) HO.out hc); obtain ⟨d0, d1, d2⟩ := HN2.out.cells; have p2 : w2.cell? ⟨x.heap.size, 2, none⟩ = some (.int .i64 e) := by { rw [cell_of_row _ _ _ _ _ _ HO2.out]; rfl }; clear ht hc hv hl HT))
  go_wp2_with fail
  have HN3 := hide HN2.out.drew
  go_region_held3 (fun z => z.cell? ⟨pp, 1, none⟩ = some (.pointer (some ⟨rb, 0, none⟩)) ∧ z.cell? ⟨x.heap.size, 2, none⟩ = some (.int .i64 e)) (first | exact ⟨d1, p2⟩ | assumption)
    ((go_at_call 28; refine (HR.out _ HN3.out).mono ?_; rintro e' w3 ⟨rfl, rfl⟩; clear HR))
  have HV3 : Hid (IRow w2.drew (.slice av 0 cv) []) := hide (HV.out.kept fun _ _ => rfl)
  have HZ3 : Hid (IRow w2.drew (.slice none 0 0) []) := hide (IRow.nil _)
  generalize w2.drew = w3 at *
  obtain ⟨e0, e1, e2⟩ := HN3.out.cells
  have HE : Hid (decide (([] : List Int) = []) = true) := hide (by simp)
  go_wp2_with (first
    | (go_at_call 19; refine (HS.out _ _ _ HV3.out HZ3.out).mono ?_; rintro e' w4 ⟨rfl, hb4⟩; rw [HE.out]; have HN4 := hide (HN3.out.below hb4); have HV4 : Hid (IRow w4 (.slice av 0 cv) []) := hide (HV3.out.kept fun g hg => hb4.block g (HV3.out.lt hg)); obtain ⟨f0, f1, f2⟩ := HN4.out.cells; clear hb4)
    | (go_at_call 20; refine (HK.out _ HN4.out _ HV4.out).mono ?_; rintro e' w5 ⟨rfl, bv', gv, hkp⟩; have HN5 := hide (HN4.out.keep HV4.out HVL.out hkp hnl); clear hkp))
  go_ret
  exact ⟨rfl, _, _, HN5.out⟩
end Go.Proofs.Ytijfnacplikibab
