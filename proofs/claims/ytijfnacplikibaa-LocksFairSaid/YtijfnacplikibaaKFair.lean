import Derived.Test.YtijfnacplikibaaKCome
import Derived.Test.YtijfnacplikibaaKApM
import Derived.Deep.RegionHeld3
namespace Go.Proofs.Ytijfnacplikibaa
open Go.RowKit
set_option linter.unusedVariables false
set_option linter.unusedSimpArgs false
set_option maxRecDepth 20000

/-- a table and the ledger of one extent -/
structure FS (w x : World) (p b n q ex : Nat) (V : Nat → Value) (wv mv hv : Value) (L : LL) (wt : Int) (B : Nat) : Prop where
  a : AS w x p b n V L 512 wt B
  l : LG w.heap.size x q wv mv hv ((L (ex * 2 + 1)).map Prod.fst) ((L (ex * 2 + 1)).map Prod.snd) ((L (ex * 2)).map Prod.fst)
def FairP (w : World) (p b n q ex i : Nat) (e : Ending) (y : World) : Prop := e = .returned (.bool true) ∧ ∃ V wv mv hv L wt, FS w y p b n q ex V wv mv hv L wt (i + 1) ∧ Few (i + 1) L wt
theorem contains_has (l : List (Int × Int)) (o : Int) : (l.map Prod.fst).contains o = has l o := by
  cases h : has l o with
  | true => rw [List.contains_iff_mem]; exact has_mem.1 h
  | false =>
    rw [← Bool.not_eq_true, List.contains_iff_mem]
    exact has_not.1 h
section
variable {w x y : World} {p b n q ex : Nat} {V V' : Nat → Value} {wv mv hv : Value} {L : LL} {wt : Int} {B : Nat}
theorem FS.below (h : FS w x p b n q ex V wv mv hv L wt B) (hb : Below x.heap.size x y) : FS w y p b n q ex V wv mv hv L wt B := ⟨h.a.below hb, h.l.below hb⟩
theorem FS.mono (h : FS w x p b n q ex V wv mv hv L wt B) : FS w x p b n q ex V wv mv hv L wt (B + 1) := ⟨h.a.mono (Nat.le_succ _), h.l⟩
/-- nothing has turned: one call more -/
theorem FS.same (h : FS w x p b n q ex V wv mv hv L wt B) (hf : Few B L wt) : FairP w p b n q ex B (.returned (.bool true)) x := ⟨rfl, _, _, _, _, _, _, h.mono, hf.same⟩
theorem box_keep {g : Nat} {c : Array Value} {t : TypeId} (h : x.heap[g]? = some (.cells c t (0, 0))) (hb : Below x.heap.size x y) : y.heap[g]? = some (.cells c t (0, 0)) := (hb.block g (Array.getElem?_eq_some_iff.1 h).1).trans h
/-- an op's box -/
def OB (x : World) (g : Nat) (kind : Int) (snd : Bool) (e md o : Int) : Prop := x.heap[g]? = some (.cells #[.int .i64 kind, .bool snd, .int .i64 e, .int .i64 md, .int .i64 o] 30 (0, 0))
theorem OB.cells {g : Nat} {kind : Int} {snd : Bool} {e md o : Int} (h : OB x g kind snd e md o) : x.cell? ⟨g, 0, none⟩ = some (.int .i64 kind) ∧ x.cell? ⟨g, 2, none⟩ = some (.int .i64 e) ∧ x.cell? ⟨g, 3, none⟩ = some (.int .i64 md) ∧ x.cell? ⟨g, 4, none⟩ = some (.int .i64 o) :=
  ⟨by rw [cell_of_row _ _ _ _ _ _ h]; rfl, by rw [cell_of_row _ _ _ _ _ _ h]; rfl, by rw [cell_of_row _ _ _ _ _ _ h]; rfl, by rw [cell_of_row _ _ _ _ _ _ h]; rfl⟩
theorem OB.lt {g : Nat} {kind : Int} {snd : Bool} {e md o : Int} (h : OB x g kind snd e md o) : g < x.heap.size := (Array.getElem?_eq_some_iff.1 h).1
theorem OB.below {g : Nat} {kind : Int} {snd : Bool} {e md o : Int} (h : OB x g kind snd e md o) (hb : Below x.heap.size x y) : OB y g kind snd e md o := box_keep h hb
theorem OB.tr {g : Nat} {kind : Int} {snd : Bool} {e md o : Int} (h : OB x g kind snd e md o) {m : Int} {ws : Int} (ht : TRep x p b m n V L ws wt) (htr : Tr (fun _ => False) x y (TU p b n V) (TU p b n V')) : OB y g kind snd e md o := by
  refine (htr.chg.keep g h.lt fun hu => hu.elim (ht.nt h (by decide) (by decide) (by decide)) id).trans h
end
theorem LG.pushW {N : Nat} {y y' z : World} {q : Nat} {wv mv hv wv' : Value} {lw lm lh lw' : List Int} (h : LG N y q wv mv hv lw lm lh) (hN : N ≤ y.heap.size) (hy : Below y.heap.size y y') (ho : ORow z wv' lw') (ha : App y' z wv wv') :
    z.cell? ⟨q, 0, none⟩ = some wv ∧ z.frozen? ⟨q, 0, none⟩ = false ∧ (∃ a m c, wv' = .slice a m c) ∧ Hid (LG N (z.setCell ⟨q, 0, none⟩ wv') q wv' mv hv lw' lm lh ∧ Chg (LU q wv mv hv) y (z.setCell ⟨q, 0, none⟩ wv')) := by
  obtain ⟨p1, p2, p3, p4⟩ := (h.below hy).appW (Nat.le_trans hN hy.size) ho ha
  obtain ⟨a, c, e2, -⟩ := ho.form
  have s1 := hy.size
  exact ⟨p3, p4, ⟨a, _, c, e2⟩, hide ⟨p1, ⟨p2.os.trans hy.os, p2.tape.trans hy.tape, p2.output.trans hy.output, Nat.le_trans s1 p2.size, fun g hg hn => (p2.keep g (by omega) hn).trans (hy.block g hg)⟩⟩⟩
theorem LG.pushM {N : Nat} {y y' z : World} {q : Nat} {wv mv hv mv' : Value} {lw lm lh lm' : List Int} (h : LG N y q wv mv hv lw lm lh) (hN : N ≤ y.heap.size) (hy : Below y.heap.size y y') (ho : ORow z mv' lm') (ha : App y' z mv mv') :
    z.cell? ⟨q, 1, none⟩ = some mv ∧ z.frozen? ⟨q, 1, none⟩ = false ∧ (∃ a m c, mv' = .slice a m c) ∧ Hid (LG N (z.setCell ⟨q, 1, none⟩ mv') q wv mv' hv lw lm' lh ∧ Chg (LU q wv mv hv) y (z.setCell ⟨q, 1, none⟩ mv')) := by
  obtain ⟨p1, p2, p3, p4⟩ := (h.below hy).appM (Nat.le_trans hN hy.size) ho ha
  obtain ⟨a, c, e2, -⟩ := ho.form
  have s1 := hy.size
  exact ⟨p3, p4, ⟨a, _, c, e2⟩, hide ⟨p1, ⟨p2.os.trans hy.os, p2.tape.trans hy.tape, p2.output.trans hy.output, Nat.le_trans s1 p2.size, fun g hg hn => (p2.keep g (by omega) hn).trans (hy.block g hg)⟩⟩⟩
theorem LG.pushH {N : Nat} {y y' z : World} {q : Nat} {wv mv hv hv' : Value} {lw lm lh lh' : List Int} (h : LG N y q wv mv hv lw lm lh) (hN : N ≤ y.heap.size) (hy : Below y.heap.size y y') (ho : ORow z hv' lh') (ha : App y' z hv hv') :
    z.cell? ⟨q, 2, none⟩ = some hv ∧ z.frozen? ⟨q, 2, none⟩ = false ∧ (∃ a m c, hv' = .slice a m c) ∧ Hid (LG N (z.setCell ⟨q, 2, none⟩ hv') q wv mv hv' lw lm lh' ∧ Chg (LU q wv mv hv) y (z.setCell ⟨q, 2, none⟩ hv')) := by
  obtain ⟨p1, p2, p3, p4⟩ := (h.below hy).appH (Nat.le_trans hN hy.size) ho ha
  obtain ⟨a, c, e2, -⟩ := ho.form
  have s1 := hy.size
  exact ⟨p3, p4, ⟨a, _, c, e2⟩, hide ⟨p1, ⟨p2.os.trans hy.os, p2.tape.trans hy.tape, p2.output.trans hy.output, Nat.le_trans s1 p2.size, fun g hg hn => (p2.keep g (by omega) hn).trans (hy.block g hg)⟩⟩⟩
theorem OB.led {x y : World} {g q N : Nat} {kind : Int} {snd : Bool} {e md o : Int} {wv mv hv : Value} {lw lm lh : List Int} (h : OB x g kind snd e md o) (hl : LG N x q wv mv hv lw lm lh) (hc : Chg (LU q wv mv hv) x y) : OB y g kind snd e md o := by
  refine (hc.keep g h.lt fun hu => ?_).trans h
  rcases hl.cells hu with ⟨_, hx⟩ | ⟨cs, hx⟩
  · exact neType h hx (by decide) rfl
  · exact neType h hx (by decide) rfl
end Go.Proofs.Ytijfnacplikibaa
