import Derived.Test.YtacjibfmhhmbcabDoorWEncP
import Derived.Deep.RegionLaw
import Derived.Deep.AppendLies
namespace Go.Proofs.YtacjibfmhhmbcabDoor
open Go.RowKit
set_option linter.unusedVariables false
set_option linter.unusedSimpArgs false
set_option maxRecDepth 20000

theorem step_callTo {P : Program} {ops : Array Oper} {o : Oper} {a : Act} {w : World} {K : Act → World → Prop} {Q : Exit → Act → World → Prop} {E : Prop} (hg : o.guard = none) (f : FuncId) (args : Array Value) (hrun : (execOp a.eval o).run P w = .ok (.enter f args) w)
    {post : Ending → World → Prop} (hc : Calls P f args w post) (hp : ∀ e w', post e w' → ∃ v, e = .returned v) (h : ∀ v w', post (.returned v) w' → K (a.put o.dst v) w') :
    if Region.wanted o (yielded ops a.tmps) = true then Oper.wp P o a w K Q else E := by
  have hw : Region.wanted o (yielded ops a.tmps) = true := by simp [Region.wanted, hg]
  rw [if_pos hw]
  unfold Oper.wp
  rw [hrun, Oper.upon_enter]
  refine hc.mono fun e w'' hh => ?_
  obtain ⟨v, rfl⟩ := hp e w'' hh
  exact h v w'' hh

theorem rdN_le (l : List Nat) (L : List (Nat × Nat)) : ∀ k v at', at' ≤ l.length → at' ≤ (rdN l L k v at').2.1 ∧ (rdN l L k v at').2.1 ≤ l.length
  | 0, v, at', h => ⟨Nat.le_refl _, h⟩
  | k + 1, v, at', h => by
    rw [rdN]
    split
    · exact ⟨Nat.le_refl _, h⟩
    · split
      · have := rdN_le l L k (v * 256 + l.getD at' 0) (at' + 1) (by omega)
        exact ⟨by omega, this.2⟩
      · exact ⟨Nat.le_refl _, h⟩
theorem rdN_lt (l : List Nat) (L : List (Nat × Nat)) (hb : ∀ x ∈ l, x < 256) : ∀ k j v at', v < 256 ^ j → (rdN l L k v at').1 < 256 ^ (j + k)
  | 0, j, v, at', h => h
  | k + 1, j, v, at', h => by
    rw [rdN]
    have hp : 0 < 256 ^ (j + (k + 1)) := Nat.pow_pos (by decide)
    split
    · exact hp
    · rename_i hl
      split
      · have hx : l.getD at' 0 < 256 := hb _ (by simp [List.getD, show at' < l.length by omega])
        have := rdN_lt l L hb k (j + 1) (v * 256 + l.getD at' 0) (at' + 1) (by rw [Nat.pow_succ]; omega)
        rwa [show j + (k + 1) = j + 1 + k by omega]
      · exact hp
theorem rdS_le {l : List Nat} {L : List (Nat × Nat)} {k at' : Nat} {stuck : Bool} (h : at' ≤ l.length) : at' ≤ (rdS l L k at' stuck).2.1 ∧ (rdS l L k at' stuck).2.1 ≤ l.length := by
  unfold rdS
  split
  · exact ⟨Nat.le_refl _, h⟩
  · exact rdN_le l L k 0 at' h
theorem rdS_lt {l : List Nat} {L : List (Nat × Nat)} {k at' : Nat} {stuck : Bool} (hb : ∀ x ∈ l, x < 256) : (rdS l L k at' stuck).1 < 256 ^ k := by
  unfold rdS
  split
  · exact Nat.pow_pos (by decide)
  · have := rdN_lt l L hb k 0 0 at' (by decide)
    rwa [Nat.zero_add] at this

/-- bytes of which nothing is said -/
def tkR (l : List Nat) (at' : Nat) (stuck : Bool) (c : Nat) : List Nat × Nat × Bool := if stuck = true ∨ c = 0 then ([], at', stuck) else if l.length - at' < c then ([], l.length, true) else (sg l at' c, at' + c, false)
/-- a digest, byte by byte -/
def sumF (l : List Nat) (L : List (Nat × Nat)) (s0 : List Nat) (at0 : Nat) (st0 : Bool) : Nat → List Nat × Nat × Bool
  | 0 => (s0, at0, st0)
  | k + 1 => ((sumF l L s0 at0 st0 k).1.set k (rdS l L 1 (sumF l L s0 at0 st0 k).2.1 (sumF l L s0 at0 st0 k).2.2).1, (rdS l L 1 (sumF l L s0 at0 st0 k).2.1 (sumF l L s0 at0 st0 k).2.2).2)
/-- a field read -/
def fieldF (l : List Nat) (p : PV) (at' : Nat) (stuck : Bool) : Fd → PV × Nat × Bool
  | .num n => (p.set (bnd n).1 (rdS l (mayL n p.a p.b) 4 at' stuck).1, (rdS l (mayL n p.a p.b) 4 at' stuck).2)
  | .ids =>
    let r0 := rdS l [(0, 18446744073709551615)] 8 at' stuck
    let r1 := rdS l [(0, 18446744073709551615)] 8 r0.2.1 r0.2.2
    let r2 := rdS l [(0, 18446744073709551615)] 8 r1.2.1 r1.2.2
    let r3 := rdS l [(0, 18446744073709551615)] 8 r2.2.1 r2.2.2
    ({ p with g0 := r0.1, g1 := r1.1, g2 := r2.1, g3 := r3.1 }, r3.2)
  | .sum t => ({ p with s := (sumF l (smayL t p.e) p.s at' stuck 32).1 }, (sumF l (smayL t p.e) p.s at' stuck 32).2)
  | .dat lo hi t =>
    let r := rdS l (dmayL lo hi t p.e) 2 at' stuck
    ({ p with dl := (tkR l r.2.1 r.2.2 r.1).1 }, (tkR l r.2.1 r.2.2 r.1).2)

/-- only the blocks rb, pb and new ones have turned -/
structure Ot2 (rb pb : Nat) (w x : World) : Prop where
  os : x.os = w.os
  tape : x.tape = w.tape
  output : x.output = w.output
  size : w.heap.size ≤ x.heap.size
  block : ∀ j, j < w.heap.size → j ≠ rb → j ≠ pb → x.heap[j]? = w.heap[j]?
theorem Ot2.refl (rb pb : Nat) (w : World) : Ot2 rb pb w w := ⟨rfl, rfl, rfl, Nat.le_refl _, fun _ _ _ _ => rfl⟩
theorem Ot2.below {rb pb : Nat} {w x y : World} (h : Ot2 rb pb w x) (hb : Below x.heap.size x y) : Ot2 rb pb w y := ⟨hb.os.trans h.os, hb.tape.trans h.tape, hb.output.trans h.output, Nat.le_trans h.size hb.size, fun j h1 h2 h3 => (hb.block j (Nat.lt_of_lt_of_le h1 h.size)).trans (h.block j h1 h2 h3)⟩
theorem Ot2.left {rb pb : Nat} {w x y : World} (h : Ot2 rb pb w x) (ho : Oth rb x y) : Ot2 rb pb w y := ⟨ho.os.trans h.os, ho.tape.trans h.tape, ho.output.trans h.output, Nat.le_trans h.size ho.size, fun j h1 h2 h3 => (ho.block j (Nat.lt_of_lt_of_le h1 h.size) h2).trans (h.block j h1 h2 h3)⟩
theorem Ot2.right {rb pb : Nat} {w x y : World} (h : Ot2 rb pb w x) (ho : Oth pb x y) : Ot2 rb pb w y := ⟨ho.os.trans h.os, ho.tape.trans h.tape, ho.output.trans h.output, Nat.le_trans h.size ho.size, fun j h1 h2 h3 => (ho.block j (Nat.lt_of_lt_of_le h1 h.size) h3).trans (h.block j h1 h2 h3)⟩
/-- while a packet is read: B: what lay there before -/
structure DS (w x : World) (B rb pb b off cap : Nat) (l : List Nat) (at' : Nat) (stuck : Bool) (p : PV) (v : Value) : Prop where
  rd : Rd x rb b off cap l at' stuck
  pm : PM x pb p v
  tab : BTab x
  bel : Ot2 rb pb w x
  rp : rb ≠ pb
  hB : B ≤ rb ∧ B ≤ pb ∧ b < B ∧ 0 < B ∧ B ≤ x.heap.size
  vr : v.ownBlock ≠ some rb
  at_ : at' ≤ l.length
  vn : ∀ g, v.ownBlock = some g → B ≤ g ∧ g < x.heap.size
theorem DS.below {w x y : World} {B rb pb b off cap : Nat} {l : List Nat} {at' : Nat} {stuck : Bool} {p : PV} {v : Value} (h : DS w x B rb pb b off cap l at' stuck p v) (hb : Below x.heap.size x y) : DS w y B rb pb b off cap l at' stuck p v :=
  ⟨h.rd.below hb, h.pm.below hb, h.tab.below hb, h.bel.below hb, h.rp, ⟨h.hB.1, h.hB.2.1, h.hB.2.2.1, h.hB.2.2.2.1, Nat.le_trans h.hB.2.2.2.2 hb.size⟩, h.vr, h.at_, fun g hg => ⟨(h.vn g hg).1, Nat.lt_of_lt_of_le (h.vn g hg).2 hb.size⟩⟩
/-- the reader has gone on -/
theorem DS.num {w x y : World} {B rb pb b off cap : Nat} {l : List Nat} {at' at2 : Nat} {stuck st2 : Bool} {p : PV} {v : Value} (h : DS w x B rb pb b off cap l at' stuck p v) (hr : Rd y rb b off cap l at2 st2) (ho : Oth rb x y) (ha : at2 ≤ l.length) : DS w y B rb pb b off cap l at2 st2 p v := by
  obtain ⟨h1, h2, h3, h4, h5⟩ := h.hB
  exact ⟨hr, h.pm.oth ho (fun e => h.rp e.symm) h.vr, h.tab.oth ho (by omega), h.bel.left ho, h.rp, ⟨h1, h2, h3, h4, Nat.le_trans h5 ho.size⟩, h.vr, ha, fun g hg => ⟨(h.vn g hg).1, Nat.lt_of_lt_of_le (h.vn g hg).2 ho.size⟩⟩
/-- the parts have turned -/
theorem DS.put {w x y : World} {B rb pb b off cap : Nat} {l : List Nat} {at' : Nat} {stuck : Bool} {p p2 : PV} {v v2 : Value} (h : DS w x B rb pb b off cap l at' stuck p v) (hp : PM y pb p2 v2) (ho : Oth pb x y) (hv : v2.ownBlock ≠ some rb) (hvn : ∀ g, v2.ownBlock = some g → B ≤ g ∧ g < x.heap.size) : DS w y B rb pb b off cap l at' stuck p2 v2 := by
  obtain ⟨h1, h2, h3, h4, h5⟩ := h.hB
  have hl := (Array.getElem?_eq_some_iff.1 h.rd.row).1
  refine ⟨?_, hp, h.tab.oth ho (by omega), h.bel.right ho, h.rp, ⟨h1, h2, h3, h4, Nat.le_trans h5 ho.size⟩, hv, h.at_, fun g hg => ⟨(hvn g hg).1, Nat.lt_of_lt_of_le (hvn g hg).2 ho.size⟩⟩
  exact h.rd.same (ho.block rb hl h.rp) (ho.block b (by omega) (by omega))
theorem DS.rebase {w x : World} {B rb pb b off cap : Nat} {l : List Nat} {at' : Nat} {stuck : Bool} {p : PV} {v : Value} (h : DS w x B rb pb b off cap l at' stuck p v) : DS x x B rb pb b off cap l at' stuck p v := ⟨h.rd, h.pm, h.tab, Ot2.refl _ _ _, h.rp, h.hB, h.vr, h.at_, h.vn⟩
/-- what R.field does with a field -/
def FieldSpec (f : Fd) : Prop := ∀ (w x : World) (B rb pb b off cap : Nat) (l : List Nat) (at' : Nat) (stuck : Bool) (p : PV) (v : Value), DS w x B rb pb b off cap l at' stuck p v →
  Calls Tryd.prog 24 #[.pointer (some ⟨rb, 0, none⟩), f.val, .pointer (some ⟨pb, 0, none⟩)] x fun e y => e = .returned (.tuple #[]) ∧ ∃ v', DS w y B rb pb b off cap l (fieldF l p at' stuck f).2.1 (fieldF l p at' stuck f).2.2 (fieldF l p at' stuck f).1 v'

theorem spl_block {w : World} {v : Value} {L : List (Nat × Nat)} (h : SpL w v L) (hL : 0 < L.length) : ∃ b off cap, v = .slice (some ⟨b, off, none⟩) L.length cap ∧ b < w.heap.size := by
  obtain ⟨b, off, cap, rfl, h1, h2, h3, h4⟩ := h
  exact ⟨b, off, cap, rfl, World.block_lt_of_cell? w _ (h4 0 hL).1⟩
end Go.Proofs.YtacjibfmhhmbcabDoor
