import Derived.Test.YtlpmpicmpklaoacGreatELaw2
import Derived.Laws.StructEq
namespace Go.Proofs.YtlpmpicmpklaoacGreat
open Go.RowKit Go.Maps Go.Sort
set_option linter.unusedVariables false
set_option linter.unusedSimpArgs false
set_option maxRecDepth 20000

/-- the pair: the program's disk, the document's, the book -/
structure PSt (w0 w : World) (pp : Nat) (L : Lay) (S : St) (RL : RLay) (T : St) (wh : Int) (nx k : Nat) (bv : Value) : Prop where
  d : Rep w L S
  r : RD w RL T wh
  b : BookAt w pp (PD L) (PR RL) nx bv k
  be : Below w0.heap.size w0 w
  uD : ∀ x, L.U x → w0.heap.size ≤ x
  uR : ∀ x, RL.U x → w0.heap.size ≤ x
  uP : w0.heap.size ≤ pp
  uB : ∀ x, bv.ownBlock = some x → w0.heap.size ≤ x
  ap : ∀ x, L.U x → ¬ RL.U x
  pD : ¬ L.U pp
  pR : ¬ RL.U pp
  bD : ∀ x, bv.ownBlock = some x → ¬ L.U x ∧ ¬ RL.U x
theorem BookAt.own {w : World} {pp nx k : Nat} {D R bv : Value} (h : BookAt w pp D R nx bv k) {x : Nat} (hx : bv.ownBlock = some x) : x < w.heap.size := by
  obtain ⟨xs, h2⟩ := h.bo
  exact (h2.lt x hx).2
theorem PSt.growD {w0 w w' : World} {pp nx k : Nat} {L : Lay} {S S' T : St} {RL : RLay} {wh : Int} {bv : Value} {U' : Nat → Prop} (h : PSt w0 w pp L S RL T wh nx k bv) (hr : Rep w' { L with U := U' } S') (hg : Grow w w' L.U U') : PSt w0 w' pp { L with U := U' } S' RL T wh nx k bv := by
  have hd := (⟨h.d, h.be, h.uD⟩ : Dk w0 w L S).grow hr hg
  exact ⟨hr, h.r.kept (fun x hx => hg.keep x (h.r.uLt x hx) fun hu => h.ap x hu hx) hg.size, h.b.kept (hg.keep pp h.b.lt h.pD) (fun x hx => hg.keep x (h.b.own hx) (h.bD x hx).1), hd.be, hd.up, h.uR, h.uP, h.uB,
    fun x hx hx2 => h.ap x (hg.new x (h.r.uLt x hx2) hx) hx2, fun hx => h.pD (hg.new pp h.b.lt hx), h.pR, fun x hx => ⟨fun hu => (h.bD x hx).1 (hg.new x (h.b.own hx) hu), (h.bD x hx).2⟩⟩
theorem PSt.growDS {w0 w w' : World} {pp nx k : Nat} {L : Lay} {S S' T : St} {RL : RLay} {wh : Int} {bv : Value} (h : PSt w0 w pp L S RL T wh nx k bv) (hr : Rep w' L S') (hg : Grow w w' L.U L.U) : PSt w0 w' pp L S' RL T wh nx k bv := h.growD (U' := L.U) hr hg
theorem PSt.growR {w0 w w' : World} {pp nx k : Nat} {L : Lay} {S T T' : St} {RL RL' : RLay} {wh wh' : Int} {bv : Value} (h : PSt w0 w pp L S RL T wh nx k bv) (hp : RL'.p = RL.p) (hr : RD w' RL' T' wh') (hg : Grow w w' RL.U RL'.U) : PSt w0 w' pp L S RL' T' wh' nx k bv := by
  have e : PR RL' = PR RL := by unfold PR; rw [hp]
  have hb : Below w0.heap.size w0 w' := ⟨hg.os.trans h.be.os, hg.tape.trans h.be.tape, hg.output.trans h.be.output, Nat.le_trans h.be.size hg.size, fun x hx => (hg.keep x (Nat.lt_of_lt_of_le hx h.be.size) fun hu => by have := h.uR x hu; omega).trans (h.be.block x hx)⟩
  refine ⟨h.d.kept (fun x hx => hg.keep x (h.d.uLt x hx) fun hu => h.ap x hx hu) hg.size, hr, by rw [e]; exact h.b.kept (hg.keep pp h.b.lt h.pR) (fun x hx => hg.keep x (h.b.own hx) (h.bD x hx).2), hb, h.uD, fun x hx => ?_, h.uP, h.uB,
    fun x hx hx2 => h.ap x hx (hg.new x (h.d.uLt x hx) hx2), h.pD, fun hx => h.pR (hg.new pp h.b.lt hx), fun x hx => ⟨(h.bD x hx).1, fun hu => (h.bD x hx).2 (hg.new x (h.b.own hx) hu)⟩⟩
  by_cases hlt : x < w.heap.size
  · exact h.uR x (hg.new x hlt hx)
  · have := h.be.size
    omega
theorem PSt.growRS {w0 w w' : World} {pp nx k : Nat} {L : Lay} {S T T' : St} {RL : RLay} {wh wh' : Int} {bv : Value} (h : PSt w0 w pp L S RL T wh nx k bv) (hr : RD w' RL T' wh') (hg : Grow w w' RL.U RL.U) : PSt w0 w' pp L S RL T' wh' nx k bv := h.growR rfl hr hg
theorem PSt.below {w0 w w' : World} {pp nx k : Nat} {L : Lay} {S T : St} {RL : RLay} {wh : Int} {bv : Value} (h : PSt w0 w pp L S RL T wh nx k bv) (hb : Below w.heap.size w w') : PSt w0 w' pp L S RL T wh nx k bv := h.growDS (h.d.below hb) (Grow.ofBelow _ hb)
/-- a list goes into the book -/
theorem PSt.book {w0 w w' : World} {pp nx k g : Nat} {L : Lay} {S T : St} {RL : RLay} {wh : Int} {bv bv' : Value} (h : PSt w0 w pp L S RL T wh nx k bv) (hg1 : w0.heap.size ≤ g) (hg2 : ¬ L.U g) (hg3 : ¬ RL.U g) (hb : BookAt w' pp (PD L) (PR RL) (nx + 1) bv' (k + 2)) (e1 : w'.os = w.os) (e2 : w'.tape = w.tape) (e3 : w'.output = w.output) (hs : w.heap.size ≤ w'.heap.size)
    (hk : ∀ b, b < w.heap.size → b ≠ pp → b ≠ g → bv.ownBlock ≠ some b → w'.heap[b]? = w.heap[b]?) (ho : ∀ b, bv'.ownBlock = some b → bv.ownBlock = some b ∨ w.heap.size ≤ b) : PSt w0 w' pp L S RL T wh (nx + 1) (k + 2) bv' := by
  have kd : ∀ x, L.U x → w'.heap[x]? = w.heap[x]? := fun x hx => hk x (h.d.uLt x hx) (fun e => h.pD (e ▸ hx)) (fun e => hg2 (e ▸ hx)) fun e => (h.bD x e).1 hx
  have kr : ∀ x, RL.U x → w'.heap[x]? = w.heap[x]? := fun x hx => hk x (h.r.uLt x hx) (fun e => h.pR (e ▸ hx)) (fun e => hg3 (e ▸ hx)) fun e => (h.bD x e).2 hx
  refine ⟨h.d.kept kd hs, h.r.kept kr hs, hb, ⟨e1.trans h.be.os, e2.trans h.be.tape, e3.trans h.be.output, Nat.le_trans h.be.size hs, fun x hx => (hk x (Nat.lt_of_lt_of_le hx h.be.size) (by have := h.uP; omega) (by omega) fun e => by have := h.uB x e; omega).trans (h.be.block x hx)⟩, h.uD, h.uR, h.uP, fun x hx => ?_, h.ap, h.pD, h.pR, fun x hx => ?_⟩
  · rcases ho x hx with e | e
    · exact h.uB x e
    · have := h.be.size; omega
  · rcases ho x hx with e | e
    · exact h.bD x e
    · exact ⟨fun hu => by have := h.d.uLt x hu; omega, fun hu => by have := h.r.uLt x hu; omega⟩
theorem PSt.cells {w0 w : World} {pp nx k : Nat} {L : Lay} {S T : St} {RL : RLay} {wh : Int} {bv : Value} (h : PSt w0 w pp L S RL T wh nx k bv) : w.cell? ⟨pp, 0, none⟩ = some (.pointer (some ⟨L.p, 0, none⟩)) ∧ w.cell? ⟨pp, 1, none⟩ = some (.pointer (some ⟨RL.p, 0, none⟩)) ∧ w.cell? ⟨pp, 2, none⟩ = some (.bool false) ∧ w.cell? ⟨RL.p, 11, none⟩ = some (.int .i64 wh) :=
  ⟨h.b.cell 0, h.b.cell 1, h.b.cell 2, h.r.cells.2⟩

/-- a call's box: the operation as it lies in memory -/
def opBox (o : OpV) : Obj := .cells #[.int .i64 o.kind, .int .i64 o.block, .int .i64 o.count, o.dv] 43
def PAll (w0 w : World) (pp : Nat) (S : St) (nx k : Nat) : Prop := ∃ L RL wh bv, PSt w0 w pp L S RL S wh nx k bv
theorem countsEq (a b c d : Int) (W : World) : (Op.equalIn 10000 70 (.agg #[.int .i64 a, .int .i64 b, .int .i64 c, .int .i64 d]) (.agg #[.int .i64 a, .int .i64 b, .int .i64 c, .int .i64 d])).run Tryz.prog W = .ok true W := by
  have u3 := Tryz.underlying3
  have a3 := Tryz.isAgg3
  have z3 := Tryz.sizeOf3
  have hS : Tryz.prog.underlying 70 = some (.struct (Tryz.prog.fieldsOf 70)) := by kernel_rfl
  rw [show (10000 : Nat) = 9999 + 1 from rfl, run_equalIn_agg W 9999 70 _ _ hS (by kernel_rfl)]
  simp only [Program.fieldsOf, Tryz.underlying70]
  go_simp
theorem opAt {w : World} (o : OpV) : (w.alloc (.cells #[.int .i64 o.kind, .int .i64 o.block, .int .i64 o.count, o.dv] 43)).heap[w.heap.size]? = some (.cells #[.int .i64 o.kind, .int .i64 o.block, .int .i64 o.count, o.dv] 43 (0, 0)) := Go.heap_alloc_new w _

/-- the pair, and the operation's box -/
structure PBx (w0 w : World) (pp : Nat) (L : Lay) (S : St) (RL : RLay) (T : St) (wh : Int) (nx k : Nat) (bv : Value) (bx : Nat) (kd bl ct : Int) (dv : Value) : Prop where
  p : PSt w0 w pp L S RL T wh nx k bv
  box : w.heap[bx]? = some (.cells #[.int .i64 kd, .int .i64 bl, .int .i64 ct, dv] 43 (0, 0))
  xD : ¬ L.U bx
  xR : ¬ RL.U bx
theorem PBx.lt {w0 w : World} {pp nx k bx : Nat} {L : Lay} {S T : St} {RL : RLay} {wh kd bl ct : Int} {bv dv : Value} (h : PBx w0 w pp L S RL T wh nx k bv bx kd bl ct dv) : bx < w.heap.size := (Array.getElem?_eq_some_iff.1 h.box).1
theorem PBx.start {w0 w : World} {pp nx k : Nat} {L : Lay} {S T : St} {RL : RLay} {wh : Int} {bv : Value} (h : PSt w0 w pp L S RL T wh nx k bv) (kd bl ct : Int) (dv : Value) : PBx w0 (w.alloc (.cells #[.int .i64 kd, .int .i64 bl, .int .i64 ct, dv] 43)) pp L S RL T wh nx k bv w.heap.size kd bl ct dv :=
  ⟨h.below ((Below.refl _ _).alloc (Nat.le_refl _) _), Go.heap_alloc_new w _, fun hu => by have := h.d.uLt _ hu; omega, fun hu => by have := h.r.uLt _ hu; omega⟩
theorem PBx.growD {w0 w w' : World} {pp nx k bx : Nat} {L : Lay} {S S' T : St} {RL : RLay} {wh kd bl ct : Int} {bv dv : Value} {U' : Nat → Prop} (h : PBx w0 w pp L S RL T wh nx k bv bx kd bl ct dv) (hr : Rep w' { L with U := U' } S') (hg : Grow w w' L.U U') : PBx w0 w' pp { L with U := U' } S' RL T wh nx k bv bx kd bl ct dv :=
  ⟨h.p.growD hr hg, (hg.keep bx h.lt h.xD).trans h.box, fun hu => h.xD (hg.new bx h.lt hu), h.xR⟩
theorem PBx.growDS {w0 w w' : World} {pp nx k bx : Nat} {L : Lay} {S S' T : St} {RL : RLay} {wh kd bl ct : Int} {bv dv : Value} (h : PBx w0 w pp L S RL T wh nx k bv bx kd bl ct dv) (hr : Rep w' L S') (hg : Grow w w' L.U L.U) : PBx w0 w' pp L S' RL T wh nx k bv bx kd bl ct dv := h.growD (U' := L.U) hr hg
theorem PBx.growR {w0 w w' : World} {pp nx k bx : Nat} {L : Lay} {S T T' : St} {RL RL' : RLay} {wh wh' kd bl ct : Int} {bv dv : Value} (h : PBx w0 w pp L S RL T wh nx k bv bx kd bl ct dv) (hp : RL'.p = RL.p) (hr : RD w' RL' T' wh') (hg : Grow w w' RL.U RL'.U) : PBx w0 w' pp L S RL' T' wh' nx k bv bx kd bl ct dv :=
  ⟨h.p.growR hp hr hg, (hg.keep bx h.lt h.xR).trans h.box, h.xD, fun hu => h.xR (hg.new bx h.lt hu)⟩
theorem PBx.below {w0 w w' : World} {pp nx k bx : Nat} {L : Lay} {S T : St} {RL : RLay} {wh kd bl ct : Int} {bv dv : Value} (h : PBx w0 w pp L S RL T wh nx k bv bx kd bl ct dv) (hb : Below w.heap.size w w') : PBx w0 w' pp L S RL T wh nx k bv bx kd bl ct dv := h.growDS (h.p.d.below hb) (Grow.ofBelow _ hb)
/-- the cells that a step of the pair loads -/
def PCells (pp bx : Nat) (lp rp : Nat) (kd bl ct : Int) (dv : Value) (w : World) : Prop := w.cell? ⟨pp, 0, none⟩ = some (.pointer (some ⟨lp, 0, none⟩)) ∧ w.cell? ⟨pp, 1, none⟩ = some (.pointer (some ⟨rp, 0, none⟩)) ∧ w.cell? ⟨pp, 2, none⟩ = some (.bool false) ∧ w.cell? ⟨bx, 0, none⟩ = some (.int .i64 kd) ∧ w.cell? ⟨bx, 1, none⟩ = some (.int .i64 bl) ∧ w.cell? ⟨bx, 2, none⟩ = some (.int .i64 ct) ∧ w.cell? ⟨bx, 3, none⟩ = some dv
theorem PBx.cells {w0 w : World} {pp nx k bx : Nat} {L : Lay} {S T : St} {RL : RLay} {wh kd bl ct : Int} {bv dv : Value} (h : PBx w0 w pp L S RL T wh nx k bv bx kd bl ct dv) : PCells pp bx L.p RL.p kd bl ct dv w :=
  ⟨h.p.cells.1, h.p.cells.2.1, h.p.cells.2.2.1, by rw [cell_of_row _ _ _ _ _ _ h.box]; rfl, by rw [cell_of_row _ _ _ _ _ _ h.box]; rfl, by rw [cell_of_row _ _ _ _ _ _ h.box]; rfl, by rw [cell_of_row _ _ _ _ _ _ h.box]; rfl⟩
end Go.Proofs.YtlpmpicmpklaoacGreat
