import Derived.Test.YtglajdmkbckjjaaDoorBTile2
namespace Go.Proofs.YtglajdmkbckjjaaDoor
open Go.RowKit Go.Shelf
attribute [local go_sem] Oper.semAt_some
set_option linter.unusedVariables false
set_option linter.unusedSimpArgs false
set_option maxRecDepth 20000

/-- only blocks at or beyond N that are no cells have turned -/
structure Turned (N : Nat) (w w' : World) : Prop where
  os : w'.os = w.os
  tape : w'.tape = w.tape
  output : w'.output = w.output
  size : w'.heap.size = w.heap.size
  low : ∀ b : Nat, b < N → w'.heap[b]? = w.heap[b]?
  cells : ∀ (b : Nat) (cs : Array Value) (t : TypeId) (fz : Nat × Nat), w.heap[b]? = some (Obj.cells cs t fz) → w'.heap[b]? = some (Obj.cells cs t fz)
theorem Turned.refl (N : Nat) (w : World) : Turned N w w := ⟨rfl, rfl, rfl, rfl, fun _ _ => rfl, fun _ _ _ _ h => h⟩
theorem Turned.trans {N : Nat} {a b c : World} (h : Turned N a b) (k : Turned N b c) : Turned N a c :=
  ⟨k.os.trans h.os, k.tape.trans h.tape, k.output.trans h.output, k.size.trans h.size, fun i hi => (k.low i hi).trans (h.low i hi), fun i cs t fz hh => k.cells i cs t fz (h.cells i cs t fz hh)⟩
theorem Turned.putObj {N D : Nat} {w : World} {o o' : Obj} (hD : N ≤ D) (hw : w.heap[D]? = some o) (ho : o.isCells = false) : Turned N w (w.putObj D o') := by
  have hg := grownBy_putObj' w D o'
  have hlt := (Array.getElem?_eq_some_iff.1 hw).1
  refine ⟨hg.os, hg.tape, hg.output, by simp [World.putObj], fun b hb => World.putObj_heap_other (by omega), fun b cs t fz hb => ?_⟩
  rw [World.putObj_heap_other (fun e => by rw [e, hw] at hb; cases hb; simp [Obj.isCells] at ho)]
  exact hb
theorem Turned.rep {N : Nat} {w w' : World} {L : BL} {n B : Nat} (h : Turned N w w') (hR : BRep w L n B) : BRep w' L n B := ⟨hR.n1, hR.n2, hR.hB, h.cells _ _ _ _ hR.hp, h.cells _ _ _ _ hR.hlo, h.cells _ _ _ _ hR.hhi, hR.ne⟩
theorem Turned.below {N : Nat} {w w1 w2 : World} (h : Below N w w1) (k : Turned N w1 w2) : Below N w w2 := ⟨k.os.trans h.os, k.tape.trans h.tape, k.output.trans h.output, by rw [k.size]; exact h.size, fun b hb => (k.low b hb).trans (h.block b hb)⟩
theorem Turned.cell {N : Nat} {w w' : World} (h : Turned N w w') {b o : Nat} {cs : Array Value} {t : TypeId} {fz : Nat × Nat} (hb : w.heap[b]? = some (.cells cs t fz)) : w'.cell? ⟨b, o, none⟩ = w.cell? ⟨b, o, none⟩ :=
  World.cell?_of_block ((h.cells b cs t fz hb).trans hb.symm)

/-- the marks of the loops, and where they lie -/
def MarksAt (N : Nat) (w : World) (ds : List Deferred) : Prop := Marks w ds ∧ ∀ d ∈ ds, ∃ D, d.target = .collected D ∧ N ≤ D
theorem Marks.turn {w : World} {D : Nat} {o' : Obj} : ∀ {ds : List Deferred}, Marks w ds → (∀ d ∈ ds, d.target ≠ .collected D) → Marks (w.putObj D o') ds
  | [], _, _ => trivial
  | d :: ds, h, hne => by
    obtain ⟨⟨E, rfl, hE, hr⟩, hm⟩ := h
    refine ⟨⟨E, rfl, ?_, hr⟩, Marks.turn hm fun d' hd' => hne d' (List.mem_cons_of_mem _ hd')⟩
    rw [World.putObj_heap_other (fun e => hne _ List.mem_cons_self (by rw [e]))]
    exact hE
theorem leaves_marks {F : Fence} {m : Nat} {P : Program} {fn : Func} {tmps : Array Value} {R : Ending → World → Prop} {N : Nat} : ∀ (ds : List Deferred) (W : World), MarksAt N W ds →
    (∀ W', Turned N W W' → ∃ v, (results fn tmps).run P W' = .ok v W' ∧ R (.returned v) W') → LeavesInM F m P fn tmps R ds .returning W
  | [], W, _, h => h W (Turned.refl _ _)
  | d :: ds, W, hm, h => by
    obtain ⟨⟨⟨D, rfl, hD, hr⟩, hm2⟩, hN⟩ := hm
    obtain ⟨D', e, hND⟩ := hN _ List.mem_cons_self
    cases e
    refine ⟨by simp, .inl ⟨D, _, rfl, run_takeDeferred hD, ?_⟩⟩
    refine leaves_marks ds _ ⟨hm2.turn hr, fun d hd => hN d (List.mem_cons_of_mem _ hd)⟩ fun W' hW' => h W' ((Turned.putObj hND hD rfl).trans hW')
theorem Marks.keeps {N : Nat} {w w' : World} (hk : KeepsFrom N w w') : ∀ {ds : List Deferred}, MarksAt N w ds → MarksAt N w' ds
  | [], _ => ⟨trivial, fun _ h => by cases h⟩
  | d :: ds, h => by
    obtain ⟨⟨⟨E, rfl, hE, hr⟩, hm⟩, hN⟩ := h
    obtain ⟨D', e, hND⟩ := hN _ List.mem_cons_self
    cases e
    have ih := Marks.keeps hk (ds := ds) ⟨hm, fun d hd => hN d (List.mem_cons_of_mem _ hd)⟩
    exact ⟨⟨⟨E, rfl, hk.same E _ hND hE rfl, hr⟩, ih.1⟩, hN⟩
end Go.Proofs.YtglajdmkbckjjaaDoor
