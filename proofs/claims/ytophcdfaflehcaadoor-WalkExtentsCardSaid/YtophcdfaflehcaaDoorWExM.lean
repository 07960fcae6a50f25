import Derived.Test.YtophcdfaflehcaaDoorWEx3
import Derived.Test.YtophcdfaflehcaaDoorWLp2
namespace Go.Proofs.YtophcdfaflehcaaDoor
open Go.RowKit Go.Shelf
attribute [local go_sem] Oper.semAt_some
set_option linter.unusedVariables false
set_option linter.unusedSimpArgs false
set_option maxRecDepth 20000

theorem ZRow.blk {w : World} {v : Value} {n : Nat} (h : ZRow w v n) {g : Nat} (hg : v.ownBlock = some g) : ∃ cs, w.heap[g]? = some (.cells cs 28 (0, 0)) := by
  obtain ⟨zs, h0, h1⟩ := h
  rcases h1.2 with ⟨rfl, _⟩ | ⟨g', cap, cur, rfl, _, hh, _⟩
  · simp [Value.ownBlock] at hg
  · simp only [Value.ownBlock, Option.some.injEq] at hg
    subst hg
    exact ⟨_, hh⟩
/-- the marks that the loops over iterators leave, between N and T -/
def MK (N T : Nat) (w : World) (ds : List Deferred) : Prop := Marks w ds ∧ ∀ d ∈ ds, ∃ D, d.target = .collected D ∧ N ≤ D ∧ D < T
theorem MK.kept {N T : Nat} {w w' : World} (hk : ∀ D : Nat, N ≤ D → D < T → w.heap[D]? = some (.deferred (some [])) → w'.heap[D]? = some (.deferred (some []))) : ∀ {ds : List Deferred}, MK N T w ds → MK N T w' ds
  | [], _ => ⟨trivial, fun _ h => by cases h⟩
  | d :: ds, h => by
    obtain ⟨⟨⟨E, rfl, hE, hr⟩, hm⟩, hN⟩ := h
    obtain ⟨D', e, hND, hT⟩ := hN _ List.mem_cons_self
    cases e
    have ih := MK.kept hk (ds := ds) ⟨hm, fun d hd => hN d (List.mem_cons_of_mem _ hd)⟩
    exact ⟨⟨⟨E, rfl, hk E hND hT hE, hr⟩, ih.1⟩, hN⟩
theorem MK.more {N T T' D : Nat} {w : World} {ds : List Deferred} (h : MK N T w ds) (hN : N ≤ D) (hT : T ≤ D) (hD : D < T') (hK : w.heap[D]? = some (.deferred (some []))) : MK N T' w ({ target := .collected D, args := #[] } :: ds) := by
  refine ⟨⟨⟨D, rfl, hK, fun d' hd' e => ?_⟩, h.1⟩, fun d hd => ?_⟩
  · obtain ⟨E, e1, _, e3⟩ := h.2 d' hd'
    rw [e1] at e
    cases e
    omega
  · rcases List.mem_cons.1 hd with rfl | hd
    · exact ⟨D, rfl, by omega, hD⟩
    · obtain ⟨E, e1, e2, e3⟩ := h.2 d hd
      exact ⟨E, e1, e2, by omega⟩
theorem MK.mono {N T T' : Nat} {w : World} {ds : List Deferred} (h : MK N T w ds) (hT : T ≤ T') : MK N T' w ds := ⟨h.1, fun d hd => by obtain ⟨E, e1, e2, e3⟩ := h.2 d hd; exact ⟨E, e1, e2, by omega⟩⟩
theorem Marks.put {w : World} {D : Nat} {o' : Obj} : ∀ {ds : List Deferred}, Marks w ds → (∀ d ∈ ds, d.target ≠ .collected D) → Marks (w.putObj D o') ds
  | [], _, _ => trivial
  | d :: ds, h, hne => by
    obtain ⟨⟨E, rfl, hE, hr⟩, hm⟩ := h
    refine ⟨⟨E, rfl, ?_, hr⟩, Marks.put hm fun d' hd' => hne d' (List.mem_cons_of_mem _ hd')⟩
    rw [World.putObj_heap_other (fun e => hne _ List.mem_cons_self (by rw [e]))]
    exact hE
/-- the marks are taken: cells, and all below N, stay -/
theorem leaves_mk {F : Fence} {m : Nat} {P : Program} {fn : Func} {tmps : Array Value} {R : Ending → World → Prop} {N T : Nat} {w : World} {B : Nat} {u : Value} : ∀ (ds : List Deferred) (W : World), MK N T W ds → Below N w W → W.heap[B]? = some (.cells #[u] 4 (0, 0)) →
    (∀ W', Below N w W' → W'.heap[B]? = some (.cells #[u] 4 (0, 0)) → ∃ v, (results fn tmps).run P W' = .ok v W' ∧ R (.returned v) W') → LeavesInM F m P fn tmps R ds .returning W
  | [], W, _, hb, hB, h => h W hb hB
  | d :: ds, W, hm, hb, hB, h => by
    obtain ⟨⟨⟨D, rfl, hD, hr⟩, hm2⟩, hN⟩ := hm
    obtain ⟨D', e, hND, hT⟩ := hN _ List.mem_cons_self
    cases e
    refine ⟨by simp, .inl ⟨D, _, rfl, run_takeDeferred hD, ?_⟩⟩
    have hg := grownBy_putObj' W D (.deferred none)
    have hlt := (Array.getElem?_eq_some_iff.1 hD).1
    refine leaves_mk ds _ ⟨hm2.put hr, fun d hd => hN d (List.mem_cons_of_mem _ hd)⟩ ⟨hg.os.trans hb.os, hg.tape.trans hb.tape, hg.output.trans hb.output, by simpa [World.putObj] using hb.size, fun b hbN => (World.putObj_heap_other (by omega)).trans (hb.block b hbN)⟩ ((World.putObj_heap_other (ne_def hB hD)).trans hB) h
/-- what the law's loop leans on: where its things lie -/
structure YF (N M bw : Nat) (want own : Value) (EI : World → Prop) : Prop where
  n1 : N + 1 < M
  wl : bw < M
  wn : N + 1 < bw
  cl : ∀ g, want.ownBlock = some g → g < M
  ol : ∀ g, own.ownBlock = some g → N + 1 < g ∧ g < bw ∧ want.ownBlock ≠ some g
  ek : ∀ W W', EI W → (∀ (b : Nat) (o : Obj), b < M → W.heap[b]? = some o → o.isCells = true → own.ownBlock ≠ some b → W'.heap[b]? = some o) → EI W'
structure YB (w W : World) (N M T bw rb len : Nat) (stop r : Int) (res : Bool) (want own : Value) (WL : List (Nat × Nat)) (EI : World → Prop) (ds : List Deferred) : Prop where
  bel : Below N w W
  b0 : W.heap[N]? = some (.cells #[.int .i64 stop] 3 (0, 0))
  b1 : W.heap[N + 1]? = some (.cells #[.bool res] 4 (0, 0))
  bw : W.heap[bw]? = some (.cells #[want] 40 (0, 0))
  cr : CRow W want WL
  zr : ZRow W own len
  ei : EI W
  br : W.heap[rb]? = some (.cells #[.int .i64 r] 3 (0, 0))
  ms : MK N T W ds
section
variable {w W W' : World} {N M T T' bw rb rb' len : Nat} {stop r r' : Int} {res : Bool} {want own : Value} {WL : List (Nat × Nat)} {EI : World → Prop} {ds ds' : List Deferred}
theorem YB.to (F : YF N M bw want own EI) (h : YB w W N M T bw rb len stop r res want own WL EI ds) (hb : Below N w W') (hk : ∀ (b : Nat) (o : Obj), b < M → W.heap[b]? = some o → o.isCells = true → W'.heap[b]? = some o) (hm : MK N T' W' ds') (hr : W'.heap[rb']? = some (.cells #[.int .i64 r'] 3 (0, 0))) : YB w W' N M T' bw rb' len stop r' res want own WL EI ds' := by
  have n1 := F.n1
  refine ⟨hb, hk _ _ (by omega) h.b0 rfl, hk _ _ F.n1 h.b1 rfl, hk _ _ F.wl h.bw rfl, h.cr.kept fun g e => ?_, h.zr.kept fun g e => ?_, F.ek W W' h.ei fun b o h1 h2 h3 _ => hk b o h1 h2 h3, hr, hm⟩
  · obtain ⟨cs, hc⟩ := h.cr.blk e
    rw [hk _ _ (F.cl g e) hc rfl, hc]
  · obtain ⟨cs, hc⟩ := h.zr.blk e
    have := F.ol g e
    have := F.wl
    rw [hk _ _ (by omega) hc rfl, hc]
theorem YB.held (F : YF N M bw want own EI) (h : YB w W N M T bw rb len stop r res want own WL EI ds) {row : Option Nat} {K : Nat} (hNW : N ≤ W.heap.size) (hNK : N ≤ K) (hT : T ≤ K) (hg : W.grownBy W' row) (hr : ∀ r, row = some r → K ≤ r ∧ ∃ o : Obj, W.heap[r]? = some o ∧ o.isCells = false) : YB w W' N M T bw rb len stop r res want own WL EI ds :=
  h.to F (h.bel.grown hg hNW (fun k e => by have := (hr k e).1; omega)) (fun b o _ ho hc => by cases o <;> first | exact own_blk ho hg hr | simp [Obj.isCells] at hc)
    (h.ms.kept fun D _ hD ho => by rw [hg.block D (Array.getElem?_eq_some_iff.1 ho).1 (fun e => by have := (hr D e.symm).1; omega)]; exact ho) (own_blk h.br hg hr)
theorem YB.on (F : YF N M bw want own EI) (h : YB w W N M T bw rb len stop r res want own WL EI ds) (hNW : N ≤ W.heap.size) (hb : Below W.heap.size W W') : YB w W' N M T bw rb len stop r res want own WL EI ds := by
  have k : ∀ {b : Nat} {o : Obj}, W.heap[b]? = some o → W'.heap[b]? = some o := fun hh => (hb.block _ (Array.getElem?_eq_some_iff.1 hh).1).trans hh
  exact h.to F (h.bel.trans (hb.mono hNW)) (fun b o _ ho _ => k ho) (h.ms.kept fun D _ _ ho => k ho) (k h.br)
/-- a box past M is written -/
theorem YB.put (F : YF N M bw want own EI) (h : YB w W N M T bw rb len stop r res want own WL EI ds) {kb : Nat} {cs : Array Value} {t : TypeId} (hkb : W.heap[kb]? = some (.cells cs t (0, 0))) (hM : M ≤ kb) (z : Value) (hrb : (W.setCell ⟨kb, 0, none⟩ z).heap[rb']? = some (.cells #[.int .i64 r'] 3 (0, 0))) : YB w (W.setCell ⟨kb, 0, none⟩ z) N M T bw rb' len stop r' res want own WL EI ds := by
  have n1 := F.n1
  refine h.to F ⟨h.bel.os, h.bel.tape, h.bel.output, by have := h.bel.size; simp [World.setCell]; omega, fun c hc => (Go.heap_setCell_other _ _ _ _ (by show c ≠ kb; omega)).trans (h.bel.block c hc)⟩ (fun b o hb ho _ => (Go.heap_setCell_other _ _ _ _ (by show b ≠ kb; omega)).trans ho) (h.ms.kept fun D _ _ ho => (Go.heap_setCell_other _ _ _ _ (fun e => by
    have e' : D = kb := e
    rw [e', hkb] at ho
    cases ho)).trans ho) hrb
/-- own is written -/
theorem YB.flip (F : YF N M bw want own EI) (h : YB w W N M T bw rb len stop r res want own WL EI ds) {g i : Nat} {cs : Array Value} (hg : own.ownBlock = some g) (hgc : W.heap[g]? = some (.cells cs 28 (0, 0))) (hM : M ≤ rb) (z : Value) (hz : ZRow (W.setCell ⟨g, i, none⟩ z) own len) : YB w (W.setCell ⟨g, i, none⟩ z) N M T bw rb len stop r res want own WL EI ds := by
  obtain ⟨g1, g2, g3⟩ := F.ol g hg
  have wl := F.wl
  have k : ∀ {b : Nat} {o : Obj}, b ≠ g → W.heap[b]? = some o → (W.setCell ⟨g, i, none⟩ z).heap[b]? = some o := fun hne hh => (Go.heap_setCell_other _ _ _ _ (by show _ ≠ g; exact hne)).trans hh
  refine ⟨⟨h.bel.os, h.bel.tape, h.bel.output, by have := h.bel.size; simp [World.setCell]; omega, fun c hc => (Go.heap_setCell_other _ _ _ _ (by show c ≠ g; omega)).trans (h.bel.block c hc)⟩, k (by omega) h.b0, k (by omega) h.b1, k (by omega) h.bw, h.cr.kept fun c e => ?_, hz, F.ek _ _ h.ei fun b o _ ho _ hne => k (fun e => hne (by rw [e]; exact hg)) ho, k (by omega) h.br, h.ms.kept fun D _ _ ho => k (fun e => by rw [e, hgc] at ho; cases ho) ho⟩
  exact Go.heap_setCell_other _ _ _ _ (by show c ≠ g; intro e2; rw [e2] at e; exact g3 e)
end
theorem range_two {F : Fence} {n : Nat} {P : Program} {σ α : Type} {g : Operand} {ps : Array Tmp} {assign body : Code} {Q : Exit → Act → World → Prop} {a : Act} {w : World} (id : Nat)
    (hro : F.round = none) (h1 : 1 ≤ n) {gf : Nat} {lb : Array Value} (hg : a.eval g = .func (.func gf) #[] lb) (hFg : F.fn gf) (eg : ∀ args w, (callFunc gf args).run P w = .ok (.enter gf args) w)
    {encs : α → Array Value} {Step : σ → α → σ → World → Prop} {End Inv : σ → World → Prop} {s0 : σ} (hseq : SeqSt F (n - 1) P gf lb encs Step End Inv s0) (hps : ∀ x, (encs x).size = ps.size)
    (I : σ → World → Prop) (Mid : World → Prop) (hI : OwnFrom w.heap.size I) (hMid : OwnFrom w.heap.size (fun (_ : Unit) W => Mid W)) (hII : ∀ s W, I s W → Inv s W)
    (hSt : ∀ s x s', OwnFrom w.heap.size (fun (_ : Unit) W => Step s x s' W)) (hEn : OwnFrom w.heap.size End) (hEM : ∀ s W, I s W → End s W → Mid W) (h0 : I s0 w) (a₁ : α → Act)
    (hassign : ∀ (l : Nat) (x : α) (W : World) (K : Act → World → Prop), K (a₁ x) W →
      assign.wpIn (F.inRound l) (n - 1 - 1) P (Exit.then K (fun _ _ _ => False)) { tmps := (ps.zip (encs x)).foldl (fun t (p, v) => t.setIfInBounds p v) a.tmps, defers := [] } W)
    (hbody : ∀ (l : Nat) (s : σ) (x : α) (s' : σ) (W : World), w.heap.size ≤ l → l < W.heap.size → I s W → Step s x s' W → body.wpIn (F.inRound l) (n - 1 - 1) P (stPost w.heap.size I (fun c W => c = .exit id ∧ Mid W) s' W) (a₁ x) W)
    (hrest : ∀ (D : Nat) (e : Exit) (W : World), w.heap.size ≤ D → (e = .normal ∨ e = .exit id) → Mid W → W.heap[D]? = some (.deferred (some [])) → Q e { a with defers := { target := .collected D, args := #[] } :: a.defers } W) :
    (Code.rangeFunc g ps assign body).wpIn F n P Q a w :=
  wpIn_range_st hro h1 hg hFg eg hseq hps I (fun c W => c = .exit id ∧ Mid W) hI (fun c s A B row hs hg hr => ⟨hs.1, hMid s A B row hs.2 hg hr⟩) hII hSt hEn h0 a₁ hassign hbody
    (fun D s W hD hE hi hK => hrest D .normal W hD (.inl rfl) (hEM s W hi hE) hK)
    (fun D c W hD ⟨hc, hm⟩ hK => by subst hc; exact wpIn_exit (hrest D _ W hD (.inr rfl) hm hK))
end Go.Proofs.YtophcdfaflehcaaDoor
