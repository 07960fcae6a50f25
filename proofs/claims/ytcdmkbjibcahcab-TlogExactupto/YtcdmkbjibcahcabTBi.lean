import Derived.Test.YtcdmkbjibcahcabTKe
namespace Go.Proofs.Ytcdmkbjibcahcab
open Go.RowKit
set_option linter.unusedVariables false
set_option linter.unusedSimpArgs false
set_option maxRecDepth 20000

/-- the book, beside cells A that others write into; c: how many lists it was handed -/
structure BI (w0 x : World) (A : Nat → Nat → Prop) (b : Nat) (fv wv kv tv : Value) (mk : Nat) (F W K T : VL) (c : Nat) : Prop where
  b4 : B4 x b fv wv kv tv mk F W K T
  ef : ∀ u ∈ F, ERow x u.1 u.2
  ew : ∀ u ∈ W, ERow x u.1 u.2
  ek : ∀ u ∈ K ++ T, ERow x u.1 u.2
  fw : F.map Prod.snd = W.map Prod.snd
  kt : K.map Prod.snd = T.map Prod.snd
  o0 : w0.heap.size ≤ b
  o4 : ∀ g, fv.ownBlock = some g ∨ wv.ownBlock = some g ∨ kv.ownBlock = some g ∨ tv.ownBlock = some g → w0.heap.size ≤ g
  oF : ∀ u ∈ F, ∀ g, u.1.ownBlock = some g → w0.heap.size ≤ g
  fA : ∀ u ∈ F, Ds (Rm u.1) A
  wA : ∀ u ∈ W, Ds (Cl u.1) A
  kA : ∀ u ∈ K ++ T, Ds (Cl u.1) A
  kf : ∀ f ∈ F, ∀ u ∈ K ++ T, Ds (Cl u.1) (Rm f.1)
  one : F.length ≤ 1
  fl : ∀ u ∈ F, u.2.length ≤ 2000
  len : K.length = 2 * mk
  cnt : mk + F.length ≤ c
def BX (w0 x : World) (A : Nat → Nat → Prop) (b c : Nat) : Prop := ∃ fv wv kv tv mk F W K T, BI w0 x A b fv wv kv tv mk F W K T c
def kB (t : TypeId) : Prop := t = 56 ∨ t = 46 ∨ t = 32
/-- blocks of the book's kinds, made since w0 -/
def UK (w0 x : World) (g : Nat) : Prop := w0.heap.size ≤ g ∧ ∃ cs t, x.heap[g]? = some (.cells cs t (0, 0)) ∧ kB t
section
variable {w0 x y : World} {A A' : Nat → Nat → Prop} {b c : Nat}
theorem BX.move {U : Nat → Prop} (h : BX w0 x A b c) (hck : Ck A x y) (hch : Chg U x y) (hU : ∀ g, U g → ∀ cs, x.heap[g]? ≠ some (.cells cs 32 (0, 0)) ∧ x.heap[g]? ≠ some (.cells cs 46 (0, 0))) (hA : ∀ g i, A' g i → A g i ∨ x.heap.size ≤ g) : BX w0 y A' b c := by
  obtain ⟨fv, wv, kv, tv, mk, F, W, K, T, q⟩ := h
  have kr : ∀ (v9 : Value) (n : Nat) (xs : List Value), x.ownsRow 0 46 1 v9 n xs → y.ownsRow 0 46 1 v9 n xs := fun v9 n xs h9 => rowKept h9 fun g e => by
    obtain ⟨cs, hc⟩ := vrow_cells h9 e
    exact hch.keep g (World.ownsRow.lt h9 g e).2 fun q => (hU g q cs).2 hc
  have hrow := (hch.keep b (Array.getElem?_eq_some_iff.1 q.b4.row).1 fun e => (hU b e _).1 q.b4.row).trans q.b4.row
  have dR : ∀ u ∈ F, Ds (Cl u.1) A := fun u hu g i h1 h2 => q.fA u hu g i ((q.ef u hu).clrm h1) h2
  refine ⟨fv, wv, kv, tv, mk, F, W, K, T, ⟨⟨hrow, kr _ _ _ q.b4.f, kr _ _ _ q.b4.w, kr _ _ _ q.b4.k, kr _ _ _ q.b4.t, q.b4.n1, q.b4.n2, q.b4.n3⟩, fun u hu => (q.ef u hu).ck hck (dR u hu), fun u hu => (q.ew u hu).ck hck (q.wA u hu), fun u hu => (q.ek u hu).ck hck (q.kA u hu), q.fw, q.kt, q.o0, q.o4, q.oF, fun u hu g i h1 h2 => ?_, fun u hu g i h1 h2 => ?_, fun u hu g i h1 h2 => ?_, q.kf, q.one, q.fl, q.len, q.cnt⟩⟩
  · rcases hA g i h2 with e | e
    · exact q.fA u hu g i h1 e
    · have := (q.ef u hu).lt h1.own; omega
  · rcases hA g i h2 with e | e
    · exact q.wA u hu g i h1 e
    · have := (q.ew u hu).lt h1.own; omega
  · rcases hA g i h2 with e | e
    · exact q.kA u hu g i h1 e
    · have := (q.ek u hu).lt h1.own; omega
theorem BX.below (h : BX w0 x A b c) (hb : Below x.heap.size x y) : BX w0 y A b c := h.move (U := fun _ => False) (Ck.ofBelow hb) (Chg.ofBelow hb) (fun _ q => q.elim) fun g i q => .inl q
theorem BX.more (h : BX w0 x A b c) {c' : Nat} (hc : c ≤ c') : BX w0 x A b c' := by
  obtain ⟨fv, wv, kv, tv, mk, F, W, K, T, q⟩ := h
  exact ⟨fv, wv, kv, tv, mk, F, W, K, T, { q with cnt := Nat.le_trans q.cnt hc }⟩
/-- Book.keep -/
def KpP (w0 x : World) (A : Nat → Nat → Prop) (b c : Nat) (e : Ending) (y : World) : Prop := e = .returned (.tuple #[]) ∧ BX w0 y A b (c + 1) ∧ Chg (UK w0 x) x y ∧ ∃ R, Ck R x y ∧ Ds R A
theorem keep_any {l : Value} {L : List En} (h : BX w0 x (fun g i => A g i ∨ Rm l g i) b c) (hL : ERow x l L) (hlen : L.length ≤ 2000) (hlA : Ds (Rm l) A) (hA : ∀ g i, A g i → g < x.heap.size) (hs : w0.heap.size ≤ x.heap.size) (hlo : ∀ g, l.ownBlock = some g → w0.heap.size ≤ g) (hc : c ≤ 4400000000000) : Calls Try.prog 20 #[.pointer (some ⟨b, 0, none⟩), l] x (KpP w0 x A b c) := by
  obtain ⟨fv, wv, kv, tv, mk, F, W, K, T, q⟩ := h
  have hcnt := q.cnt
  have hln := q.len
  have kk : ∀ (vv : Value) (n : Nat) (xs : List Value), x.ownsRow 0 46 1 vv n xs → (∀ g, vv.ownBlock = some g → w0.heap.size ≤ g) → ∀ g, vv.ownBlock = some g → UK w0 x g := fun vv n xs hv ho g e => by
    obtain ⟨cs, h1⟩ := vrow_cells hv e
    exact ⟨ho g e, cs, _, h1, .inr (.inl rfl)⟩
  have kb : UK w0 x b := ⟨q.o0, _, _, q.b4.row, .inr (.inr rfl)⟩
  have kf := kk _ _ _ q.b4.f fun g e => q.o4 g (.inl e)
  have kw := kk _ _ _ q.b4.w fun g e => q.o4 g (.inr (.inl e))
  have kkv := kk _ _ _ q.b4.k fun g e => q.o4 g (.inr (.inr (.inl e)))
  have ktv := kk _ _ _ q.b4.t fun g e => q.o4 g (.inr (.inr (.inr e)))
  rcases F with _ | ⟨f, F⟩
  · have hW : W = [] := by
      have := congrArg List.length q.fw
      simp at this
      exact List.length_eq_zero_iff.1 this.symm
    subst hW
    refine (keep_one q.b4 hL hlen).mono ?_
    rintro e y ⟨fv', wv', t, rfl, ks, et, en⟩
    have kp : ∀ z m, ERow x z m → ERow y z m := fun z m hz => hz.ck ks.ck (ds_false _)
    refine ⟨rfl, ⟨fv', wv', kv, tv, mk, _, _, K, T, ⟨ks.b4, ?_, ?_, fun u hu => kp _ _ (q.ek u hu), rfl, q.kt, q.o0, ?_, ?_, ?_, ?_, fun u hu g i h1 h2 => q.kA u hu g i h1 (.inl h2), ?_, by simp, ?_, hln, by simp at hcnt ⊢; omega⟩⟩, ks.chg.mono ?_, fun _ _ => False, ks.ck, fun g i h _ => h.elim⟩
    · intro u hu
      rw [List.mem_singleton.1 hu]
      exact kp _ _ hL
    · intro u hu
      rw [List.mem_singleton.1 hu]
      exact et
    · rintro g (e | e | e | e)
      · rcases ks.fl g e with e | e
        · exact q.o4 g (.inl e)
        · omega
      · rcases ks.wl g e with e | e
        · exact q.o4 g (.inr (.inl e))
        · omega
      · exact q.o4 g (.inr (.inr (.inl e)))
      · exact q.o4 g (.inr (.inr (.inr e)))
    · intro u hu g e
      rw [List.mem_singleton.1 hu] at e
      exact hlo g e
    · intro u hu
      rw [List.mem_singleton.1 hu]
      exact hlA
    · intro u hu g i h1 h2
      rw [List.mem_singleton.1 hu] at h1
      have := en g h1.own
      have := hA g i h2
      omega
    · intro f hf u hu g i h1 h2
      rw [List.mem_singleton.1 hf] at h2
      exact q.kA u hu g i h1 (.inr h2)
    · intro u hu
      rw [List.mem_singleton.1 hu]
      exact hlen
    · rintro g hg (e | e | e)
      · rw [e]; exact kb
      · exact kf g e
      · exact kw g e
  · have hF : F = [] := by
      have := q.one
      simp at this
      exact this
    subst hF
    obtain ⟨t0, rfl⟩ : ∃ t0, W = [(t0, f.2)] := by
      have h1 := q.fw
      rcases W with _ | ⟨u, W⟩
      · simp at h1
      · simp at h1
        obtain ⟨h1, rfl⟩ := h1
        exact ⟨u.1, by rw [h1]⟩
    have mf : f ∈ [f] := List.mem_singleton.2 rfl
    have hp : KPre x A K T f (l, L) t0 := ⟨q.ef f mf, hL, q.ew (t0, f.2) (List.mem_singleton.2 rfl), q.ek, q.kt, hA, fun g i h1 h2 => q.fA f mf g i h1 (.inl h2), hlA, fun g i h1 h2 => q.fA f mf g i h1 (.inr h2), q.kf f mf, fun u hu g i h1 h2 => q.kA u hu g i h1 (.inr h2), fun u hu g i h1 h2 => q.kA u hu g i h1 (.inl h2), q.fl f mf, hlen⟩
    refine (keep_two q.b4 hp (by omega) (by omega)).mono ?_
    rintro e y ⟨x2, kv', tv', K', T', rfl, c1, c2, kw2⟩
    have hs2 := c2.size
    have hbk := kw2.bk
    refine ⟨rfl, ⟨nilV, nilV, kv', tv', mk + 2, [], [], K', T', ⟨⟨hbk.row, ownsNil _, ownsNil _, hbk.lk.own, hbk.lt.own, fun g e => by simp [Value.ownBlock] at e, fun g e => by simp [Value.ownBlock] at e, kw2.ne⟩, fun u hu => by simp at hu, fun u hu => by simp at hu, fun u hu => ?_, rfl, hbk.kt, q.o0, ?_, fun u hu => by simp at hu, fun u hu => by simp at hu, fun u hu => by simp at hu, kw2.da, fun u hu => by simp at hu, by simp, fun u hu => by simp at hu, by have := kw2.len; omega, by simp at hcnt ⊢; omega⟩⟩, (c2.mono ?_).trans' kw2.chg ?_, _, (c1.mono fun _ _ _ h => h.elim).trans kw2.ck, ?_⟩
    · rcases List.mem_append.1 hu with e | e
      · exact hbk.lk.each u e
      · exact hbk.lt.each u e
    · rintro g (e | e | e | e)
      · simp [Value.ownBlock] at e
      · simp [Value.ownBlock] at e
      · rcases kw2.kl g e with e | e
        · exact q.o4 g (.inr (.inr (.inl e)))
        · omega
      · rcases kw2.tl g e with e | e
        · exact q.o4 g (.inr (.inr (.inr e)))
        · omega
    · rintro g hg (e | e | e)
      · rw [e]; exact kb
      · exact kf g e
      · exact kw g e
    · rintro g hg (e | e | e | ⟨j, hj, e⟩)
      · rw [e]; exact kb
      · exact kkv g e
      · exact ktv g e
      · unfold bo2 at e
        split at e
        · obtain ⟨cs, hcs⟩ := (q.ef f mf).cells e
          exact ⟨q.oF f mf g e, cs, _, hcs, .inl rfl⟩
        · obtain ⟨cs, hcs⟩ := hL.cells e
          exact ⟨hlo g e, cs, _, hcs, .inl rfl⟩
    · rintro g i ⟨j, hj, e⟩ h2
      unfold bo2 at e
      split at e
      · exact hp.fA g i e h2
      · exact hp.lA g i e h2
end
end Go.Proofs.Ytcdmkbjibcahcab
