import Derived.Test.YtepgiomgkgfioaaDoorDBase
namespace Go.Proofs.YtepgiomgkgfioaaDoor.K
open Go.RowKit Go.Maps
set_option linter.unusedVariables false

/-- the elements of the map: the values themselves -/
def Rv : Value → Option (DataW Value × List MemPlace) := fun v => some (.held v, [])
def kL (k : Nat) : Lit := .int .i64 (k : Int)
def nilS : Value := .slice none 0 0
def updF {α : Type} (f : Nat → α) (k : Nat) (x : α) : Nat → α := fun j => if j = k then x else f j
theorem updF_same {α : Type} (f : Nat → α) (k : Nat) (x : α) : updF f k x k = x := by simp [updF]
theorem updF_other {α : Type} (f : Nat → α) {k j : Nat} (x : α) (h : j ≠ k) : updF f k x j = f j := by simp [updF, h]

/-- what the document says of a disk -/
structure St where
  nb : Nat
  sz : Nat
  med : Nat → Option (List Nat)
  cache : Nat → List (List Nat)
  off : Bool
  fuse : Int
  rd : Int
  wr : Int
  th : Int
  fl : Int

/-- where it lies -/
structure Lay where
  p : Nat
  mb : Nat
  cb : Nat
  U : Nat → Prop

def diskRow (L : Lay) (S : St) : Array Value := #[.int .i64 (S.nb : Int), .int .i64 (S.sz : Int), .slice (some ⟨L.mb, 0, none⟩) S.nb S.nb, .map (some L.cb), .bool S.off, .int .i64 S.fuse, .int .i64 S.rd, .int .i64 S.wr, .int .i64 S.th, .int .i64 S.fl]

/-- a block of the medium: nil where it is spoilt -/
def Med (w : World) (U : Nat → Prop) (v : Value) : Option (List Nat) → Prop
  | none => v = nilS
  | some l => ∃ g, v = sl g l.length ∧ PieceAt w g l ∧ U g

/-- a list of cached writes -/
def Row (w : World) (U : Nat → Prop) (v : Value) (ls : List (List Nat)) : Prop :=
  ∃ gs : List Nat, gs.length = ls.length ∧ w.ownsRow 0 29 1 v ls.length ((List.range ls.length).map fun i => sl (gs.getD i 0) (ls.getD i []).length) ∧
    (∀ i, i < ls.length → PieceAt w (gs.getD i 0) (ls.getD i []) ∧ U (gs.getD i 0)) ∧ (∀ g, v.ownBlock = some g → U g) ∧ (ls = [] → v = nilS)

structure Core (w : World) (L : Lay) (A : Nat → Value) (D : DataW Value) (S : St) : Prop where
  nb1 : 1 ≤ S.nb
  nb2 : S.nb ≤ 8192
  sz : S.sz = 128 ∨ S.sz = 256 ∨ S.sz = 512 ∨ S.sz = 1024
  fz : -1 ≤ S.fuse ∧ S.fuse ≤ 9223372036854775807
  hp : w.heap[L.p]? = some (.cells (diskRow L S) 60 (0, 0))
  hm : ∃ ms : Array Value, w.heap[L.mb]? = some (.cells ms 29 (0, 0)) ∧ ms.size = S.nb ∧ ∀ i, i < S.nb → ∃ v, ms[i]? = some v ∧ Med w L.U v (S.med i)
  mlen : ∀ i l, i < S.nb → S.med i = some l → l.length = S.sz
  clen : ∀ i l, i < S.nb → l ∈ S.cache i → l.length = S.sz
  keys : ∀ kl, has D kl = true → ∃ k, k < S.nb ∧ kl = kL k
  hasK : ∀ k, k < S.nb → (has D (kL k) = true ↔ S.cache k ≠ [])
  at_ : ∀ k, k < S.nb → D.atKey (kL k) (.held nilS) = .held (A k)
  row : ∀ k, k < S.nb → Row w L.U (A k) (S.cache k)
  apart : ∀ k j, k < S.nb → j < S.nb → k ≠ j → ∀ g, (A k).ownBlock = some g → (A j).ownBlock ≠ some g
  offM : ∀ k, k < S.nb → (A k).ownBlock ≠ some L.mb
  uP : L.U L.p
  uM : L.U L.mb
  uC : L.U L.cb
  uLt : ∀ b, L.U b → b < w.heap.size

/-- the whole: with its map -/
def Rep (w : World) (L : Lay) (S : St) : Prop := ∃ A D, w.ownsMap Tryd.prog 3 Rv L.cb 8192 D ∧ Core w L A D S

/-- from w to w': only what U names, and new blocks, has turned; what U' names is U's or new -/
structure Grow (w w' : World) (U U' : Nat → Prop) : Prop where
  os : w'.os = w.os
  tape : w'.tape = w.tape
  output : w'.output = w.output
  size : w.heap.size ≤ w'.heap.size
  keep : ∀ b, b < w.heap.size → ¬ U b → w'.heap[b]? = w.heap[b]?
  new : ∀ b, b < w.heap.size → U' b → U b
  sup : ∀ b, U b → U' b

theorem Grow.refl (w : World) (U : Nat → Prop) : Grow w w U U := ⟨rfl, rfl, rfl, Nat.le_refl _, fun _ _ _ => rfl, fun _ _ h => h, fun _ h => h⟩
theorem Grow.trans {w w1 w2 : World} {U U1 U2 : Nat → Prop} (h : Grow w w1 U U1) (k : Grow w1 w2 U1 U2) : Grow w w2 U U2 :=
  ⟨k.os.trans h.os, k.tape.trans h.tape, k.output.trans h.output, Nat.le_trans h.size k.size,
    fun b hb hu => (k.keep b (Nat.lt_of_lt_of_le hb h.size) (fun hu1 => hu (h.new b hb hu1))).trans (h.keep b hb hu),
    fun b hb hu => h.new b hb (k.new b (Nat.lt_of_lt_of_le hb h.size) hu), fun b hu => k.sup b (h.sup b hu)⟩
theorem Grow.ofBelow {w w' : World} (U : Nat → Prop) (h : Below w.heap.size w w') : Grow w w' U U :=
  ⟨h.os, h.tape, h.output, h.size, fun b hb _ => h.block b hb, fun _ _ hu => hu, fun _ hu => hu⟩

theorem Med.kept {w w' : World} {U : Nat → Prop} {v : Value} {o : Option (List Nat)} (h : Med w U v o) (hk : ∀ b, U b → w'.heap[b]? = w.heap[b]?) : Med w' U v o := by
  cases o with
  | none => exact h
  | some l =>
    obtain ⟨g, rfl, hp, hu⟩ := h
    exact ⟨g, rfl, hp.kept (hk g hu), hu⟩
theorem Med.wider {w : World} {U U' : Nat → Prop} {v : Value} {o : Option (List Nat)} (h : Med w U v o) (hk : ∀ b, U b → U' b) : Med w U' v o := by
  cases o with
  | none => exact h
  | some l =>
    obtain ⟨g, rfl, hp, hu⟩ := h
    exact ⟨g, rfl, hp, hk g hu⟩
theorem Row.kept {w w' : World} {U : Nat → Prop} {v : Value} {ls : List (List Nat)} (h : Row w U v ls) (hk : ∀ b, U b → w'.heap[b]? = w.heap[b]?) : Row w' U v ls := by
  obtain ⟨gs, h1, h2, h3, h4, h5⟩ := h
  exact ⟨gs, h1, ownsRow_keptIf h2 fun g hg => hk g (h4 g hg), fun i hi => ⟨(h3 i hi).1.kept (hk _ (h3 i hi).2), (h3 i hi).2⟩, h4, h5⟩
theorem Row.wider {w : World} {U U' : Nat → Prop} {v : Value} {ls : List (List Nat)} (h : Row w U v ls) (hk : ∀ b, U b → U' b) : Row w U' v ls := by
  obtain ⟨gs, h1, h2, h3, h4, h5⟩ := h
  exact ⟨gs, h1, h2, fun i hi => ⟨(h3 i hi).1, hk _ (h3 i hi).2⟩, fun g hg => hk g (h4 g hg), h5⟩

/-- a block of a list of cached writes is neither the disk's own nor a piece -/
theorem Row.cellsAt {w : World} {U : Nat → Prop} {v : Value} {ls : List (List Nat)} (h : Row w U v ls) {g : Nat} (hg : v.ownBlock = some g) : ∃ cs, w.heap[g]? = some (.cells cs 29 (0, 0)) := by
  obtain ⟨gs, h1, h2, h3, h4, h5⟩ := h
  rcases h2.2 with ⟨rfl, _⟩ | ⟨g', cap, cur, rfl, _, hh, _⟩
  · simp [Value.ownBlock] at hg
  · simp only [Value.ownBlock, Option.some.injEq] at hg
    subst hg
    exact ⟨cur, hh⟩

/-- nothing of the disk has turned -/
theorem Core.kept {w w' : World} {L : Lay} {A : Nat → Value} {D : DataW Value} {S : St} (h : Core w L A D S) (hk : ∀ b, L.U b → w'.heap[b]? = w.heap[b]?) (hs : w.heap.size ≤ w'.heap.size) : Core w' L A D S := by
  refine ⟨h.nb1, h.nb2, h.sz, h.fz, (hk _ h.uP).trans h.hp, ?_, h.mlen, h.clen, h.keys, h.hasK, h.at_, fun k hk' => (h.row k hk').kept hk, h.apart, h.offM, h.uP, h.uM, h.uC, fun b hb => Nat.lt_of_lt_of_le (h.uLt b hb) hs⟩
  obtain ⟨ms, h1, h2, h3⟩ := h.hm
  refine ⟨ms, (hk _ h.uM).trans h1, h2, fun i hi => ?_⟩
  obtain ⟨v, hv, hmed⟩ := h3 i hi
  exact ⟨v, hv, hmed.kept hk⟩

theorem ownsMap_keptAt {w w' : World} {b n : Nat} {D : DataW Value} (h : w.ownsMap Tryd.prog 3 Rv b n D) (e : w'.heap[b]? = w.heap[b]?) : w'.ownsMap Tryd.prog 3 Rv b n D := by
  obtain ⟨es, clock, hb, r⟩ := h
  exact ⟨es, clock, e.trans hb, r⟩

theorem Rep.kept {w w' : World} {L : Lay} {S : St} (h : Rep w L S) (hk : ∀ b, L.U b → w'.heap[b]? = w.heap[b]?) (hs : w.heap.size ≤ w'.heap.size) : Rep w' L S := by
  obtain ⟨A, D, ho, hc⟩ := h
  exact ⟨A, D, ownsMap_keptAt ho (hk _ hc.uC), hc.kept hk hs⟩
theorem Rep.uLt {w : World} {L : Lay} {S : St} (h : Rep w L S) : ∀ b, L.U b → b < w.heap.size := by
  obtain ⟨A, D, ho, hc⟩ := h
  exact hc.uLt
theorem Rep.below {w w' : World} {L : Lay} {S : St} (h : Rep w L S) (hb : Below w.heap.size w w') : Rep w' L S :=
  h.kept (fun b hu => hb.block b (h.uLt b hu)) hb.size

/-- more blocks may be the disk's -/
theorem Core.wider {w : World} {L : Lay} {A : Nat → Value} {D : DataW Value} {S : St} (h : Core w L A D S) {U' : Nat → Prop} (hU : ∀ b, L.U b → U' b) (hlt : ∀ b, U' b → b < w.heap.size) : Core w { L with U := U' } A D S := by
  refine ⟨h.nb1, h.nb2, h.sz, h.fz, h.hp, ?_, h.mlen, h.clen, h.keys, h.hasK, h.at_, fun k hk' => (h.row k hk').wider hU, h.apart, h.offM, hU _ h.uP, hU _ h.uM, hU _ h.uC, hlt⟩
  obtain ⟨ms, h1, h2, h3⟩ := h.hm
  refine ⟨ms, h1, h2, fun i hi => ?_⟩
  obtain ⟨v, hv, hmed⟩ := h3 i hi
  exact ⟨v, hv, hmed.wider hU⟩

/-- the disk's own row is written -/
theorem Core.setDisk {w w' : World} {L : Lay} {A : Nat → Value} {D : DataW Value} {S : St} (h : Core w L A D S) (o : Bool) (f a b c d : Int) (hf : -1 ≤ f ∧ f ≤ 9223372036854775807)
    (hp : w'.heap[L.p]? = some (.cells (diskRow L { S with off := o, fuse := f, rd := a, wr := b, th := c, fl := d }) 60 (0, 0))) (hk : ∀ b, b ≠ L.p → w'.heap[b]? = w.heap[b]?) (hs : w.heap.size ≤ w'.heap.size) :
    Core w' L A D { S with off := o, fuse := f, rd := a, wr := b, th := c, fl := d } := by
  have piece : ∀ g l, PieceAt w g l → PieceAt w' g l := fun g l hp' => hp'.kept (hk g fun e => by
    subst e
    have := hp'.1
    rw [h.hp] at this
    simp at this)
  have rowB : ∀ k, k < S.nb → ∀ g, (A k).ownBlock = some g → w'.heap[g]? = w.heap[g]? := fun k hk' g hg => hk g fun e => by
    subst e
    obtain ⟨cs, hc⟩ := (h.row k hk').cellsAt hg
    rw [h.hp] at hc
    simp at hc
  refine ⟨h.nb1, h.nb2, h.sz, hf, hp, ?_, h.mlen, h.clen, h.keys, h.hasK, h.at_, fun k hk' => ?_, h.apart, h.offM, h.uP, h.uM, h.uC, fun b hb => Nat.lt_of_lt_of_le (h.uLt b hb) hs⟩
  · obtain ⟨ms, h1, h2, h3⟩ := h.hm
    refine ⟨ms, (hk _ fun e => ?_).trans h1, h2, fun i hi => ?_⟩
    · rw [e, h.hp] at h1; simp at h1
    · obtain ⟨v, hv, hmed⟩ := h3 i hi
      refine ⟨v, hv, ?_⟩
      show Med w' L.U v (S.med i)
      cases hq : S.med i with
      | none => rw [hq] at hmed; exact hmed
      | some l =>
        rw [hq] at hmed
        obtain ⟨g, e, hp', hu⟩ := hmed
        exact ⟨g, e, piece g l hp', hu⟩
  · obtain ⟨gs, r1, r2, r3, r4, r5⟩ := h.row k hk'
    exact ⟨gs, r1, ownsRow_keptIf r2 (rowB k hk'), fun i hi => ⟨piece _ _ (r3 i hi).1, (r3 i hi).2⟩, r4, r5⟩

/-- a block of the medium is written -/
theorem Core.setMed {w w' : World} {L : Lay} {A : Nat → Value} {D : DataW Value} {S : St} (h : Core w L A D S) {i : Nat} (hi : i < S.nb) (v : Value) (o : Option (List Nat)) (hv : Med w L.U v o) (hl : ∀ l, o = some l → l.length = S.sz)
    (hm : ∀ ms : Array Value, w.heap[L.mb]? = some (.cells ms 29 (0, 0)) → w'.heap[L.mb]? = some (.cells (ms.setIfInBounds i v) 29 (0, 0))) (hk : ∀ b, b ≠ L.mb → w'.heap[b]? = w.heap[b]?) (hs : w.heap.size ≤ w'.heap.size) :
    Core w' L A D { S with med := updF S.med i o } := by
  obtain ⟨ms, h1, h2, h3⟩ := h.hm
  have piece : ∀ g l, PieceAt w g l → PieceAt w' g l := fun g l hp' => hp'.kept (hk g fun e => by
    subst e
    have := hp'.1
    rw [h1] at this
    simp at this)
  have rowB : ∀ k, k < S.nb → ∀ g, (A k).ownBlock = some g → w'.heap[g]? = w.heap[g]? := fun k hk' g hg => hk g fun e => h.offM k hk' (e ▸ hg)
  have med' : ∀ v o, Med w L.U v o → Med w' L.U v o := fun v o hmed => by
    cases o with
    | none => exact hmed
    | some l =>
      obtain ⟨g, e, hp', hu⟩ := hmed
      exact ⟨g, e, piece g l hp', hu⟩
  refine ⟨h.nb1, h.nb2, h.sz, h.fz, (hk _ fun e => ?_).trans h.hp, ⟨_, hm ms h1, by simpa using h2, fun j hj => ?_⟩, fun j l hj hjl => ?_, h.clen, h.keys, h.hasK, h.at_, fun k hk' => ?_, h.apart, h.offM, h.uP, h.uM, h.uC, fun b hb => Nat.lt_of_lt_of_le (h.uLt b hb) hs⟩
  · have := h.hp
    rw [e, h1] at this
    simp at this
  · by_cases e : j = i
    · subst e
      refine ⟨v, ?_, ?_⟩
      · rw [Array.getElem?_setIfInBounds_self_of_lt (by omega)]
      · show Med w' L.U v (updF S.med j o j)
        rw [updF_same]
        exact med' _ _ hv
    · obtain ⟨u, hu, hmed⟩ := h3 j hj
      refine ⟨u, ?_, ?_⟩
      · rw [Array.getElem?_setIfInBounds_ne (by omega)]; exact hu
      · show Med w' L.U u (updF S.med i o j)
        rw [updF_other _ _ e]
        exact med' _ _ hmed
  · by_cases e : j = i
    · subst e
      exact hl l (by simpa [updF_same] using hjl)
    · exact h.mlen j l hj (by simpa [updF_other _ _ e] using hjl)
  · obtain ⟨gs, r1, r2, r3, r4, r5⟩ := h.row k hk'
    exact ⟨gs, r1, ownsRow_keptIf r2 (rowB k hk'), fun i hi => ⟨piece _ _ (r3 i hi).1, (r3 i hi).2⟩, r4, r5⟩

theorem kL_inj {k j : Nat} (h : kL k = kL j) : k = j := by simp [kL] at h; omega
theorem kL_key (k : Nat) (hk : k < 9223372036854775808) : WideAt.IsKeyLit (kL k) := by
  trivial

/-- a key is forgotten -/
theorem Core.drop {w w' : World} {L : Lay} {A : Nat → Value} {D : DataW Value} {S : St} (h : Core w L A D S) {i : Nat} (hi : i < S.nb) (hcb : ∃ es c, w.heap[L.cb]? = some (.map es c)) (hk : ∀ b, b ≠ L.cb → w'.heap[b]? = w.heap[b]?) (hs : w.heap.size ≤ w'.heap.size) :
    Core w' L (updF A i nilS) (D.del (kL i)) { S with cache := updF S.cache i [] } := by
  obtain ⟨es, c, hcb⟩ := hcb
  have hkc : ∀ (g : Nat) (cs : Array Value) (t : TypeId), w.heap[g]? = some (Obj.cells cs t (0, 0)) → w'.heap[g]? = w.heap[g]? := fun g cs t hg => hk g fun e => by
    rw [e, hcb] at hg; simp at hg
  have piece : ∀ g l, PieceAt w g l → PieceAt w' g l := fun g l hp' => hp'.kept (hkc g _ _ hp'.1)
  obtain ⟨ms, h1, h2, h3⟩ := h.hm
  refine ⟨h.nb1, h.nb2, h.sz, h.fz, (hkc _ _ _ h.hp).trans h.hp, ⟨ms, (hkc _ _ _ h1).trans h1, h2, fun j hj => ?_⟩, h.mlen, fun j l hj hjl => ?_, fun kl hkl => ?_, fun j hj => ?_, fun j hj => ?_, fun k hk' => ?_, fun a b ha hb hab g hg => ?_, fun k hk' => ?_, h.uP, h.uM, h.uC, fun b hb => Nat.lt_of_lt_of_le (h.uLt b hb) hs⟩
  · obtain ⟨v, hv, hmed⟩ := h3 j hj
    refine ⟨v, hv, ?_⟩
    show Med w' L.U v (S.med j)
    cases hq : S.med j with
    | none => rw [hq] at hmed; exact hmed
    | some l =>
      rw [hq] at hmed
      obtain ⟨g, e, hp', hu⟩ := hmed
      exact ⟨g, e, piece g l hp', hu⟩
  · by_cases e : j = i
    · subst e; simp [updF_same] at hjl
    · exact h.clen j l hj (by simpa [updF_other _ _ e] using hjl)
  · by_cases e : kl = kL i
    · subst e; rw [has_del_same] at hkl; simp at hkl
    · rw [has_del_other e] at hkl; exact h.keys kl hkl
  · show has (D.del (kL i)) (kL j) = true ↔ updF S.cache i [] j ≠ []
    by_cases e : j = i
    · subst e; rw [has_del_same, updF_same]; simp
    · rw [has_del_other (fun e2 => e (kL_inj e2)), updF_other _ _ e]; exact h.hasK j hj
  · by_cases e : j = i
    · subst e; rw [atKey_del_same, updF_same]
    · rw [atKey_del_other (fun e2 => e (kL_inj e2)), updF_other _ _ e]; exact h.at_ j hj
  · show Row w' L.U (updF A i nilS k) (updF S.cache i [] k)
    by_cases e : k = i
    · subst e
      rw [updF_same, updF_same]
      exact ⟨[], rfl, World.ownsRow_nil w' 0 29 1, by simp, by simp [nilS, Value.ownBlock], fun _ => rfl⟩
    · rw [updF_other _ _ e, updF_other _ _ e]
      obtain ⟨gs, r1, r2, r3, r4, r5⟩ := h.row k hk'
      exact ⟨gs, r1, ownsRow_keptIf r2 fun g hg => by obtain ⟨cs, hc⟩ := (h.row k hk').cellsAt hg; exact hkc _ _ _ hc, fun i hi => ⟨piece _ _ (r3 i hi).1, (r3 i hi).2⟩, r4, r5⟩
  · by_cases e : a = i
    · subst e; rw [updF_same] at hg; simp [nilS, Value.ownBlock] at hg
    · rw [updF_other _ _ e] at hg
      by_cases e2 : b = i
      · subst e2; rw [updF_same]; simp [nilS, Value.ownBlock]
      · rw [updF_other _ _ e2]; exact h.apart a b ha hb hab g hg
  · by_cases e : k = i
    · subst e; rw [updF_same]; simp [nilS, Value.ownBlock]
    · rw [updF_other _ _ e]; exact h.offM k hk'

/-- no more keys than blocks -/
theorem nodup_lt_length : ∀ (n : Nat) (l : List Nat), l.Nodup → (∀ x ∈ l, x < n) → l.length ≤ n
  | 0, l, _, h => by
    cases l with
    | nil => simp
    | cons x r => exact absurd (h x (.head _)) (by omega)
  | n + 1, l, hn, h => by
    have h1 := nodup_lt_length n (l.erase n) (hn.erase n) fun x hx => by
      have := (hn.mem_erase_iff).1 hx
      have := h x this.2
      omega
    rw [List.length_erase] at h1
    split at h1 <;> omega

theorem kInt : Keyed Tryd.prog 3 := int_keyed Tryd.underlying3

theorem size_le_nb {w : World} {b n : Nat} {D : DataW Value} {nb : Nat} (h : w.ownsMap Tryd.prog 3 Rv b n D) (hk : ∀ kl, has D kl = true → ∃ k, k < nb ∧ kl = kL k) : Maps.size D ≤ nb := by
  obtain ⟨es, rfl, hp, hkey⟩ := h.entries kInt
  have hin : ∀ p ∈ es, ∃ k, k < nb ∧ p.1 = kL k := fun p hp' => hk _ (List.any_eq_true.2 ⟨p, hp', WideAt.sameKey_self (hkey p hp')⟩)
  show es.length ≤ nb
  have hnum : ∀ l : List (Lit × DataW Value), (∀ p ∈ l, ∃ k, k < nb ∧ p.1 = kL k) → l.Pairwise (fun p q => p.1 ≠ q.1) → ∃ ks : List Nat, ks.length = l.length ∧ ks.Nodup ∧ (∀ x ∈ ks, x < nb ∧ ∃ p ∈ l, p.1 = kL x) := by
    intro l
    induction l with
    | nil => intro _ _; exact ⟨[], rfl, List.nodup_nil, by simp⟩
    | cons p r ih =>
      intro h1 h2
      obtain ⟨h3, h4⟩ := List.pairwise_cons.1 h2
      obtain ⟨ks, e1, e2, e3⟩ := ih (fun q hq => h1 q (.tail _ hq)) h4
      obtain ⟨k, hk1, hk2⟩ := h1 p (.head _)
      refine ⟨k :: ks, by simp [e1], List.nodup_cons.2 ⟨fun hm => ?_, e2⟩, fun x hx => ?_⟩
      · obtain ⟨_, q, hq, e⟩ := e3 k hm
        exact h3 q hq (by rw [hk2, e])
      · rcases List.mem_cons.1 hx with rfl | hx
        · exact ⟨hk1, p, .head _, hk2⟩
        · obtain ⟨a, q, hq, e⟩ := e3 x hx
          exact ⟨a, q, .tail _ hq, e⟩
  obtain ⟨ks, e1, e2, e3⟩ := hnum es hin hp
  rw [← e1]
  exact nodup_lt_length nb ks e2 fun x hx => (e3 x hx).1

theorem ownsMap_tight {w : World} {b n : Nat} {D : DataW Value} (h : w.ownsMap Tryd.prog 3 Rv b n D) : w.ownsMap Tryd.prog 3 Rv b (Maps.size D) D := by
  obtain ⟨es, clock, hb, F, hs, rfl⟩ := h
  exact ⟨es, clock, hb, F, by simp [Maps.size, length_sorted], rfl⟩
end Go.Proofs.YtepgiomgkgfioaaDoor.K
