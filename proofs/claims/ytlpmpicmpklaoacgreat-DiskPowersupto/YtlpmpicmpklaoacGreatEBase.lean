import Derived.Test.YtlpmpicmpklaoacGreatDKeys
import Derived.Test.YtlpmpicmpklaoacGreatDLoad
namespace Go.Proofs.YtlpmpicmpklaoacGreat
open Go.RowKit Go.Maps
set_option linter.unusedVariables false
set_option linter.unusedSimpArgs false
set_option maxRecDepth 20000

/-- bytes, and where they lie -/
structure Pc where
  g : Nat
  l : List Nat
/-- the document's disk -/
structure RSt where
  nb : Nat
  sz : Nat
  med : Nat → Pc
  sp : Nat → Bool
  items : List (Nat × Pc)
  on : Bool
  left : Int
  rd : Int
  wr : Int
  th : Int
  fl : Int
  wh : Int
/-- where it lies -/
structure RLay where
  p : Nat
  mb : Nat
  mc : Nat
  sb : Nat
  sc : Nat
  cv : Value
  U : Nat → Prop
def itemVals (sz : Nat) (xs : List (Nat × Pc)) : List Value := xs.flatMap fun x => [.int .i64 (x.1 : Int), sl x.2.g sz]
theorem itemVals_snoc (sz : Nat) (xs : List (Nat × Pc)) (x : Nat × Pc) : itemVals sz (xs ++ [x]) = itemVals sz xs ++ [.int .i64 (x.1 : Int), sl x.2.g sz] := by simp [itemVals]
theorem itemVals_len (sz : Nat) : ∀ xs : List (Nat × Pc), (itemVals sz xs).length = xs.length * 2
  | [] => rfl
  | x :: r => by
    have := itemVals_len sz r
    simp only [itemVals, List.flatMap_cons, List.length_append, List.length_cons, List.length_nil] at *
    omega
theorem itemVals_at (sz : Nat) : ∀ (xs : List (Nat × Pc)) (i : Nat) (h : i < xs.length), (itemVals sz xs)[i * 2]? = some (.int .i64 (xs[i].1 : Int)) ∧ (itemVals sz xs)[i * 2 + 1]? = some (sl xs[i].2.g sz)
  | x :: r, 0, h => ⟨rfl, rfl⟩
  | x :: r, i + 1, h => by
    have := itemVals_at sz r i (by simpa using h)
    have e : itemVals sz (x :: r) = .int .i64 (x.1 : Int) :: sl x.2.g sz :: itemVals sz r := rfl
    rw [e, show (i + 1) * 2 = i * 2 + 1 + 1 from by omega]
    simpa using this
def refRow (L : RLay) (S : RSt) : Array Value := #[.int .i64 (S.nb : Int), .int .i64 (S.sz : Int), .slice (some ⟨L.mb, 0, none⟩) S.nb L.mc, .slice (some ⟨L.sb, 0, none⟩) S.nb L.sc, L.cv, .bool S.on, .int .i64 S.left, .int .i64 S.rd, .int .i64 S.wr, .int .i64 S.th, .int .i64 S.fl, .int .i64 S.wh]
def PR (L : RLay) : Value := .pointer (some ⟨L.p, 0, none⟩)
structure Pc.ok (w : World) (U : Nat → Prop) (sz : Nat) (x : Pc) : Prop where
  pc : PieceAt w x.g x.l
  len : x.l.length = sz
  u : U x.g
theorem Pc.ok.kept {w w' : World} {U U' : Nat → Prop} {sz : Nat} {x : Pc} (h : x.ok w U sz) (hk : w'.heap[x.g]? = w.heap[x.g]?) (hu : U x.g → U' x.g) : x.ok w' U' sz := ⟨h.pc.kept hk, h.len, hu h.u⟩

structure RRep (w : World) (L : RLay) (S : RSt) : Prop where
  nb1 : 1 ≤ S.nb
  nb2 : S.nb ≤ 8192
  szs : S.sz = 128 ∨ S.sz = 256 ∨ S.sz = 512 ∨ S.sz = 1024
  lf : -9223372036854775808 ≤ S.left ∧ S.left ≤ 9223372036854775807
  hp : w.heap[L.p]? = some (.cells (refRow L S) 72 (0, 0))
  hm : ∃ ms : Array Value, w.heap[L.mb]? = some (.cells ms 22 (0, 0)) ∧ ms.size = L.mc ∧ ∀ i, i < S.nb → ms[i]? = some (sl (S.med i).g S.sz)
  mc : S.nb ≤ L.mc ∧ L.mc ≤ maxLen
  hs : ∃ ss : Array Value, w.heap[L.sb]? = some (.cells ss 4 (0, 0)) ∧ ss.size = L.sc ∧ ∀ i, i < S.nb → ss[i]? = some (.bool (S.sp i))
  sc : S.nb ≤ L.sc ∧ L.sc ≤ maxLen
  pm : ∀ i, i < S.nb → (S.med i).ok w L.U S.sz
  hc : w.ownsRow 0 114 2 L.cv S.items.length (itemVals S.sz S.items)
  uc : ∀ g, L.cv.ownBlock = some g → L.U g
  pi : ∀ x ∈ S.items, x.1 < S.nb ∧ x.2.ok w L.U S.sz
  uP : L.U L.p
  uM : L.U L.mb
  uS : L.U L.sb
  uLt : ∀ b, L.U b → b < w.heap.size

theorem rowKept {w w' : World} {base c : Nat} {e : TypeId} {v : Value} {n : Nat} {xs : List Value} (h : w.ownsRow base e c v n xs) (hk : ∀ g, v.ownBlock = some g → w'.heap[g]? = w.heap[g]?) : w'.ownsRow base e c v n xs := by
  refine ⟨h.1, ?_⟩
  rcases h.2 with h0 | ⟨g, cap, cur, rfl, h1, hg, r⟩
  · exact .inl h0
  · exact .inr ⟨g, cap, cur, rfl, h1, by rw [hk g rfl]; exact hg, r⟩
theorem rowCells {w : World} {base c : Nat} {e : TypeId} {v : Value} {n : Nat} {xs : List Value} (h : w.ownsRow base e c v n xs) {g : Nat} (hg : v.ownBlock = some g) : ∃ cs, w.heap[g]? = some (.cells cs e (0, 0)) := by
  rcases h.2 with ⟨rfl, _⟩ | ⟨g', cap, cur, rfl, _, hh, _⟩
  · simp [Value.ownBlock] at hg
  · simp only [Value.ownBlock, Option.some.injEq] at hg
    subst hg
    exact ⟨cur, hh⟩
theorem rowForm {w : World} {base c : Nat} {e : TypeId} {v : Value} {n : Nat} {xs : List Value} (h : w.ownsRow base e c v n xs) : ∃ a cap, v = .slice a n cap ∧ n ≤ cap ∧ cap ≤ maxLen := by
  rcases h.2 with ⟨rfl, rfl⟩ | ⟨g, cap, cur, rfl, _, _, h1, h2, _⟩
  · exact ⟨_, _, rfl, Nat.le_refl _, Nat.zero_le _⟩
  · exact ⟨_, _, rfl, h1, h2⟩
theorem rowAt {w : World} {base c : Nat} {e : TypeId} {a : Option Addr} {n cap : Nat} {xs : List Value} (h : w.ownsRow base e c (.slice a n cap) n xs) (h0 : 0 < n) : ∃ g, a = some ⟨g, 0, none⟩ ∧ ∀ i u, xs[i]? = some u → w.cell? ⟨g, i, none⟩ = some u := by
  rcases h.2 with ⟨_, e⟩ | ⟨g, cap', cur, e, _, hh, _, _, _, ht⟩
  · omega
  · simp only [Value.slice.injEq] at e
    obtain ⟨rfl, -, -⟩ := e
    refine ⟨g, rfl, fun i u hu => ?_⟩
    rw [cell_of_row _ _ _ _ _ _ hh]
    rw [← ht, List.getElem?_take] at hu
    split at hu
    · rw [← Array.getElem?_toList]; exact hu
    · simp at hu
theorem neType {w : World} {g g' : Nat} {cs ds : Array Value} {t t' : TypeId} (h : w.heap[g]? = some (.cells cs t (0, 0))) (h' : w.heap[g']? = some (.cells ds t' (0, 0))) (ne : t ≠ t') : g ≠ g' := fun e => by
  rw [e, h'] at h
  simp only [Option.some.injEq, Obj.cells.injEq] at h
  exact ne h.2.1.symm

theorem RRep.kept {w w' : World} {L : RLay} {S : RSt} (h : RRep w L S) (hk : ∀ b, L.U b → w'.heap[b]? = w.heap[b]?) (hs : w.heap.size ≤ w'.heap.size) : RRep w' L S := by
  obtain ⟨ms, m1, m2, m3⟩ := h.hm
  obtain ⟨ss, s1, s2, s3⟩ := h.hs
  exact ⟨h.nb1, h.nb2, h.szs, h.lf, (hk _ h.uP).trans h.hp, ⟨ms, (hk _ h.uM).trans m1, m2, m3⟩, h.mc, ⟨ss, (hk _ h.uS).trans s1, s2, s3⟩, h.sc,
    fun i hi => (h.pm i hi).kept (hk _ (h.pm i hi).u) id, rowKept h.hc fun g hg => hk g (h.uc g hg), h.uc, fun x hx => ⟨(h.pi x hx).1, (h.pi x hx).2.kept (hk _ (h.pi x hx).2.u) id⟩, h.uP, h.uM, h.uS, fun b hb => Nat.lt_of_lt_of_le (h.uLt b hb) hs⟩
theorem RRep.below {w w' : World} {L : RLay} {S : RSt} (h : RRep w L S) (hb : Below w.heap.size w w') : RRep w' L S := h.kept (fun b hu => hb.block b (h.uLt b hu)) hb.size
theorem RRep.wider {w : World} {L : RLay} {S : RSt} (h : RRep w L S) {U' : Nat → Prop} (hU : ∀ b, L.U b → U' b) (hlt : ∀ b, U' b → b < w.heap.size) : RRep w { L with U := U' } S :=
  ⟨h.nb1, h.nb2, h.szs, h.lf, h.hp, h.hm, h.mc, h.hs, h.sc, fun i hi => (h.pm i hi).kept rfl (hU _), h.hc, fun g hg => hU g (h.uc g hg), fun x hx => ⟨(h.pi x hx).1, (h.pi x hx).2.kept rfl (hU _)⟩, hU _ h.uP, hU _ h.uM, hU _ h.uS, hlt⟩
theorem RRep.pieceNe {w : World} {L : RLay} {S : RSt} (h : RRep w L S) {g : Nat} {l : List Nat} (hp : PieceAt w g l) : g ≠ L.p ∧ g ≠ L.mb ∧ g ≠ L.sb := by
  obtain ⟨ms, m1, -⟩ := h.hm
  obtain ⟨ss, s1, -⟩ := h.hs
  exact ⟨neType hp.1 h.hp (by decide), neType hp.1 m1 (by decide), neType hp.1 s1 (by decide)⟩
theorem RRep.cacheNe {w : World} {L : RLay} {S : RSt} (h : RRep w L S) {g : Nat} (hg : L.cv.ownBlock = some g) : g ≠ L.p ∧ g ≠ L.mb ∧ g ≠ L.sb := by
  obtain ⟨ms, m1, -⟩ := h.hm
  obtain ⟨ss, s1, -⟩ := h.hs
  obtain ⟨cs, hc⟩ := rowCells h.hc hg
  exact ⟨neType hc h.hp (by decide), neType hc m1 (by decide), neType hc s1 (by decide)⟩

/-- the disk's own row is written -/
theorem RRep.store {w : World} {L : RLay} {S : RSt} (h : RRep w L S) (i : Nat) (v : Value) (o : Bool) (f a b c d e : Int) (hf : -9223372036854775808 ≤ f ∧ f ≤ 9223372036854775807)
    (hrow : (refRow L S).setIfInBounds i v = refRow L { S with on := o, left := f, rd := a, wr := b, th := c, fl := d, wh := e }) :
    RRep (w.setCell ⟨L.p, i, none⟩ v) L { S with on := o, left := f, rd := a, wr := b, th := c, fl := d, wh := e } ∧ Grow w (w.setCell ⟨L.p, i, none⟩ v) L.U L.U ∧ (w.setCell ⟨L.p, i, none⟩ v).heap.size = w.heap.size := by
  have hk : ∀ b, b ≠ L.p → (w.setCell ⟨L.p, i, none⟩ v).heap[b]? = w.heap[b]? := fun b hb => Go.heap_setCell_other _ _ _ _ hb
  have hz : (w.setCell ⟨L.p, i, none⟩ v).heap.size = w.heap.size := by simp [World.setCell]
  obtain ⟨ms, m1, m2, m3⟩ := h.hm
  obtain ⟨ss, s1, s2, s3⟩ := h.hs
  refine ⟨⟨h.nb1, h.nb2, h.szs, hf, ?_, ⟨ms, (hk _ (neType m1 h.hp (by decide))).trans m1, m2, m3⟩, h.mc, ⟨ss, (hk _ (neType s1 h.hp (by decide))).trans s1, s2, s3⟩, h.sc,
    fun i hi => (h.pm i hi).kept (hk _ (h.pieceNe (h.pm i hi).pc).1) id, rowKept h.hc fun g hg => hk g (h.cacheNe hg).1, h.uc, fun x hx => ⟨(h.pi x hx).1, (h.pi x hx).2.kept (hk _ (h.pieceNe (h.pi x hx).2.pc).1) id⟩, h.uP, h.uM, h.uS, fun b hb => by rw [hz]; exact h.uLt b hb⟩,
    ⟨rfl, rfl, rfl, Nat.le_of_eq hz.symm, fun b _ hu => hk b fun e => hu (e ▸ h.uP), fun _ _ h => h, fun _ h => h⟩, hz⟩
  rw [← hrow]
  exact Go.heap_setCell_same w L.p i _ 72 _ h.hp
/-- the list of cached writes is set -/
theorem RRep.storeC {w : World} {L : RLay} {S : RSt} (h : RRep w L S) (cv : Value) (its : List (Nat × Pc)) (hc : w.ownsRow 0 114 2 cv its.length (itemVals S.sz its)) (uc : ∀ g, cv.ownBlock = some g → L.U g) (pi : ∀ x ∈ its, x.1 < S.nb ∧ x.2.ok w L.U S.sz) :
    RRep (w.setCell ⟨L.p, 4, none⟩ cv) { L with cv := cv } { S with items := its } ∧ Grow w (w.setCell ⟨L.p, 4, none⟩ cv) L.U L.U ∧ (w.setCell ⟨L.p, 4, none⟩ cv).heap.size = w.heap.size := by
  have hk : ∀ b, b ≠ L.p → (w.setCell ⟨L.p, 4, none⟩ cv).heap[b]? = w.heap[b]? := fun b hb => Go.heap_setCell_other _ _ _ _ hb
  have hz : (w.setCell ⟨L.p, 4, none⟩ cv).heap.size = w.heap.size := by simp [World.setCell]
  obtain ⟨ms, m1, m2, m3⟩ := h.hm
  obtain ⟨ss, s1, s2, s3⟩ := h.hs
  refine ⟨⟨h.nb1, h.nb2, h.szs, h.lf, ?_, ⟨ms, (hk _ (neType m1 h.hp (by decide))).trans m1, m2, m3⟩, h.mc, ⟨ss, (hk _ (neType s1 h.hp (by decide))).trans s1, s2, s3⟩, h.sc,
    fun i hi => (h.pm i hi).kept (hk _ (h.pieceNe (h.pm i hi).pc).1) id, rowKept hc fun g hg => hk g ?_, uc, fun x hx => ⟨(pi x hx).1, (pi x hx).2.kept (hk _ (h.pieceNe (pi x hx).2.pc).1) id⟩, h.uP, h.uM, h.uS, fun b hb => by rw [hz]; exact h.uLt b hb⟩,
    ⟨rfl, rfl, rfl, Nat.le_of_eq hz.symm, fun b _ hu => hk b fun e => hu (e ▸ h.uP), fun _ _ h => h, fun _ h => h⟩, hz⟩
  · exact Go.heap_setCell_same w L.p 4 _ 72 _ h.hp
  · obtain ⟨cs, hcs⟩ := rowCells hc hg
    exact neType hcs h.hp (by decide)
/-- a block of the medium is set -/
theorem RRep.setMed {w : World} {L : RLay} {S : RSt} (h : RRep w L S) {k : Nat} (hk' : k < S.nb) (x : Pc) (hx : x.ok w L.U S.sz) :
    RRep (w.setCell ⟨L.mb, k, none⟩ (sl x.g S.sz)) L { S with med := updF S.med k x } ∧ Grow w (w.setCell ⟨L.mb, k, none⟩ (sl x.g S.sz)) L.U L.U ∧ (w.setCell ⟨L.mb, k, none⟩ (sl x.g S.sz)).heap.size = w.heap.size := by
  have hk : ∀ b, b ≠ L.mb → (w.setCell ⟨L.mb, k, none⟩ (sl x.g S.sz)).heap[b]? = w.heap[b]? := fun b hb => Go.heap_setCell_other _ _ _ _ hb
  have hz : (w.setCell ⟨L.mb, k, none⟩ (sl x.g S.sz)).heap.size = w.heap.size := by simp [World.setCell]
  obtain ⟨ms, m1, m2, m3⟩ := h.hm
  obtain ⟨ss, s1, s2, s3⟩ := h.hs
  refine ⟨⟨h.nb1, h.nb2, h.szs, h.lf, (hk _ (neType h.hp m1 (by decide))).trans h.hp, ⟨_, Go.heap_setCell_same w L.mb k _ 22 _ m1, by simpa using m2, fun i hi => ?_⟩, h.mc, ⟨ss, (hk _ (neType s1 m1 (by decide))).trans s1, s2, s3⟩, h.sc,
    fun i hi => ?_, rowKept h.hc fun g hg => hk g (h.cacheNe hg).2.1, h.uc, fun x hx => ⟨(h.pi x hx).1, (h.pi x hx).2.kept (hk _ (h.pieceNe (h.pi x hx).2.pc).2.1) id⟩, h.uP, h.uM, h.uS, fun b hb => by rw [hz]; exact h.uLt b hb⟩,
    ⟨rfl, rfl, rfl, Nat.le_of_eq hz.symm, fun b _ hu => hk b fun e => hu (e ▸ h.uM), fun _ _ h => h, fun _ h => h⟩, hz⟩
  · show _ = some (sl (updF S.med k x i).g S.sz)
    by_cases e : i = k
    · subst e
      rw [updF_same, Array.getElem?_setIfInBounds_self_of_lt (by have := h.mc.1; omega)]
    · rw [updF_other _ _ e, Array.getElem?_setIfInBounds_ne (by omega)]; exact m3 i hi
  · show (updF S.med k x i).ok _ L.U S.sz
    by_cases e : i = k
    · subst e
      rw [updF_same]; exact hx.kept (hk _ (h.pieceNe hx.pc).2.1) id
    · rw [updF_other _ _ e]; exact (h.pm i hi).kept (hk _ (h.pieceNe (h.pm i hi).pc).2.1) id
/-- whether a block is spoilt is set -/
theorem RRep.setSp {w : World} {L : RLay} {S : RSt} (h : RRep w L S) {k : Nat} (hk' : k < S.nb) (x : Bool) :
    RRep (w.setCell ⟨L.sb, k, none⟩ (.bool x)) L { S with sp := updF S.sp k x } ∧ Grow w (w.setCell ⟨L.sb, k, none⟩ (.bool x)) L.U L.U ∧ (w.setCell ⟨L.sb, k, none⟩ (.bool x)).heap.size = w.heap.size := by
  have hk : ∀ b, b ≠ L.sb → (w.setCell ⟨L.sb, k, none⟩ (.bool x)).heap[b]? = w.heap[b]? := fun b hb => Go.heap_setCell_other _ _ _ _ hb
  have hz : (w.setCell ⟨L.sb, k, none⟩ (.bool x)).heap.size = w.heap.size := by simp [World.setCell]
  obtain ⟨ms, m1, m2, m3⟩ := h.hm
  obtain ⟨ss, s1, s2, s3⟩ := h.hs
  refine ⟨⟨h.nb1, h.nb2, h.szs, h.lf, (hk _ (neType h.hp s1 (by decide))).trans h.hp, ⟨ms, (hk _ (neType m1 s1 (by decide))).trans m1, m2, m3⟩, h.mc, ⟨_, Go.heap_setCell_same w L.sb k _ 4 _ s1, by simpa using s2, fun i hi => ?_⟩, h.sc,
    fun i hi => (h.pm i hi).kept (hk _ (h.pieceNe (h.pm i hi).pc).2.2) id, rowKept h.hc fun g hg => hk g (h.cacheNe hg).2.2, h.uc, fun x hx => ⟨(h.pi x hx).1, (h.pi x hx).2.kept (hk _ (h.pieceNe (h.pi x hx).2.pc).2.2) id⟩, h.uP, h.uM, h.uS, fun b hb => by rw [hz]; exact h.uLt b hb⟩,
    ⟨rfl, rfl, rfl, Nat.le_of_eq hz.symm, fun b _ hu => hk b fun e => hu (e ▸ h.uS), fun _ _ h => h, fun _ h => h⟩, hz⟩
  show _ = some (Value.bool (updF S.sp k x i))
  by_cases e : i = k
  · subst e
    rw [updF_same, Array.getElem?_setIfInBounds_self_of_lt (by have := h.sc.1; omega)]
  · rw [updF_other _ _ e, Array.getElem?_setIfInBounds_ne (by omega)]; exact s3 i hi

theorem RRep.cell {w : World} {L : RLay} {S : RSt} (h : RRep w L S) (i : Nat) : w.cell? ⟨L.p, i, none⟩ = (refRow L S)[i]? := cell_of_row _ _ _ _ _ _ h.hp
theorem RRep.free {w : World} {L : RLay} {S : RSt} (h : RRep w L S) (i : Nat) : w.frozen? ⟨L.p, i, none⟩ = false := frozen_of_row _ _ _ _ 72 h.hp
theorem RRep.medAt {w : World} {L : RLay} {S : RSt} (h : RRep w L S) {k : Nat} (hk : k < S.nb) : w.cell? ⟨L.mb, k, none⟩ = some (sl (S.med k).g S.sz) ∧ w.frozen? ⟨L.mb, k, none⟩ = false := by
  obtain ⟨ms, m1, m2, m3⟩ := h.hm
  exact ⟨by rw [cell_of_row _ _ _ _ _ _ m1]; exact m3 k hk, frozen_of_row _ _ _ _ 22 m1⟩
theorem RRep.spAt {w : World} {L : RLay} {S : RSt} (h : RRep w L S) {k : Nat} (hk : k < S.nb) : w.cell? ⟨L.sb, k, none⟩ = some (.bool (S.sp k)) ∧ w.frozen? ⟨L.sb, k, none⟩ = false := by
  obtain ⟨ss, s1, s2, s3⟩ := h.hs
  exact ⟨by rw [cell_of_row _ _ _ _ _ _ s1]; exact s3 k hk, frozen_of_row _ _ _ _ 4 s1⟩
theorem RRep.itemAt {w : World} {L : RLay} {S : RSt} (h : RRep w L S) {i : Nat} (hi : i < S.items.length) : ∃ g cap, L.cv = .slice (some ⟨g, 0, none⟩) S.items.length cap ∧ S.items.length ≤ cap ∧ cap ≤ maxLen ∧ w.cell? ⟨g, i * 2, none⟩ = some (.int .i64 (S.items[i].1 : Int)) ∧ w.cell? ⟨g, i * 2 + 1, none⟩ = some (sl S.items[i].2.g S.sz) := by
  obtain ⟨a, cap, e, h1, h2⟩ := rowForm h.hc
  have hh := h.hc
  rw [e] at hh
  obtain ⟨g, rfl, hcell⟩ := rowAt hh (by omega)
  obtain ⟨i1, i2⟩ := itemVals_at S.sz S.items i hi
  exact ⟨g, cap, e, h1, h2, hcell _ _ i1, hcell _ _ i2⟩
end Go.Proofs.YtlpmpicmpklaoacGreat
