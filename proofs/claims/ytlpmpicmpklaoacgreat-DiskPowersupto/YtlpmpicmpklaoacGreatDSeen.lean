import Derived.Test.YtlpmpicmpklaoacGreatDLaw1
import Derived.Test.YtlpmpicmpklaoacGreatDPut
namespace Go.Proofs.YtlpmpicmpklaoacGreat
open Go.RowKit Go.Maps
set_option linter.unusedVariables false
set_option linter.unusedSimpArgs false
set_option maxRecDepth 20000

/-- what Read tells of the first n blocks -/
def St.rdV (S : St) (k : Nat) : Option (List Nat) := if S.off = true then none else S.val k
def St.rdE (S : St) (k : Nat) : Int := S.readErr k
def St.reads (S : St) : Nat → St
  | 0 => S
  | n + 1 => (S.reads n).read n

def St.like (S T : St) : Prop := T.nb = S.nb ∧ T.sz = S.sz ∧ T.med = S.med ∧ T.cache = S.cache ∧ T.off = S.off ∧ T.fuse = S.fuse
theorem read_like (S : St) (b : Int) : S.like (S.read b) := by
  unfold St.read
  split
  · exact ⟨rfl, rfl, rfl, rfl, rfl, rfl⟩
  · exact ⟨rfl, rfl, rfl, rfl, rfl, rfl⟩
theorem reads_same (S : St) : ∀ n, S.like (S.reads n)
  | 0 => ⟨rfl, rfl, rfl, rfl, rfl, rfl⟩
  | n + 1 => by
    obtain ⟨a1, a2, a3, a4, a5, a6⟩ := reads_same S n
    obtain ⟨b1, b2, b3, b4, b5, b6⟩ := read_like (S.reads n) n
    exact ⟨b1.trans a1, b2.trans a2, b3.trans a3, b4.trans a4, b5.trans a5, b6.trans a6⟩
theorem reads_err (S : St) (n k : Nat) : (S.reads n).readErr k = S.readErr k ∧ (S.reads n).val k = S.val k := by
  obtain ⟨h1, h2, h3, h4, h5, h6⟩ := reads_same S n
  have hv : (S.reads n).val k = S.val k := by simp only [St.val, h3, h4]
  refine ⟨?_, hv⟩
  simp only [St.readErr, h1, h5, Int.toNat_natCast, hv]

/-- what was seen of a block: bytes or none -/
def SeenV (w : World) (U : Nat → Prop) (v : Value) : Option (List Nat) → Prop
  | none => v = nilS
  | some l => ∃ g, v = sl g l.length ∧ PieceAt w g l ∧ ¬ U g
def intV (n : Int) : Value := .int .i64 n
/-- what 'seen' has told, in memory that no disk holds -/
structure SeenAt (w : World) (U : Nat → Prop) (bv ev : Value) (xs : List (Option (List Nat))) (es : List Int) : Prop where
  len : es.length = xs.length
  vals : ∃ vs : List Value, w.ownsRow 0 22 1 bv xs.length vs ∧ ∀ (i : Nat) (v : Value) (o : Option (List Nat)), vs[i]? = some v → xs[i]? = some o → SeenV w U v o
  ints : w.ownsRow 0 3 1 ev xs.length (es.map intV)
  ub : ∀ g, bv.ownBlock = some g → ¬ U g
  ue : ∀ g, ev.ownBlock = some g → ¬ U g

theorem trouble_any {w0 w : World} {U : Nat → Prop} {u : Value} {b n : Int} (h : ErrIs w0 w U u b n) : Calls Tryz.prog 25 #[u] w fun e w' => ∃ x, e = .returned (.tuple #[.int .i64 n, .int .i64 x]) ∧ ∃ k, w' = w.drewN k := by
  rcases h with ⟨rfl, rfl⟩ | ⟨_, g, rfl, _, hg, _⟩
  · refine (trouble_nil w).mono ?_
    rintro e w' ⟨rfl, rfl⟩
    exact ⟨-1, rfl, 0, rfl⟩
  · refine (trouble_err w g b n hg).mono ?_
    rintro e w' ⟨rfl, k, rfl⟩
    exact ⟨b, rfl, k, rfl⟩
theorem SeenV.one {w : World} {U : Nat → Prop} {v : Value} {o : Option (List Nat)} (h : SeenV w U v o) : ∃ a n c, v = .slice a n c := by
  cases o with
  | none => exact ⟨none, 0, 0, h⟩
  | some l => obtain ⟨g, e, _⟩ := h; exact ⟨_, _, _, e⟩
theorem rdV_of {w w' : World} {L : Lay} {S : St} {k : Nat} (hk : k < S.nb) {v : Value} (h0 : S.readErr k = 0 → ∃ l, S.val k = some l ∧ Fresh w w' L.U v l) (h1 : S.readErr k ≠ 0 → v = nilS) : SeenV w' L.U v (S.rdV k) := by
  by_cases h : S.readErr k = 0
  · obtain ⟨l, hl, g, e, _, hp, hu⟩ := h0 h
    have hof : S.off = false := by
      cases hq : S.off with
      | false => rfl
      | true =>
        simp [St.readErr, hq] at h
        omega
    have : S.rdV k = some l := by simp [St.rdV, hof, hl]
    rw [this]
    exact ⟨g, e, hp, hu⟩
  · have hv := h1 h
    have : S.rdV k = none := by
      unfold St.rdV
      cases hq : S.off with
      | true => rfl
      | false =>
        cases hz : S.val k with
        | none => rfl
        | some l => exact absurd (by simp [St.readErr, hq, hz]; omega) h
    rw [this]
    exact hv

theorem rdV_wide {w w' : World} {L : Lay} {V : Nat → Prop} {S : St} {k : Nat} (hV : ∀ b, V b → b < w.heap.size) (hk : k < S.nb) {v : Value} (h0 : S.readErr k = 0 → ∃ l, S.val k = some l ∧ Fresh w w' L.U v l) (h1 : S.readErr k ≠ 0 → v = nilS) : SeenV w' V v (S.rdV k) :=
  rdV_of (L := { L with U := V }) hk (fun e => by
    obtain ⟨l, hl, g, e1, e2, e3, _⟩ := h0 e
    exact ⟨l, hl, g, e1, e2, e3, fun hu => by have := hV g hu; omega⟩) h1
theorem SeenV.kept {w w' : World} {U U' : Nat → Prop} {v : Value} {o : Option (List Nat)} (h : SeenV w U v o) (hk : ∀ b, b < w.heap.size → ¬ U b → w'.heap[b]? = w.heap[b]? ∧ ¬ U' b) : SeenV w' U' v o := by
  cases o with
  | none => exact h
  | some l =>
    obtain ⟨g, e, hp, hu⟩ := h
    exact ⟨g, e, hp.kept (hk g hp.lt hu).1, (hk g hp.lt hu).2⟩
theorem SeenAt.kept {w w' : World} {U U' : Nat → Prop} {bv ev : Value} {xs : List (Option (List Nat))} {es : List Int} (h : SeenAt w U bv ev xs es) (hk : ∀ b, b < w.heap.size → ¬ U b → w'.heap[b]? = w.heap[b]? ∧ ¬ U' b) : SeenAt w' U' bv ev xs es := by
  obtain ⟨vs, h1, h2⟩ := h.vals
  refine ⟨h.len, ⟨vs, ownsRow_keptIf h1 fun g hg => (hk g (h1.lt g hg).2 (h.ub g hg)).1, fun i v o hv ho => (h2 i v o hv ho).kept hk⟩, ownsRow_keptIf h.ints fun g hg => (hk g (h.ints.lt g hg).2 (h.ue g hg)).1, fun g hg => (hk g (h1.lt g hg).2 (h.ub g hg)).2, fun g hg => (hk g (h.ints.lt g hg).2 (h.ue g hg)).2⟩
theorem SeenAt.below {w w' : World} {U : Nat → Prop} {bv ev : Value} {xs : List (Option (List Nat))} {es : List Int} (h : SeenAt w U bv ev xs es) (hb : Below w.heap.size w w') : SeenAt w' U bv ev xs es := h.kept fun b hlt hu => ⟨hb.block b hlt, hu⟩
theorem SeenAt.grow {w w' : World} {U U' : Nat → Prop} {bv ev : Value} {xs : List (Option (List Nat))} {es : List Int} (h : SeenAt w U bv ev xs es) (hg : Grow w w' U U') : SeenAt w' U' bv ev xs es := h.kept fun b hlt hu => ⟨hg.keep b hlt hu, fun hu' => hu (hg.new b hlt hu')⟩

/-- a step of the law's own: blocks below B, and a disk's, stay -/
structure Law (B : Nat) (U : Nat → Prop) (w w' : World) : Prop where
  os : w'.os = w.os
  tape : w'.tape = w.tape
  output : w'.output = w.output
  size : w.heap.size ≤ w'.heap.size
  keep : ∀ b, b < w.heap.size → (b < B ∨ U b) → w'.heap[b]? = w.heap[b]?
theorem Law.trans {B : Nat} {U : Nat → Prop} {w w1 w2 : World} (h : Law B U w w1) (k : Law B U w1 w2) : Law B U w w2 :=
  ⟨k.os.trans h.os, k.tape.trans h.tape, k.output.trans h.output, Nat.le_trans h.size k.size, fun b hb hx => (k.keep b (Nat.lt_of_lt_of_le hb h.size) hx).trans (h.keep b hb hx)⟩
theorem Law.below {B : Nat} {U : Nat → Prop} {w w' : World} (h : Below w.heap.size w w') : Law B U w w' := ⟨h.os, h.tape, h.output, h.size, fun b hb _ => h.block b hb⟩
theorem Law.grown {B : Nat} {U : Nat → Prop} {w w' : World} {row : Option Nat} (h : w.grownBy w' row) (hr : ∀ g, row = some g → B ≤ g ∧ ¬ U g) : Law B U w w' :=
  ⟨h.os, h.tape, h.output, h.size, fun b hb hx => h.block b hb fun e => by obtain ⟨h1, h2⟩ := hr b e.symm; rcases hx with hx | hx <;> first | omega | exact h2 hx⟩
theorem Law.setCell {B : Nat} {U : Nat → Prop} {w : World} {g i : Nat} {v : Value} (h1 : B ≤ g) (h2 : ¬ U g) : Law B U w (w.setCell ⟨g, i, none⟩ v) :=
  ⟨rfl, rfl, rfl, by simp [World.setCell], fun b hb hx => Go.heap_setCell_other _ _ _ _ (fun e : b = g => by subst e; rcases hx with hx | hx <;> first | omega | exact h2 hx)⟩
theorem Dk.law {w0 w w' : World} {L : Lay} {S : St} {B : Nat} (h : Dk w0 w L S) (hB : w0.heap.size ≤ B) (hl : Law B L.U w w') : Dk w0 w' L S :=
  ⟨h.rep.kept (fun b hu => hl.keep b (h.rep.uLt b hu) (.inr hu)) hl.size, h.be.trans ⟨hl.os, hl.tape, hl.output, hl.size, fun b hb => hl.keep b (Nat.lt_of_lt_of_le hb h.be.size) (.inl (Nat.lt_of_lt_of_le hb hB))⟩, h.up⟩
theorem Grow.law {w w1 w2 : World} {U : Nat → Prop} (h : Grow w w1 U U) (hl : Law w.heap.size U w1 w2) : Grow w w2 U U :=
  ⟨hl.os.trans h.os, hl.tape.trans h.tape, hl.output.trans h.output, Nat.le_trans h.size hl.size, fun b hb hu => (hl.keep b (Nat.lt_of_lt_of_le hb h.size) (.inl hb)).trans (h.keep b hb hu), h.new, h.sup⟩

/-- one more is told -/
theorem SeenAt.snoc {w w' : World} {U : Nat → Prop} {bv ev bv' ev' : Value} {xs : List (Option (List Nat))} {es : List Int} (h : SeenAt w U bv ev xs es) {v : Value} {o : Option (List Nat)} {n : Int} (hv : SeenV w' U v o) (hu : ∀ b, U b → b < w.heap.size)
    (hkp : ∀ g l, PieceAt w g l → PieceAt w' g l)
    (hb : ∀ vs, w.ownsRow 0 22 1 bv xs.length vs → w'.ownsRow 0 22 1 bv' (xs.length + 1) (vs ++ [v])) (hi : w'.ownsRow 0 3 1 ev' (xs.length + 1) (es.map intV ++ [intV n]))
    (hub : ∀ g, bv'.ownBlock = some g → ¬ U g) (hue : ∀ g, ev'.ownBlock = some g → ¬ U g) : SeenAt w' U bv' ev' (xs ++ [o]) (es ++ [n]) := by
  obtain ⟨vs, h1, h2⟩ := h.vals
  have hvl : vs.length = xs.length := by have := h1.1; omega
  refine ⟨by simp [h.len], ⟨vs ++ [v], by simpa using hb vs h1, fun i u p hu' hp => ?_⟩, by simpa using hi, hub, hue⟩
  by_cases hlt : i < xs.length
  · rw [List.getElem?_append_left (by omega)] at hu'
    rw [List.getElem?_append_left hlt] at hp
    have := h2 i u p hu' hp
    cases p with
    | none => exact this
    | some l =>
      obtain ⟨g, e, hg, hn⟩ := this
      exact ⟨g, e, hkp g l hg, hn⟩
  · have hi' : i = xs.length := by
      have := (List.getElem?_eq_some_iff.1 hp).1
      simp at this
      omega
    subst hi'
    rw [List.getElem?_append_right (by omega), hvl, Nat.sub_self] at hu'
    rw [List.getElem?_append_right (by omega), Nat.sub_self] at hp
    simp at hu' hp
    subst hu' hp
    exact hv

def SeenPost (w0 w : World) (L : Lay) (S : St) (e : Ending) (w' : World) : Prop := ∃ bv ev, e = .returned (.agg #[bv, ev]) ∧ Dk w0 w' L (S.reads S.nb) ∧ SeenAt w' L.U bv ev ((List.range S.nb).map S.rdV) ((List.range S.nb).map S.rdE) ∧ Grow w w' L.U L.U

theorem info_int : (Tryz.prog.info? 3).map (fun i => (i.zero, i.size, i.bytes)) = some (some (.int .i64 0), 1, 8) := by kernel_rfl
theorem intV_one (l : List Int) : ∀ u ∈ l.map intV, u.oneCell' = true := by
  intro u hu
  obtain ⟨_, _, rfl⟩ := List.mem_map.1 hu
  rfl
theorem ownBlock_cells {w : World} {e : TypeId} {v : Value} {n : Nat} {xs : List Value} (h : w.ownsRow 0 e 1 v n xs) {g : Nat} (hg : v.ownBlock = some g) : ∃ cs, w.heap[g]? = some (.cells cs e (0, 0)) := by
  rcases h.2 with ⟨rfl, _⟩ | ⟨g', cap, cur, rfl, _, hh, _⟩
  · simp [Value.ownBlock] at hg
  · simp only [Value.ownBlock, Option.some.injEq] at hg
    subst hg
    exact ⟨cur, hh⟩

end Go.Proofs.YtlpmpicmpklaoacGreat
