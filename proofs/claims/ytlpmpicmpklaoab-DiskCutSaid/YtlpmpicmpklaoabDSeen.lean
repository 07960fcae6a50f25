import Derived.Test.YtlpmpicmpklaoabDLaw1
import Derived.Test.YtlpmpicmpklaoabDPut
namespace Go.Proofs.Ytlpmpicmpklaoab
open Go.RowKit Go.Maps
set_option linter.unusedVariables false
set_option linter.unusedSimpArgs false
set_option maxRecDepth 20000

/-- what Read tells of the first n blocks -/
def St.rdV (S : St) (k : Nat) : Option (List Nat) := if S.off = true then none else S.val k
def St.rdE (S : St) (k : Nat) : Int := S.readErr k
def St.reads (S : St) : Nat → St
  | 0 => S
  | n + 1 => (S.reads n).read n

def St.like (S T : St) : Prop := T.nb = S.nb ∧ T.sz = S.sz ∧ T.med = S.med ∧ T.cache = S.cache ∧ T.off = S.off ∧ T.fuse = S.fuse
theorem read_like (S : St) (b : Int) : S.like (S.read b) := by
  unfold St.read
  split
  · exact ⟨rfl, rfl, rfl, rfl, rfl, rfl⟩
  · exact ⟨rfl, rfl, rfl, rfl, rfl, rfl⟩
theorem reads_same (S : St) : ∀ n, S.like (S.reads n)
  | 0 => ⟨rfl, rfl, rfl, rfl, rfl, rfl⟩
  | n + 1 => by
    obtain ⟨a1, a2, a3, a4, a5, a6⟩ := reads_same S n
    obtain ⟨b1, b2, b3, b4, b5, b6⟩ := read_like (S.reads n) n
    exact ⟨b1.trans a1, b2.trans a2, b3.trans a3, b4.trans a4, b5.trans a5, b6.trans a6⟩
theorem reads_err (S : St) (n k : Nat) : (S.reads n).readErr k = S.readErr k ∧ (S.reads n).val k = S.val k := by
  obtain ⟨h1, h2, h3, h4, h5, h6⟩ := reads_same S n
  have hv : (S.reads n).val k = S.val k := by simp only [St.val, h3, h4]
  refine ⟨?_, hv⟩
  simp only [St.readErr, h1, h5, Int.toNat_natCast, hv]

/-- what was seen of a block: bytes or none -/
def SeenV (w : World) (U : Nat → Prop) (v : Value) : Option (List Nat) → Prop
  | none => v = nilS
  | some l => ∃ g, v = sl g l.length ∧ PieceAt w g l ∧ ¬ U g
def intV (n : Int) : Value := .int .i64 n
/-- what 'seen' has told, in memory that no disk holds -/
structure SeenAt (w : World) (U : Nat → Prop) (bv ev : Value) (xs : List (Option (List Nat))) (es : List Int) : Prop where
  len : es.length = xs.length
  vals : ∃ vs : List Value, w.ownsRow 0 24 1 bv xs.length vs ∧ ∀ (i : Nat) (v : Value) (o : Option (List Nat)), vs[i]? = some v → xs[i]? = some o → SeenV w U v o
  ints : w.ownsRow 0 3 1 ev xs.length (es.map intV)
  ub : ∀ g, bv.ownBlock = some g → ¬ U g
  ue : ∀ g, ev.ownBlock = some g → ¬ U g

theorem trouble_any {w0 w : World} {U : Nat → Prop} {u : Value} {b n : Int} (h : ErrIs w0 w U u b n) : Calls Try.prog 24 #[u] w fun e w' => ∃ x, e = .returned (.tuple #[.int .i64 n, .int .i64 x]) ∧ ∃ k, w' = w.drewN k := by
  rcases h with ⟨rfl, rfl⟩ | ⟨_, g, rfl, _, hg, _⟩
  · refine (trouble_nil w).mono ?_
    rintro e w' ⟨rfl, rfl⟩
    exact ⟨-1, rfl, 0, rfl⟩
  · refine (trouble_err w g b n hg).mono ?_
    rintro e w' ⟨rfl, k, rfl⟩
    exact ⟨b, rfl, k, rfl⟩
theorem SeenV.one {w : World} {U : Nat → Prop} {v : Value} {o : Option (List Nat)} (h : SeenV w U v o) : ∃ a n c, v = .slice a n c := by
  cases o with
  | none => exact ⟨none, 0, 0, h⟩
  | some l => obtain ⟨g, e, _⟩ := h; exact ⟨_, _, _, e⟩
theorem rdV_of {w w' : World} {L : Lay} {S : St} {k : Nat} (hk : k < S.nb) {v : Value} (h0 : S.readErr k = 0 → ∃ l, S.val k = some l ∧ Fresh w w' L.U v l) (h1 : S.readErr k ≠ 0 → v = nilS) : SeenV w' L.U v (S.rdV k) := by
  by_cases h : S.readErr k = 0
  · obtain ⟨l, hl, g, e, _, hp, hu⟩ := h0 h
    have hof : S.off = false := by
      cases hq : S.off with
      | false => rfl
      | true =>
        simp [St.readErr, hq] at h
        omega
    have : S.rdV k = some l := by simp [St.rdV, hof, hl]
    rw [this]
    exact ⟨g, e, hp, hu⟩
  · have hv := h1 h
    have : S.rdV k = none := by
      unfold St.rdV
      cases hq : S.off with
      | true => rfl
      | false =>
        cases hz : S.val k with
        | none => rfl
        | some l => exact absurd (by simp [St.readErr, hq, hz]; omega) h
    rw [this]
    exact hv

theorem rdV_wide {w w' : World} {L : Lay} {V : Nat → Prop} {S : St} {k : Nat} (hV : ∀ b, V b → b < w.heap.size) (hk : k < S.nb) {v : Value} (h0 : S.readErr k = 0 → ∃ l, S.val k = some l ∧ Fresh w w' L.U v l) (h1 : S.readErr k ≠ 0 → v = nilS) : SeenV w' V v (S.rdV k) :=
  rdV_of (L := { L with U := V }) hk (fun e => by
    obtain ⟨l, hl, g, e1, e2, e3, _⟩ := h0 e
    exact ⟨l, hl, g, e1, e2, e3, fun hu => by have := hV g hu; omega⟩) h1
theorem SeenV.kept {w w' : World} {U U' : Nat → Prop} {v : Value} {o : Option (List Nat)} (h : SeenV w U v o) (hk : ∀ b, b < w.heap.size → ¬ U b → w'.heap[b]? = w.heap[b]? ∧ ¬ U' b) : SeenV w' U' v o := by
  cases o with
  | none => exact h
  | some l =>
    obtain ⟨g, e, hp, hu⟩ := h
    exact ⟨g, e, hp.kept (hk g hp.lt hu).1, (hk g hp.lt hu).2⟩
theorem SeenAt.kept {w w' : World} {U U' : Nat → Prop} {bv ev : Value} {xs : List (Option (List Nat))} {es : List Int} (h : SeenAt w U bv ev xs es) (hk : ∀ b, b < w.heap.size → ¬ U b → w'.heap[b]? = w.heap[b]? ∧ ¬ U' b) : SeenAt w' U' bv ev xs es := by
  obtain ⟨vs, h1, h2⟩ := h.vals
  refine ⟨h.len, ⟨vs, ownsRow_keptIf h1 fun g hg => (hk g (h1.lt g hg).2 (h.ub g hg)).1, fun i v o hv ho => (h2 i v o hv ho).kept hk⟩, ownsRow_keptIf h.ints fun g hg => (hk g (h.ints.lt g hg).2 (h.ue g hg)).1, fun g hg => (hk g (h1.lt g hg).2 (h.ub g hg)).2, fun g hg => (hk g (h.ints.lt g hg).2 (h.ue g hg)).2⟩
theorem SeenAt.below {w w' : World} {U : Nat → Prop} {bv ev : Value} {xs : List (Option (List Nat))} {es : List Int} (h : SeenAt w U bv ev xs es) (hb : Below w.heap.size w w') : SeenAt w' U bv ev xs es := h.kept fun b hlt hu => ⟨hb.block b hlt, hu⟩
theorem SeenAt.grow {w w' : World} {U U' : Nat → Prop} {bv ev : Value} {xs : List (Option (List Nat))} {es : List Int} (h : SeenAt w U bv ev xs es) (hg : Grow w w' U U') : SeenAt w' U' bv ev xs es := h.kept fun b hlt hu => ⟨hg.keep b hlt hu, fun hu' => hu (hg.new b hlt hu')⟩

/-- a step of the law's own: blocks below B, and a disk's, stay -/
structure Law (B : Nat) (U : Nat → Prop) (w w' : World) : Prop where
  os : w'.os = w.os
  tape : w'.tape = w.tape
  output : w'.output = w.output
  size : w.heap.size ≤ w'.heap.size
  keep : ∀ b, b < w.heap.size → (b < B ∨ U b) → w'.heap[b]? = w.heap[b]?
theorem Law.trans {B : Nat} {U : Nat → Prop} {w w1 w2 : World} (h : Law B U w w1) (k : Law B U w1 w2) : Law B U w w2 :=
  ⟨k.os.trans h.os, k.tape.trans h.tape, k.output.trans h.output, Nat.le_trans h.size k.size, fun b hb hx => (k.keep b (Nat.lt_of_lt_of_le hb h.size) hx).trans (h.keep b hb hx)⟩
theorem Law.below {B : Nat} {U : Nat → Prop} {w w' : World} (h : Below w.heap.size w w') : Law B U w w' := ⟨h.os, h.tape, h.output, h.size, fun b hb _ => h.block b hb⟩
theorem Law.grown {B : Nat} {U : Nat → Prop} {w w' : World} {row : Option Nat} (h : w.grownBy w' row) (hr : ∀ g, row = some g → B ≤ g ∧ ¬ U g) : Law B U w w' :=
  ⟨h.os, h.tape, h.output, h.size, fun b hb hx => h.block b hb fun e => by obtain ⟨h1, h2⟩ := hr b e.symm; rcases hx with hx | hx <;> first | omega | exact h2 hx⟩
theorem Law.setCell {B : Nat} {U : Nat → Prop} {w : World} {g i : Nat} {v : Value} (h1 : B ≤ g) (h2 : ¬ U g) : Law B U w (w.setCell ⟨g, i, none⟩ v) :=
  ⟨rfl, rfl, rfl, by simp [World.setCell], fun b hb hx => Go.heap_setCell_other _ _ _ _ (fun e : b = g => by subst e; rcases hx with hx | hx <;> first | omega | exact h2 hx)⟩
theorem Dk.law {w0 w w' : World} {L : Lay} {S : St} {B : Nat} (h : Dk w0 w L S) (hB : w0.heap.size ≤ B) (hl : Law B L.U w w') : Dk w0 w' L S :=
  ⟨h.rep.kept (fun b hu => hl.keep b (h.rep.uLt b hu) (.inr hu)) hl.size, h.be.trans ⟨hl.os, hl.tape, hl.output, hl.size, fun b hb => hl.keep b (Nat.lt_of_lt_of_le hb h.be.size) (.inl (Nat.lt_of_lt_of_le hb hB))⟩, h.up⟩
theorem Grow.law {w w1 w2 : World} {U : Nat → Prop} (h : Grow w w1 U U) (hl : Law w.heap.size U w1 w2) : Grow w w2 U U :=
  ⟨hl.os.trans h.os, hl.tape.trans h.tape, hl.output.trans h.output, Nat.le_trans h.size hl.size, fun b hb hu => (hl.keep b (Nat.lt_of_lt_of_le hb h.size) (.inl hb)).trans (h.keep b hb hu), h.new, h.sup⟩

/-- the loop of 'seen' -/
structure NInv (w0 w wr : World) (L : Lay) (V : Nat → Prop) (S : St) (n : Nat) (bv ev : Value) : Prop where
  hn : n ≤ S.nb
  dk : Dk w0 wr L (S.reads n)
  res : wr.heap[w.heap.size]? = some (.cells #[.slice none 0 0, .slice none 0 0] 40 (0, 0))
  loc : wr.heap[w.heap.size + 1]? = some (.cells #[bv, ev] 40 (0, 0))
  sa : SeenAt wr V bv ev ((List.range n).map S.rdV) ((List.range n).map S.rdE)
  be : Grow w wr L.U L.U
  bn : ∀ g, bv.ownBlock = some g → w.heap.size ≤ g
  en : ∀ g, ev.ownBlock = some g → w.heap.size ≤ g

/-- one more is told -/
theorem SeenAt.snoc {w w' : World} {U : Nat → Prop} {bv ev bv' ev' : Value} {xs : List (Option (List Nat))} {es : List Int} (h : SeenAt w U bv ev xs es) {v : Value} {o : Option (List Nat)} {n : Int} (hv : SeenV w' U v o) (hu : ∀ b, U b → b < w.heap.size)
    (hkp : ∀ g l, PieceAt w g l → PieceAt w' g l)
    (hb : ∀ vs, w.ownsRow 0 24 1 bv xs.length vs → w'.ownsRow 0 24 1 bv' (xs.length + 1) (vs ++ [v])) (hi : w'.ownsRow 0 3 1 ev' (xs.length + 1) (es.map intV ++ [intV n]))
    (hub : ∀ g, bv'.ownBlock = some g → ¬ U g) (hue : ∀ g, ev'.ownBlock = some g → ¬ U g) : SeenAt w' U bv' ev' (xs ++ [o]) (es ++ [n]) := by
  obtain ⟨vs, h1, h2⟩ := h.vals
  have hvl : vs.length = xs.length := by have := h1.1; omega
  refine ⟨by simp [h.len], ⟨vs ++ [v], by simpa using hb vs h1, fun i u p hu' hp => ?_⟩, by simpa using hi, hub, hue⟩
  by_cases hlt : i < xs.length
  · rw [List.getElem?_append_left (by omega)] at hu'
    rw [List.getElem?_append_left hlt] at hp
    have := h2 i u p hu' hp
    cases p with
    | none => exact this
    | some l =>
      obtain ⟨g, e, hg, hn⟩ := this
      exact ⟨g, e, hkp g l hg, hn⟩
  · have hi' : i = xs.length := by
      have := (List.getElem?_eq_some_iff.1 hp).1
      simp at this
      omega
    subst hi'
    rw [List.getElem?_append_right (by omega), hvl, Nat.sub_self] at hu'
    rw [List.getElem?_append_right (by omega), Nat.sub_self] at hp
    simp at hu' hp
    subst hu' hp
    exact hv

def SeenPost (w0 w : World) (L : Lay) (S : St) (e : Ending) (w' : World) : Prop := ∃ bv ev, e = .returned (.agg #[bv, ev]) ∧ Dk w0 w' L (S.reads S.nb) ∧ SeenAt w' L.U bv ev ((List.range S.nb).map S.rdV) ((List.range S.nb).map S.rdE) ∧ Grow w w' L.U L.U

theorem info_int : (Try.prog.info? 3).map (fun i => (i.zero, i.size, i.bytes)) = some (some (.int .i64 0), 1, 8) := by kernel_rfl
theorem intV_one (l : List Int) : ∀ u ∈ l.map intV, u.oneCell' = true := by
  intro u hu
  obtain ⟨_, _, rfl⟩ := List.mem_map.1 hu
  rfl
theorem ownBlock_cells {w : World} {e : TypeId} {v : Value} {n : Nat} {xs : List Value} (h : w.ownsRow 0 e 1 v n xs) {g : Nat} (hg : v.ownBlock = some g) : ∃ cs, w.heap[g]? = some (.cells cs e (0, 0)) := by
  rcases h.2 with ⟨rfl, _⟩ | ⟨g', cap, cur, rfl, _, hh, _⟩
  · simp [Value.ownBlock] at hg
  · simp only [Value.ownBlock, Option.some.injEq] at hg
    subst hg
    exact ⟨cur, hh⟩

set_option maxHeartbeats 2000000 in
theorem seen_wide {w0 w : World} {L : Lay} {V : Nat → Prop} {S : St} (hD : Dk w0 w L S) (hVl : ∀ b, V b → b < w.heap.size) (hVU : ∀ b, L.U b → V b) :
    Calls Try.prog 11 #[PD L, .int .i64 (S.nb : Int)] w fun e w' => ∃ bv ev, e = .returned (.agg #[bv, ev]) ∧ Dk w0 w' L (S.reads S.nb) ∧ SeenAt w' V bv ev ((List.range S.nb).map S.rdV) ((List.range S.nb).map S.rdE) ∧ Grow w w' L.U L.U := by
  obtain ⟨i0, hi, hz0, hz1, hz2⟩ := info_parts info_bytes
  obtain ⟨j0, hj, hy0, hy1, hy2⟩ := info_parts info_int
  obtain ⟨hnb1, hnb2⟩ := hD.rep.nb
  have hul := hD.rep.uLt
  have hB0w : w0.heap.size ≤ w.heap.size := hD.be.size
  have HB0 := hide ((Below.refl w.heap.size w).alloc (Nat.le_refl _) (.cells #[.slice none 0 0, .slice none 0 0] 40))
  have HB1 := hide (HB0.out.alloc (by simp) (.cells #[.slice none 0 0, .slice none 0 0] 40))
  have START : Hid (NInv w0 w ((w.alloc (.cells #[.slice none 0 0, .slice none 0 0] 40)).alloc (.cells #[.slice none 0 0, .slice none 0 0] 40)) L V S 0 (.slice none 0 0) (.slice none 0 0)) := hide
    ⟨Nat.zero_le _, hD.below HB1.out, by rw [Below.heap_alloc _ _ _ (by simp)]; exact Go.heap_alloc_new w _, by
      have := Go.heap_alloc_new (w.alloc (.cells #[.slice none 0 0, .slice none 0 0] 40)) (.cells #[.slice none 0 0, .slice none 0 0] 40)
      simpa using this, ⟨rfl, ⟨[], World.ownsRow_nil _ _ _ _, by simp⟩, World.ownsRow_nil _ _ _ _, by simp [Value.ownBlock], by simp [Value.ownBlock]⟩, Grow.ofBelow _ HB1.out, by simp [Value.ownBlock], by simp [Value.ownBlock]⟩
  clear HB0 HB1 hD
  unfold PD
  go_enter Try.func11, Try.ntmps11
  go_wp2
  go_loopw [6] (fun i wr => ∃ (n : Nat) (bv ev : Value), i = .int .i64 (n : Int) ∧ NInv w0 w wr L V S n bv ev) (fun i _ => S.nb - (intOf i).toNat)
  case atStart => exact ⟨0, _, _, rfl, START.out⟩
  case round =>
    clear START
    obtain ⟨n, bv, ev, rfl, hI⟩ := hrel
    have hn := hI.hn
    have HI := hide hI
    have hw1 : ¬ L.U (w.heap.size + 1) := fun h => by have := hul _ h; omega
    have hw2 : ¬ L.U w.heap.size := fun h => by have := hul _ h; omega
    clear hI
    by_cases hlt : n < S.nb
    · have HRD := hide (Read_any HI.out.dk.rep (n : Int))
      rw [(reads_err S n n).1] at HRD
      simp only [Int.toNat_natCast] at HRD
      rw [(reads_err S n n).2] at HRD
      unfold PD at HRD
      have HLOC : Hid (∀ w2, Grow wr w2 L.U L.U → w2.heap[w.heap.size]? = some (.cells #[.slice none 0 0, .slice none 0 0] 40 (0, 0)) ∧ w2.heap[w.heap.size + 1]? = some (.cells #[bv, ev] 40 (0, 0))) := hide fun w2 hg =>
        ⟨(hg.keep _ (Array.getElem?_eq_some_iff.1 HI.out.res).1 hw2).trans HI.out.res, (hg.keep _ (Array.getElem?_eq_some_iff.1 HI.out.loc).1 hw1).trans HI.out.loc⟩
      go_wp2_with (first
        | (go_at_call 27; refine HRD.out.mono ?_; rintro e w2 ⟨v, u, rfl, hE, hV0, hV1, hR2, hG2⟩; have HR2 := hide hR2; have HG2 := hide hG2; have HSV := hide (rdV_wide (V := V) (fun b hb => Nat.lt_of_lt_of_le (hVl b hb) HI.out.be.size) hlt hV0 hV1); have HTR := hide (trouble_any hE); obtain ⟨av, nv, cv, hvv⟩ := HSV.out.one; rw [hvv] at HSV; rw [hvv]; clear hvv hV0 hV1 hR2 hG2 hE)
        | (go_at_call 24; refine HTR.out.mono ?_; rintro e w3 ⟨x, rfl, kq, hw3⟩; have HB3 : Hid (Below w2.heap.size w2 w3) := hide (by rw [hw3]; exact below_drewN (Below.refl _ _) kq); have HG3 := hide (HG2.out.trans (Grow.ofBelow L.U HB3.out)); obtain ⟨z1, z2⟩ := HLOC.out w3 HG3.out; have c0 : w3.cell? ⟨w.heap.size + 1, 0, none⟩ = some bv := by { rw [cell_of_row _ _ _ _ _ _ z2]; rfl }; have HZ2 := hide z2; have HZ1 := hide z1; have HS3 := hide (HI.out.sa.kept (U' := V) fun b hb hu => ⟨HG3.out.keep b hb (fun h => hu (hVU b h)), hu⟩); have HV3 : Hid (SeenV w3 V (.slice av nv cv) (S.rdV n)) := hide (HSV.out.kept fun b hb hu => ⟨HB3.out.block b hb, hu⟩); obtain ⟨vs, ho3, hvs⟩ := HS3.out.vals; have r3a := ho3.alloc (.cells #[.slice av nv cv] 24); simp only [List.length_map, List.length_range] at r3a; have HO3 := hide ho3; have HVS := hide hvs; clear z1 z2 hw3 ho3 hvs)
        | (at_builtin; refine wpList_append_own_at _ rfl (.tmp 28) (.tmp 30) 37 rfl 0 24 i0 (.slice none 0 0) 1 24 Try.underlying37 hi hz0 hz1 hz2 rfl (by decide) _ _ _ rfl r3a ⟨w3.heap.size, 0, none⟩ 1 1 [.slice av nv cv] rfl rfl (cell_one_new _ _ _) (by simp [Value.oneCell']) (by unfold maxLen; omega) (by omega) (by simp) ?_))
      intro bv' w4 ho4 hg4 _ hloc4
      have hs4 := hg4.size
      simp only [World.size_alloc] at hs4
      have hLbl : w.heap.size + 1 < w3.heap.size := (Array.getElem?_eq_some_iff.1 HZ2.out).1
      have K4 : ∀ b, b < w3.heap.size → some b ≠ bv.ownBlock → w4.heap[b]? = w3.heap[b]? := fun b hb hne => by
        rw [hg4.block b (by simp; omega) hne]; exact Below.heap_alloc _ _ b hb
      have bvT : ∀ g, bv.ownBlock = some g → ∃ cs, w3.heap[g]? = some (.cells cs 24 (0, 0)) := fun g hg => ownBlock_cells HO3.out hg
      have evT : ∀ g, ev.ownBlock = some g → ∃ cs, w3.heap[g]? = some (.cells cs 3 (0, 0)) := fun g hg => ownBlock_cells HS3.out.ints hg
      have hne1 : some (w.heap.size + 1) ≠ bv.ownBlock := fun e => by
        obtain ⟨cs, hcs⟩ := bvT _ e.symm
        have := HZ2.out
        rw [hcs] at this; simp at this
      have hne0 : some w.heap.size ≠ bv.ownBlock := fun e => by
        obtain ⟨cs, hcs⟩ := bvT _ e.symm
        have := HZ1.out
        rw [hcs] at this; simp at this
      have l4 : w4.heap[w.heap.size + 1]? = some (.cells #[bv, ev] 40 (0, 0)) := (K4 _ hLbl hne1).trans HZ2.out
      have r4 : w4.heap[w.heap.size]? = some (.cells #[.slice none 0 0, .slice none 0 0] 40 (0, 0)) := (K4 _ (by omega) hne0).trans HZ1.out
      have hbv'n : ∀ g, bv'.ownBlock = some g → w.heap.size ≤ g ∧ ¬ V g := fun g hg => by
        rcases hloc4 with e | e
        · exact ⟨HI.out.bn g (e ▸ hg), HS3.out.ub g (e ▸ hg)⟩
        · rw [e] at hg
          simp only [Option.some.injEq, World.size_alloc] at hg
          exact ⟨by omega, fun hu => by have := hVl _ hu; omega⟩
      have law4 : Law w.heap.size L.U w3 w4 := (Law.below ((Below.refl _ _).alloc (Nat.le_refl _) _)).trans (Law.grown hg4 fun g hg => ⟨HI.out.bn g hg, fun hu => HS3.out.ub g hg (hVU g hu)⟩)
      have hP4 : ∀ g l, PieceAt w3 g l → PieceAt w4 g l := fun g l hp => hp.kept (K4 g hp.lt fun e => by
        obtain ⟨cs, hcs⟩ := bvT _ e.symm
        have := hp.1
        rw [hcs] at this; simp at this)
      have ho4i : w4.ownsRow 0 3 1 ev ((List.range n).map S.rdV).length (((List.range n).map S.rdE).map intV) := ownsRow_keptIf HS3.out.ints fun g hg => K4 g (HS3.out.ints.lt g hg).2 fun e => by
        obtain ⟨cs, hcs⟩ := bvT _ e.symm
        obtain ⟨ds, hds⟩ := evT _ hg
        rw [hcs] at hds; simp at hds
      have c04 : w4.cell? ⟨w.heap.size + 1, 0, none⟩ = some bv := by rw [cell_of_row _ _ _ _ _ _ l4]; rfl
      have f04 : w4.frozen? ⟨w.heap.size + 1, 0, none⟩ = false := frozen_of_row _ _ _ _ 40 l4
      obtain ⟨ab, cb', hbf⟩ : ∃ a c, bv' = .slice a (n + 1) c := by
        rcases ho4.2 with ⟨_, h0⟩ | ⟨g, cap, cur, e, _⟩
        · omega
        · exact ⟨_, _, e⟩
      -- the first store
      have l5 : (w4.setCell ⟨w.heap.size + 1, 0, none⟩ bv').heap[w.heap.size + 1]? = some (.cells #[bv', ev] 40 (0, 0)) := Go.heap_setCell_same w4 (w.heap.size + 1) 0 _ 40 _ l4
      have r5 : (w4.setCell ⟨w.heap.size + 1, 0, none⟩ bv').heap[w.heap.size]? = some (.cells #[.slice none 0 0, .slice none 0 0] 40 (0, 0)) := (Go.heap_setCell_other _ _ _ _ (by simp)).trans r4
      have K5 : ∀ b, b ≠ w.heap.size + 1 → (w4.setCell ⟨w.heap.size + 1, 0, none⟩ bv').heap[b]? = w4.heap[b]? := fun b hb => Go.heap_setCell_other _ _ _ _ hb
      have law5 : Law w.heap.size L.U w3 (w4.setCell ⟨w.heap.size + 1, 0, none⟩ bv') := law4.trans (Law.setCell (by omega) hw1)
      have nl : ∀ (g : Nat) (cs : Array Value) (t : TypeId), w4.heap[g]? = some (Obj.cells cs t (0, 0)) → t ≠ 40 → g ≠ w.heap.size + 1 := fun g cs t hg ht e => by
        rw [e, l4] at hg
        simp only [Option.some.injEq, Obj.cells.injEq] at hg
        exact ht hg.2.1.symm
      have hP5 : ∀ g l, PieceAt w3 g l → PieceAt (w4.setCell ⟨w.heap.size + 1, 0, none⟩ bv') g l := fun g l hp => (hP4 g l hp).kept (K5 g (nl g _ _ (hP4 g l hp).1 (by decide)))
      have ho5 : (w4.setCell ⟨w.heap.size + 1, 0, none⟩ bv').ownsRow 0 24 1 bv' (n + 1) (vs ++ [.slice av nv cv]) := ownsRow_keptIf ho4 fun g hg => by
        obtain ⟨cs, hcs⟩ := ownBlock_cells ho4 hg
        exact K5 g (nl g _ _ hcs (by decide))
      have ho5i : (w4.setCell ⟨w.heap.size + 1, 0, none⟩ bv').ownsRow 0 3 1 ev ((List.range n).map S.rdV).length (((List.range n).map S.rdE).map intV) := ownsRow_keptIf ho4i fun g hg => by
        obtain ⟨cs, hcs⟩ := ownBlock_cells ho4i hg
        exact K5 g (nl g _ _ hcs (by decide))
      rw [hbf] at l5 r5 law5 hP5 ho5 ho5i ⊢
      obtain ⟨w5, hw5⟩ : ∃ w5, w4.setCell ⟨w.heap.size + 1, 0, none⟩ (.slice ab (n + 1) cb') = w5 := ⟨_, rfl⟩
      rw [hw5] at l5 r5 law5 hP5 ho5 ho5i
      have hW5 := hide hw5
      clear hw5
      have c15 : w5.cell? ⟨w.heap.size + 1, 1, none⟩ = some ev := by rw [cell_of_row _ _ _ _ _ _ l5]; rfl
      have r5a := ho5i.alloc (.cells #[.int .i64 (S.readErr n)] 3)
      simp only [List.length_map, List.length_range] at r5a
      have HHO5 := hide ho5
      have HHO5i := hide ho5i
      have HL5 := hide l5
      have HR5 := hide r5
      have HLW5 := hide law5
      have HP5 := hide hP5
      have HBN := hide hbv'n
      rw [hbf] at HBN
      clear ho5 ho5i l5 r5 law5 hP5 hbv'n hbf hg4 ho4 hloc4 K4 K5 l4 r4 law4 hP4 ho4i nl bvT evT hne1 hne0 hs4 r3a
      go_wp2_with (first
        | (at_builtin; refine wpList_append_own_at _ rfl (.tmp 34) (.tmp 36) 38 rfl 0 3 j0 (.int .i64 0) 1 8 Try.underlying38 hj hy0 hy1 hy2 rfl (by decide) _ _ _ rfl r5a ⟨w5.heap.size, 0, none⟩ 1 1 [.int .i64 (S.readErr n)] rfl rfl (cell_one_new _ _ _) (by simp [Value.oneCell']) (by unfold maxLen; omega) (by omega) (by simp) ?_)
        | (rw [hW5.out]))
      intro ev' w6 ho6 hg6 _ hloc6
      have hs6 := hg6.size
      simp only [World.size_alloc] at hs6
      have hLbl5 : w.heap.size + 1 < w5.heap.size := (Array.getElem?_eq_some_iff.1 HL5.out).1
      have K6 : ∀ b, b < w5.heap.size → some b ≠ ev.ownBlock → w6.heap[b]? = w5.heap[b]? := fun b hb hne => by
        rw [hg6.block b (by simp; omega) hne]; exact Below.heap_alloc _ _ b hb
      have evT : ∀ g, ev.ownBlock = some g → ∃ cs, w5.heap[g]? = some (.cells cs 3 (0, 0)) := fun g hg => ownBlock_cells HHO5i.out hg
      have nt : ∀ (g : Nat) (cs : Array Value) (t : TypeId), w5.heap[g]? = some (Obj.cells cs t (0, 0)) → t ≠ 3 → some g ≠ ev.ownBlock := fun g cs t hg ht e => by
        obtain ⟨ds, hds⟩ := evT _ e.symm
        rw [hg] at hds
        simp only [Option.some.injEq, Obj.cells.injEq] at hds
        exact ht hds.2.1
      have l6 : w6.heap[w.heap.size + 1]? = some (.cells #[.slice ab (n + 1) cb', ev] 40 (0, 0)) := (K6 _ hLbl5 (nt _ _ _ HL5.out (by decide))).trans HL5.out
      have r6 : w6.heap[w.heap.size]? = some (.cells #[.slice none 0 0, .slice none 0 0] 40 (0, 0)) := (K6 _ (by omega) (nt _ _ _ HR5.out (by decide))).trans HR5.out
      have hev'n : ∀ g, ev'.ownBlock = some g → w.heap.size ≤ g ∧ ¬ V g := fun g hg => by
        rcases hloc6 with e | e
        · exact ⟨HI.out.en g (e ▸ hg), HS3.out.ue g (e ▸ hg)⟩
        · rw [e] at hg
          simp only [Option.some.injEq] at hg
          exact ⟨by omega, fun hu => by have := hVl _ hu; omega⟩
      have law6 : Law w.heap.size L.U w5 w6 := (Law.below ((Below.refl _ _).alloc (Nat.le_refl _) _)).trans (Law.grown hg6 fun g hg => ⟨HI.out.en g hg, fun hu => HS3.out.ue g hg (hVU g hu)⟩)
      have hP6 : ∀ g l, PieceAt w5 g l → PieceAt w6 g l := fun g l hp => hp.kept (K6 g hp.lt (nt _ _ _ hp.1 (by decide)))
      have ho6b : w6.ownsRow 0 24 1 (.slice ab (n + 1) cb') (n + 1) (vs ++ [.slice av nv cv]) := ownsRow_keptIf HHO5.out fun g hg => by
        obtain ⟨cs, hcs⟩ := ownBlock_cells HHO5.out hg
        exact K6 g (HHO5.out.lt g hg).2 (nt _ _ _ hcs (by decide))
      have c16 : w6.cell? ⟨w.heap.size + 1, 1, none⟩ = some ev := by rw [cell_of_row _ _ _ _ _ _ l6]; rfl
      have f16 : w6.frozen? ⟨w.heap.size + 1, 1, none⟩ = false := frozen_of_row _ _ _ _ 40 l6
      obtain ⟨ae, ce, hef⟩ : ∃ a c, ev' = .slice a (n + 1) c := by
        rcases ho6.2 with ⟨_, h0⟩ | ⟨g, cap, cur, e, _⟩
        · omega
        · exact ⟨_, _, e⟩
      have l7 : (w6.setCell ⟨w.heap.size + 1, 1, none⟩ ev').heap[w.heap.size + 1]? = some (.cells #[.slice ab (n + 1) cb', ev'] 40 (0, 0)) := Go.heap_setCell_same w6 (w.heap.size + 1) 1 _ 40 _ l6
      have r7 : (w6.setCell ⟨w.heap.size + 1, 1, none⟩ ev').heap[w.heap.size]? = some (.cells #[.slice none 0 0, .slice none 0 0] 40 (0, 0)) := (Go.heap_setCell_other _ _ _ _ (by simp)).trans r6
      have K7 : ∀ b, b ≠ w.heap.size + 1 → (w6.setCell ⟨w.heap.size + 1, 1, none⟩ ev').heap[b]? = w6.heap[b]? := fun b hb => Go.heap_setCell_other _ _ _ _ hb
      have law7 : Law w.heap.size L.U w3 (w6.setCell ⟨w.heap.size + 1, 1, none⟩ ev') := HLW5.out.trans (law6.trans (Law.setCell (by omega) hw1))
      have nl : ∀ (g : Nat) (cs : Array Value) (t : TypeId), w6.heap[g]? = some (Obj.cells cs t (0, 0)) → t ≠ 40 → g ≠ w.heap.size + 1 := fun g cs t hg ht e => by
        rw [e, l6] at hg
        simp only [Option.some.injEq, Obj.cells.injEq] at hg
        exact ht hg.2.1.symm
      have hP7 : ∀ g l, PieceAt w3 g l → PieceAt (w6.setCell ⟨w.heap.size + 1, 1, none⟩ ev') g l := fun g l hp => (hP6 g l (HP5.out g l hp)).kept (K7 g (nl g _ _ (hP6 g l (HP5.out g l hp)).1 (by decide)))
      have ho7 : (w6.setCell ⟨w.heap.size + 1, 1, none⟩ ev').ownsRow 0 3 1 ev' (n + 1) (((List.range n).map S.rdE).map intV ++ [intV (S.readErr n)]) := ownsRow_keptIf (by rw [List.map_map]; exact ho6) fun g hg => by
        obtain ⟨cs, hcs⟩ := ownBlock_cells ho6 hg
        exact K7 g (nl g _ _ hcs (by decide))
      have ho7b : (w6.setCell ⟨w.heap.size + 1, 1, none⟩ ev').ownsRow 0 24 1 (.slice ab (n + 1) cb') (n + 1) (vs ++ [.slice av nv cv]) := ownsRow_keptIf ho6b fun g hg => by
        obtain ⟨cs, hcs⟩ := ownBlock_cells ho6b hg
        exact K7 g (nl g _ _ hcs (by decide))
      have hB0 : w0.heap.size ≤ w.heap.size := hB0w
      have FIN : NInv w0 w (w6.setCell ⟨w.heap.size + 1, 1, none⟩ ev') L V S (n + 1) (.slice ab (n + 1) cb') ev' := by
        refine ⟨by omega, ?_, r7, l7, ?_, ?_, fun g hg => (HBN.out g hg).1, fun g hg => (hev'n g hg).1⟩
        · have h1 : Dk w0 w3 L (S.reads (n + 1)) := (HI.out.dk.growS HR2.out HG2.out).below HB3.out
          exact h1.law hB0 law7
        · rw [List.range_succ, List.map_append, List.map_append]
          refine HS3.out.snoc (w' := w6.setCell ⟨w.heap.size + 1, 1, none⟩ ev') (v := .slice av nv cv) (o := S.rdV n) (n := S.rdE n) ?_ (fun b hu => by have := hVl b hu; have := HI.out.be.size; have := HG3.out.size; omega) hP7 ?_ ?_ (fun g hg => (HBN.out g hg).2) (fun g hg => (hev'n g hg).2)
          · cases ho : S.rdV n with
            | none => have := HV3.out; rw [ho] at this; exact this
            | some l =>
              have := HV3.out
              rw [ho] at this
              obtain ⟨g, e, hp, hu⟩ := this
              exact ⟨g, e, hP7 g l hp, hu⟩
          · intro vs' hvs'
            have e : vs' = vs := ownsRow_unique hvs' HO3.out
            rw [e]
            simpa using ho7b
          · simpa [St.rdE] using ho7
        · exact (HI.out.be.trans HG3.out).law law7
      rw [hef] at FIN
      have HFIN := hide FIN
      clear FIN
      rw [hef]
      clear l7 r7 K7 law7 nl hP7 ho7 ho7b hef ho6 hg6 hloc6 K6 evT nt l6 r6 hev'n law6 hP6 ho6b hB0
      go_wp2
      go_roundw
      case rel => exact ⟨n + 1, _, _, by go_num, HFIN.out⟩
      case measure => simp [intOf]; omega
    · have e : n = S.nb := by omega
      subst e
      obtain ⟨vs, ho, _⟩ := HI.out.sa.vals
      have hoi := HI.out.sa.ints
      simp only [List.length_map, List.length_range] at ho hoi
      obtain ⟨a1, c1, e1⟩ : ∃ a c, bv = .slice a S.nb c := by
        rcases ho.2 with ⟨e, h0⟩ | ⟨g, cap, cur, e, _⟩
        · omega
        · exact ⟨_, _, e⟩
      obtain ⟨a2, c2, e2⟩ : ∃ a c, ev = .slice a S.nb c := by
        rcases hoi.2 with ⟨e, h0⟩ | ⟨g, cap, cur, e, _⟩
        · omega
        · exact ⟨_, _, e⟩
      subst e1 e2
      have hloc := HI.out.loc
      have hres := HI.out.res
      have p0 : wr.cell? ⟨w.heap.size + 1, 0, none⟩ = some (.slice a1 S.nb c1) := by rw [cell_of_row _ _ _ _ _ _ hloc]; rfl
      have p1 : wr.cell? ⟨w.heap.size + 1, 1, none⟩ = some (.slice a2 S.nb c2) := by rw [cell_of_row _ _ _ _ _ _ hloc]; rfl
      have q0 : wr.cell? ⟨w.heap.size, 0, none⟩ = some (.slice none 0 0) := by rw [cell_of_row _ _ _ _ _ _ hres]; rfl
      have q1 : wr.cell? ⟨w.heap.size, 1, none⟩ = some (.slice none 0 0) := by rw [cell_of_row _ _ _ _ _ _ hres]; rfl
      have f0 : wr.frozen? ⟨w.heap.size, 0, none⟩ = false := frozen_of_row _ _ _ _ 40 hres
      have f1 : wr.frozen? ⟨w.heap.size, 1, none⟩ = false := frozen_of_row _ _ _ _ 40 hres
      have s1 : (wr.setCell ⟨w.heap.size, 0, none⟩ (.slice a1 S.nb c1)).heap[w.heap.size]? = some (.cells #[.slice a1 S.nb c1, .slice none 0 0] 40 (0, 0)) := Go.heap_setCell_same wr w.heap.size 0 _ 40 _ hres
      have s2 : ((wr.setCell ⟨w.heap.size, 0, none⟩ (.slice a1 S.nb c1)).setCell ⟨w.heap.size, 1, none⟩ (.slice a2 S.nb c2)).heap[w.heap.size]? = some (.cells #[.slice a1 S.nb c1, .slice a2 S.nb c2] 40 (0, 0)) := Go.heap_setCell_same _ w.heap.size 1 _ 40 _ s1
      have K2 : ∀ b, b ≠ w.heap.size → ((wr.setCell ⟨w.heap.size, 0, none⟩ (.slice a1 S.nb c1)).setCell ⟨w.heap.size, 1, none⟩ (.slice a2 S.nb c2)).heap[b]? = wr.heap[b]? := fun b hb => (Go.heap_setCell_other _ _ _ _ hb).trans (Go.heap_setCell_other _ _ _ _ hb)
      have law2 : Law w.heap.size L.U wr ((wr.setCell ⟨w.heap.size, 0, none⟩ (.slice a1 S.nb c1)).setCell ⟨w.heap.size, 1, none⟩ (.slice a2 S.nb c2)) := (Law.setCell (Nat.le_refl _) hw2).trans (Law.setCell (Nat.le_refl _) hw2)
      have nr : ∀ (g : Nat) (cs : Array Value) (t : TypeId), wr.heap[g]? = some (Obj.cells cs t (0, 0)) → t ≠ 40 → g ≠ w.heap.size := fun g cs t hg ht e => by
        rw [e, hres] at hg
        simp only [Option.some.injEq, Obj.cells.injEq] at hg
        exact ht hg.2.1.symm
      have HSA : Hid (SeenAt ((wr.setCell ⟨w.heap.size, 0, none⟩ (.slice a1 S.nb c1)).setCell ⟨w.heap.size, 1, none⟩ (.slice a2 S.nb c2)) V (.slice a1 S.nb c1) (.slice a2 S.nb c2) ((List.range S.nb).map S.rdV) ((List.range S.nb).map S.rdE)) := hide (by
        obtain ⟨l1, ⟨vs, o1, o2⟩, l3, l4, l5⟩ := HI.out.sa
        refine ⟨l1, ⟨vs, ownsRow_keptIf o1 fun g hg => ?_, fun i v o hv hx => ?_⟩, ownsRow_keptIf l3 fun g hg => ?_, l4, l5⟩
        · obtain ⟨cs, hcs⟩ := ownBlock_cells o1 hg
          exact K2 g (nr g _ _ hcs (by decide))
        · have := o2 i v o hv hx
          cases o with
          | none => exact this
          | some l =>
            obtain ⟨g, e, hp, hu⟩ := this
            exact ⟨g, e, hp.kept (K2 g (nr g _ _ hp.1 (by decide))), hu⟩
        · obtain ⟨cs, hcs⟩ := ownBlock_cells l3 hg
          exact K2 g (nr g _ _ hcs (by decide)))
      have HS2 := hide s2
      have HLAW := hide law2
      clear s1 s2 K2 law2 nr hloc hres ho hoi
      go_wp2
      exact bodyPost_ret (v := .agg #[.slice a1 S.nb c1, .slice a2 S.nb c2]) (results_cell_row rfl _ _ w.heap.size 40 _ (0, 0) _ rfl HS2.out Try.underlying40 rfl (by kernel_rfl)) rfl
        ⟨_, _, rfl, HI.out.dk.law hB0w HLAW.out, HSA.out, HI.out.be.law HLAW.out⟩
theorem seen_any {w0 w : World} {L : Lay} {S : St} (hD : Dk w0 w L S) :
    Calls Try.prog 11 #[PD L, .int .i64 (S.nb : Int)] w fun e w' => SeenPost w0 w L S e w' := seen_wide hD hD.rep.uLt (fun _ h => h)
end Go.Proofs.Ytlpmpicmpklaoab
