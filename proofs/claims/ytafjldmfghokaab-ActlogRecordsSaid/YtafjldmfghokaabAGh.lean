import Derived.Test.YtafjldmfghokaabAGg
namespace Go.Proofs.Ytafjldmfghokaab
open Go.RowKit Go.Sort
open Num
set_option linter.unusedVariables false
set_option linter.unusedSimpArgs false
set_option maxRecDepth 20000

/-- both logs of one state; U: their blocks -/
structure TG0 (w : World) (lp rp M : Nat) (U : Nat → Prop) (p bm : Nat) (kv rv iv : Value) (S : LS) (q : Nat) (cv : Value) (C : List RC) (P ext size first written : Nat) : Prop where
  lg : LgR w lp p bm kv rv iv S ext size first written
  rg : RGR w rp q cv C P ext size ((first + written) % 4294967296) (min written 65535) (written * 4 % S.slots)
  rel : Rel S C P
  ok : S.Ok M
  pl : P ≤ M
  wl : written ≤ M
  ks : ∀ k ∈ S.ks, 0 ≤ k ∧ k < (ext : Int)
  x4 : ext ≤ 1024
  sz : size = 128 ∨ size = 256 ∨ size = 512 ∨ size = 1024
  ap : ∀ b, GU lp p bm kv rv iv b → ¬ RGU rp q cv b
  u : ∀ b, U b ↔ (GU lp p bm kv rv iv b ∨ RGU rp q cv b)
def TG (w : World) (lp rp M : Nat) (U : Nat → Prop) : Prop := ∃ p bm kv rv iv S q cv C P ext size first written, TG0 w lp rp M U p bm kv rv iv S q cv C P ext size first written
theorem TG.lt {w : World} {lp rp M : Nat} {U : Nat → Prop} (h : TG w lp rp M U) : ∀ b, U b → b < w.heap.size := by
  obtain ⟨p, bm, kv, rv, iv, S, q, cv, C, P, ext, size, first, written, h⟩ := h
  intro b e
  rcases (h.u b).1 e with e | e
  · exact h.lg.lt b e
  · exact h.rg.lt b e
theorem TG.kept {w w' : World} {lp rp M : Nat} {U : Nat → Prop} (h : TG w lp rp M U) (hk : ∀ b, U b → w'.heap[b]? = w.heap[b]?) : TG w' lp rp M U := by
  obtain ⟨p, bm, kv, rv, iv, S, q, cv, C, P, ext, size, first, written, h⟩ := h
  exact ⟨p, bm, kv, rv, iv, S, q, cv, C, P, ext, size, first, written, h.lg.kept fun b e => hk b ((h.u b).2 (.inl e)), h.rg.kept fun b e => hk b ((h.u b).2 (.inr e)), h.rel, h.ok, h.pl, h.wl, h.ks, h.x4, h.sz, h.ap, h.u⟩
theorem TG.below {w w' : World} {lp rp M : Nat} {U : Nat → Prop} (h : TG w lp rp M U) (hb : Below w.heap.size w w') : TG w' lp rp M U := h.kept fun b e => hb.block b (h.lt b e)
theorem TG.more {w : World} {lp rp M N : Nat} {U : Nat → Prop} (h : TG w lp rp M U) (hn : M ≤ N) : TG w lp rp N U := by
  obtain ⟨p, bm, kv, rv, iv, S, q, cv, C, P, ext, size, first, written, h⟩ := h
  exact ⟨p, bm, kv, rv, iv, S, q, cv, C, P, ext, size, first, written, h.lg, h.rg, h.rel, h.ok.more hn, Nat.le_trans h.pl hn, Nat.le_trans h.wl hn, h.ks, h.x4, h.sz, h.ap, h.u⟩
/-- the program's Begin is done, the document's not yet -/
def BgL (w : World) (lp rp M : Nat) (U : Nat → Prop) (x : Int) (r : Bg) : Prop :=
  ∃ p bm kv rv iv S S' q cv C P ext size first written written', LgR w lp p bm kv rv iv S' ext size first written' ∧ S'.Ok (M + 1) ∧ RGR w rp q cv C P ext size ((first + written) % 4294967296) (min written 65535) (written * 4 % S.slots) ∧ Rel S C P ∧ S.Ok M ∧ P ≤ M ∧ written ≤ M ∧ (∀ k ∈ S.ks, 0 ≤ k ∧ k < (ext : Int)) ∧ ext ≤ 1024 ∧ (size = 128 ∨ size = 256 ∨ size = 512 ∨ size = 1024) ∧ (∀ b, GU lp p bm kv rv iv b → ¬ RGU rp q cv b) ∧ (∀ b, U b ↔ (GU lp p bm kv rv iv b ∨ RGU rp q cv b)) ∧ BegRes S ext size first written x S' written' r
theorem BgL.below {w w' : World} {lp rp M : Nat} {U : Nat → Prop} {x : Int} {r : Bg} (h : BgL w lp rp M U x r) (hb : Below w.heap.size w w') : BgL w' lp rp M U x r := by
  obtain ⟨p, bm, kv, rv, iv, S, S', q, cv, C, P, ext, size, first, written, written', h1, h2, h3, h4⟩ := h
  exact ⟨p, bm, kv, rv, iv, S, S', q, cv, C, P, ext, size, first, written, written', h1.below hb, h2, h3.below hb, h4⟩
theorem BgL.lt {w : World} {lp rp M : Nat} {U : Nat → Prop} {x : Int} {r : Bg} (h : BgL w lp rp M U x r) : ∀ b, U b → b < w.heap.size := by
  obtain ⟨p, bm, kv, rv, iv, S, S', q, cv, C, P, ext, size, first, written, written', h1, h2, h3, h4, h5, h6, h7, h8, h9, h10, h11, h12, h13⟩ := h
  intro b e
  rcases (h12 b).1 e with e | e
  · exact h1.lt b e
  · exact h3.lt b e
/-- the record that the program hands out -/
def RcV (w w' : World) (U : Nat → Prop) (v : Value) : Option (List Nat) → Prop
  | none => v = .slice none 0 0
  | some bs => ∃ g, v = .slice (some ⟨g, 0, none⟩) bs.length bs.length ∧ w'.heap[g]? = some (.cells (byts bs) 5 (0, 0)) ∧ w.heap.size ≤ g ∧ ¬ U g ∧ bs.length ≤ 5000
theorem BegRes.len {S S' : LS} {ext size first written w' : Nat} {x : Int} {r : Bg} (h : BegRes S ext size first written x S' w' r) (hs : size = 128 ∨ size = 256 ∨ size = 512 ∨ size = 1024) : ∀ bs, r.bs = some bs → bs.length ≤ 5000 := by
  rcases h with ⟨a1, rfl, rfl, rfl⟩ | ⟨a1, s1, o1, g1, e1, h1, rfl, rfl⟩ | ⟨a1, s1, o1, g1, h1, rfl, rfl⟩
  · intro bs e; cases e
  · intro bs e; cases e
  · intro bs e
    have e2 := Option.some.inj e
    rw [← e2, recOf_len (by omega)]
    omega
theorem tg_beginL {w : World} {lp rp M : Nat} {U : Nat → Prop} (h : TG w lp rp M U) (hM : M ≤ 1000000000000000) (x : Int) :
    Calls Try.prog 13 #[.pointer (some ⟨lp, 0, none⟩), .int .i64 x] w fun e w' => ∃ r v U', e = .returned (.tuple #[.agg #[.int .i64 r.c0, .int .i64 r.c1, .int .i64 r.c2], v, .int .i64 r.er]) ∧ BgL w' lp rp M U' x r ∧ RcV w w' U' v r.bs ∧ Chg U w w' ∧ ∀ b, U' b → U b ∨ w.heap.size ≤ b := by
  obtain ⟨p, bm, kv, rv, iv, S, q, cv, C, P, ext, size, first, written, h⟩ := h
  have hwl := h.wl
  refine (begin_any h.lg h.ok (by omega) (by omega) h.x4 h.sz x).mono ?_
  rintro e w' ⟨S', written', r, v, kv', rv', iv', rfl, hr, hrc, hl, ho, hc, hloc⟩
  have hrk : RGR w' rp q cv C P ext size ((first + written) % 4294967296) (min written 65535) (written * 4 % S.slots) := h.rg.kept fun b e => hc.keep b (h.rg.lt b e) fun e2 => h.ap b e2 e
  have hap : ∀ b, GU lp p bm kv' rv' iv' b → ¬ RGU rp q cv b := fun b e1 e2 => by
    rcases hloc b e1 with e | e
    · exact h.ap b e e2
    · have := h.rg.lt b e2; omega
  refine ⟨r, v, fun b => GU lp p bm kv' rv' iv' b ∨ RGU rp q cv b, rfl, ⟨p, bm, kv', rv', iv', S, S', q, cv, C, P, ext, size, first, written, written', hl, ho, hrk, h.rel, h.ok, h.pl, h.wl, h.ks, h.x4, h.sz, hap, fun b => Iff.rfl, hr⟩, ?_, hc.mono fun b _ e => (h.u b).2 (.inl e), fun b e => ?_⟩
  · cases hb : r.bs with
    | none => rw [hb] at hrc; exact hrc
    | some bs =>
      rw [hb] at hrc
      obtain ⟨g, q1, q2, q3, q4⟩ := hrc
      exact ⟨g, q1, q2, q3, fun e => (by
        rcases e with e | e
        · exact q4 e
        · have := h.rg.lt g e; omega), hr.len h.sz bs hb⟩
  · rcases e with e | e
    · rcases hloc b e with e | e
      · exact .inl ((h.u b).2 (.inl e))
      · exact .inr e
    · exact .inl ((h.u b).2 (.inr e))
theorem begDet {S S1 S2 : LS} {M ext size first written w1 w2 : Nat} {x : Int} {r1 r2 : Bg} (hS : S.Ok M) (h1 : BegRes S ext size first written x S1 w1 r1) (h2 : BegRes S ext size first written x S2 w2 r2) : S1 = S2 ∧ w1 = w2 ∧ r1 = r2 := by
  rcases h1 with ⟨a1, rfl, rfl, rfl⟩ | ⟨a1, s1, o1, g1, e1, h1, rfl, rfl⟩ | ⟨a1, s1, o1, g1, h1, rfl, rfl⟩ <;> rcases h2 with ⟨a2, rfl, rfl, rfl⟩ | ⟨a2, s2, o2, g2, e2, h2, rfl, rfl⟩ | ⟨a2, s2, o2, g2, h2, rfl, rfl⟩
  · exact ⟨rfl, rfl, rfl⟩
  · exact absurd a2 a1
  · exact absurd a2 a1
  · exact absurd a1 a2
  · obtain ⟨rfl, rfl, -, rfl, rfl, rfl⟩ := getDet hS h1 h2
    exact ⟨rfl, rfl, rfl⟩
  · have := (getDet hS h1 h2).2.2.1
    cases this
  · exact absurd a1 a2
  · have := (getDet hS h1 h2).2.2.1
    cases this
  · obtain ⟨rfl, rfl, -, rfl, rfl, -⟩ := getDet hS h1 h2
    exact ⟨rfl, rfl, rfl⟩
theorem BegRes.ks {S S' : LS} {ext size first written w' : Nat} {x : Int} {r : Bg} (h : BegRes S ext size first written x S' w' r) (hk : ∀ k ∈ S.ks, 0 ≤ k ∧ k < (ext : Int)) : (∀ k ∈ S'.ks, 0 ≤ k ∧ k < (ext : Int)) ∧ S'.slots = S.slots ∧ w' ≤ written + 1 := by
  have key : ∀ {slot fresh old gone er}, (0 ≤ x ∧ x < (ext : Int)) → GetRes S x S' slot fresh old gone er → ∀ k ∈ S'.ks, 0 ≤ k ∧ k < (ext : Int) := fun hx hg k e => by
    rcases hg.ks.1 k e with e | e
    · exact hk k e
    · subst e; exact hx
  rcases h with ⟨a1, rfl, rfl, rfl⟩ | ⟨a1, s1, o1, g1, e1, h1, rfl, rfl⟩ | ⟨a1, s1, o1, g1, h1, rfl, rfl⟩
  · exact ⟨hk, rfl, by omega⟩
  · exact ⟨key a1 h1, h1.slots, by omega⟩
  · exact ⟨key a1 h1, h1.slots, by omega⟩
theorem tg_beginR {w : World} {lp rp M : Nat} {U : Nat → Prop} {x : Int} {r : Bg} (h : BgL w lp rp M U x r) (hM : M ≤ 1000000000000000) :
    Calls Try.prog 88 #[.pointer (some ⟨rp, 0, none⟩), .int .i64 x] w fun e w' => ∃ v, e = .returned (.tuple #[.agg #[.int .i64 r.c0, .int .i64 r.c1, .int .i64 r.c2], v, .int .i64 r.er]) ∧ RcG w' v r.bs ∧ TG w' lp rp (M + 1) U ∧ Chg U w w' := by
  obtain ⟨p, bm, kv, rv, iv, S, S', q, cv, C, P, ext, size, first, written, written', h1, h2, h3, h4, h5, h6, h7, h8, h9, h10, h11, h12, h13⟩ := h
  refine (gBegin_any h3 h4 h5 (by omega) (by omega) h9 (by omega) h8 x).mono ?_
  rintro e w' ⟨S2, w2, r2, v, C', rfl, hr, hrc, hg, hrel, hc⟩
  obtain ⟨rfl, rfl, rfl⟩ := begDet h5 h13 hr
  obtain ⟨k1, k2, k3⟩ := hr.ks h8
  refine ⟨v, rfl, hrc, ⟨p, bm, kv, rv, iv, S', q, cv, C', P, ext, size, first, written', h1.kept fun b e => hc.keep b (h1.lt b e) (h11 b e), by rw [k2]; exact hg, hrel, h2, by omega, by omega, k1, h9, h10, h11, h12⟩, hc.mono fun b _ e => (h12 b).2 (.inr e)⟩
/-- the program's End is done, the document's not yet -/
def EnL (w : World) (lp rp M : Nat) (U : Nat → Prop) (x er : Int) : Prop :=
  ∃ p bm kv rv iv S S' q cv C P ext size first written, LgR w lp p bm kv rv iv S' ext size first written ∧ S'.Ok M ∧ RGR w rp q cv C P ext size ((first + written) % 4294967296) (min written 65535) (written * 4 % S.slots) ∧ Rel S C P ∧ S.Ok M ∧ P ≤ M ∧ written ≤ M ∧ (∀ k ∈ S.ks, 0 ≤ k ∧ k < (ext : Int)) ∧ ext ≤ 1024 ∧ (size = 128 ∨ size = 256 ∨ size = 512 ∨ size = 1024) ∧ (∀ b, GU lp p bm kv rv iv b → ¬ RGU rp q cv b) ∧ (∀ b, U b ↔ (GU lp p bm kv rv iv b ∨ RGU rp q cv b)) ∧ ((¬ (0 ≤ x ∧ x < (ext : Int)) ∧ S' = S ∧ er = 2) ∨ ((0 ≤ x ∧ x < (ext : Int)) ∧ PutRes S x S' er))
theorem EnL.below {w w' : World} {lp rp M : Nat} {U : Nat → Prop} {x er : Int} (h : EnL w lp rp M U x er) (hb : Below w.heap.size w w') : EnL w' lp rp M U x er := by
  obtain ⟨p, bm, kv, rv, iv, S, S', q, cv, C, P, ext, size, first, written, h1, h2, h3, h4⟩ := h
  exact ⟨p, bm, kv, rv, iv, S, S', q, cv, C, P, ext, size, first, written, h1.below hb, h2, h3.below hb, h4⟩
theorem tg_endL {w : World} {lp rp M : Nat} {U : Nat → Prop} (h : TG w lp rp M U) (hM : M ≤ 1000000000000000) {x : Int} (hx : i64ok x) :
    Calls Try.prog 16 #[.pointer (some ⟨lp, 0, none⟩), .int .i64 x] w fun e w' => ∃ er U', e = .returned (.int .i64 er) ∧ EnL w' lp rp M U' x er ∧ Chg U w w' ∧ ∀ b, U' b → U b ∨ w.heap.size ≤ b := by
  obtain ⟨p, bm, kv, rv, iv, S, q, cv, C, P, ext, size, first, written, h⟩ := h
  refine (lEnd_any h.lg h.ok (by omega) hx).mono ?_
  rintro e w' (⟨h1, rfl, rfl⟩ | ⟨h1, S', er, iv', hp, rfl, hl, ho, hc, hloc⟩)
  · exact ⟨2, U, rfl, ⟨p, bm, kv, rv, iv, S, S, q, cv, C, P, ext, size, first, written, h.lg, h.ok, h.rg, h.rel, h.ok, h.pl, h.wl, h.ks, h.x4, h.sz, h.ap, h.u, .inl ⟨h1, rfl, rfl⟩⟩, Chg.refl _ _, fun b e => .inl e⟩
  · have hrk : RGR w' rp q cv C P ext size ((first + written) % 4294967296) (min written 65535) (written * 4 % S.slots) := h.rg.kept fun b e => hc.keep b (h.rg.lt b e) fun e2 => h.ap b (.inr e2) e
    have hlo : ∀ b, GU lp p bm kv rv iv' b → GU lp p bm kv rv iv b ∨ w.heap.size ≤ b := fun b e => by
      rcases e with e | e
      · exact .inl (.inl e)
      · rcases hloc b e with e | e
        · exact .inl (.inr e)
        · exact .inr e
    refine ⟨er, fun b => GU lp p bm kv rv iv' b ∨ RGU rp q cv b, rfl, ⟨p, bm, kv, rv, iv', S, S', q, cv, C, P, ext, size, first, written, hl, ho, hrk, h.rel, h.ok, h.pl, h.wl, h.ks, h.x4, h.sz, fun b e1 e2 => ?_, fun b => Iff.rfl, .inr ⟨h1, hp⟩⟩, hc.mono fun b _ e => (h.u b).2 (.inl (.inr e)), fun b e => ?_⟩
    · rcases hlo b e1 with e | e
      · exact h.ap b e e2
      · have := h.rg.lt b e2; omega
    · rcases e with e | e
      · rcases hlo b e with e | e
        · exact .inl ((h.u b).2 (.inl e))
        · exact .inr e
      · exact .inl ((h.u b).2 (.inr e))
theorem tg_endR {w : World} {lp rp M : Nat} {U : Nat → Prop} {x er : Int} (h : EnL w lp rp M U x er) (hM : M ≤ 1000000000000000) :
    Calls Try.prog 91 #[.pointer (some ⟨rp, 0, none⟩), .int .i64 x] w fun e w' => e = .returned (.int .i64 er) ∧ TG w' lp rp (M + 1) U ∧ Chg U w w' := by
  obtain ⟨p, bm, kv, rv, iv, S, S', q, cv, C, P, ext, size, first, written, h1, h2, h3, h4, h5, h6, h7, h8, h9, h10, h11, h12, h13⟩ := h
  refine (gEnd_any h3 h4 h5 (by omega) (by omega) x).mono ?_
  rintro e w' (⟨g1, rfl, rfl⟩ | ⟨g1, S2, er2, C', P', hp, rfl, hg, hrel, hP, hc⟩)
  · rcases h13 with ⟨-, rfl, rfl⟩ | ⟨k, -⟩
    · exact ⟨rfl, ⟨p, bm, kv, rv, iv, S', q, cv, C, P, ext, size, first, written, h1, h3, h4, h2.more (by omega), by omega, by omega, h8, h9, h10, h11, h12⟩, Chg.refl _ _⟩
    · exact absurd k g1
  · rcases h13 with ⟨k, -⟩ | ⟨-, k⟩
    · exact absurd g1 k
    · obtain ⟨rfl, rfl⟩ := putDet h5 k hp
      obtain ⟨k1, k2⟩ := k.ks
      exact ⟨rfl, ⟨p, bm, kv, rv, iv, S', q, cv, C', P', ext, size, first, written, h1.kept fun b e => hc.keep b (h1.lt b e) (fun e2 => h11 b e (.inr e2)), by rw [k2]; exact hg, hrel, h2.more (by omega), by omega, by omega, by rw [k1]; exact h8, h9, h10, h11, h12⟩, hc.mono fun b _ e => (h12 b).2 (.inr (.inr e))⟩
theorem tg_refs {w : World} {lp rp M : Nat} {U : Nat → Prop} (h : TG w lp rp M U) {x : Int} (hx : i64ok x) : ∃ r : Int, ∀ n,
    Calls Try.prog 108 #[.pointer (some ⟨lp, 0, none⟩), .int .i64 x] (w.drewN n) (fun e w' => e = .returned (.int .i64 r) ∧ w' = w.drewN n) ∧
    Calls Try.prog 109 #[.pointer (some ⟨rp, 0, none⟩), .int .i64 x] (w.drewN n) (fun e w' => e = .returned (.int .i64 r) ∧ w' = w.drewN n) := by
  obtain ⟨p, bm, kv, rv, iv, S, q, cv, C, P, ext, size, first, written, h⟩ := h
  have hex : ∃ r, RefRes S x r := by
    by_cases hin : x ∈ S.ks
    · obtain ⟨s, hs⟩ := List.getElem?_of_mem hin
      exact ⟨_, .inl ⟨s, hs, (h.rel.us s (List.getElem?_eq_some_iff.1 hs).1).2.2⟩⟩
    · exact ⟨0, .inr ⟨hin, rfl⟩⟩
  obtain ⟨r, hr⟩ := hex
  refine ⟨(r : Int), fun n => ⟨(lRefs_any (h.lg.below (below_drewN (Below.refl _ _) n)) h.ok hx).mono ?_, (gRefs_any (h.rg.below (below_drewN (Below.refl _ _) n)) h.rel h.ok x).mono ?_⟩⟩
  · rintro e w' ⟨r', rfl, rfl, hr'⟩
    rw [refDet h.ok hr hr']
    exact ⟨rfl, rfl⟩
  · rintro e w' ⟨r', rfl, rfl, hr'⟩
    rw [refDet h.ok hr hr']
    exact ⟨rfl, rfl⟩
theorem tg_hot {w : World} {lp rp M : Nat} {U : Nat → Prop} (h : TG w lp rp M U) : ∃ T : List Int, T.length ≤ 5000 ∧ ∀ w1, Below w.heap.size w w1 →
    Calls Try.prog 34 #[.pointer (some ⟨lp, 0, none⟩)] w1 (fun e w' => ∃ v, e = .returned v ∧ GIn w1 w' v T) ∧
    Calls Try.prog 110 #[.pointer (some ⟨rp, 0, none⟩)] w1 (fun e w' => ∃ v, e = .returned v ∧ GIn w1 w' v T) := by
  obtain ⟨p, bm, kv, rv, iv, S, q, cv, C, P, ext, size, first, written, h⟩ := h
  refine ⟨hotL S, ?_, fun w1 hb => ⟨(hot_any (h.lg.below hb) h.ok).mono ?_, gHot_any (h.rg.below hb) h.rel h.ok h.x4 h.ks⟩⟩
  · unfold hotL
    rw [List.length_mergeSort]
    have := h.ok.keys_len
    have := h.ok.kl
    have := h.ok.s2
    omega
  · rintro e w' ⟨v, rfl, hv, hb2, hn⟩
    exact ⟨v, rfl, hv, hb2, hn⟩
theorem tg_slots {w : World} {lp rp M : Nat} {U : Nat → Prop} (h : TG w lp rp M U) : ∃ T : List Int, T.length ≤ 5000 ∧ ∀ w1, Below w.heap.size w w1 →
    Calls Try.prog 23 #[.pointer (some ⟨lp, 0, none⟩)] w1 (fun e w' => ∃ v, e = .returned v ∧ GIn w1 w' v T) ∧
    Calls Try.prog 105 #[.pointer (some ⟨rp, 0, none⟩)] w1 (fun e w' => ∃ v, e = .returned v ∧ GIn w1 w' v T) := by
  obtain ⟨p, bm, kv, rv, iv, S, q, cv, C, P, ext, size, first, written, h⟩ := h
  have hl := rowL_len h.ok
  have h2 := h.ok.s2
  refine ⟨rowL S, by omega, fun w1 hb => ⟨(slots_any (h.lg.below hb) h.ok).mono ?_, gSlots_any (h.rg.below hb) h.rel h.ok⟩⟩
  rintro e w' ⟨zs, hz, rfl, hr, rfl, hb2⟩
  refine ⟨_, rfl, ⟨?_, hb2, fun b e => by simp [Value.ownBlock] at e; omega⟩⟩
  rw [show S.ks ++ List.replicate (S.slots - S.ks.length) (-1) = rowL S from rfl] at hr
  rw [hl]
  refine ⟨by simp [hl], .inr ⟨w1.heap.size, S.slots, _, rfl, Nat.zero_le _, hr, Nat.le_refl _, by unfold maxLen; omega, ?_, ?_⟩⟩
  · simp [ints, hl]
  · rw [List.take_of_length_le (by simp [ints, hl])]
    simp [ints]
theorem tg_num {w : World} {lp rp M : Nat} {U : Nat → Prop} (h : TG w lp rp M U) (hM : M ≤ 1000000000000000) : ∃ n : Int, ∀ w1, Below w.heap.size w w1 →
    Calls Try.prog 12 #[.pointer (some ⟨lp, 0, none⟩)] w1 (fun e w' => e = .returned (.int .u32 n) ∧ Qt w1 w') ∧ w1.cell? ⟨rp, 3, none⟩ = some (.int .u32 n) := by
  obtain ⟨p, bm, kv, rv, iv, S, q, cv, C, P, ext, size, first, written, h⟩ := h
  have hwl := h.wl
  exact ⟨_, fun w1 hb => ⟨number_any (h.lg.below hb) (by omega), (h.rg.below hb).c 3⟩⟩
end Go.Proofs.Ytafjldmfghokaab
