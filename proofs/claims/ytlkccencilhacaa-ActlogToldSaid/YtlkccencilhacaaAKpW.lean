import Derived.Test.YtlkccencilhacaaAKpT
namespace Go.Proofs.Ytlkccencilhacaa
open Go.RowKit Go.Sort
set_option linter.unusedVariables false
set_option linter.unusedSimpArgs false
set_option maxRecDepth 20000

/-- a log and the law's book, in a run that began at w0; the book in memory is Lm, and Lk says what the log does -/
structure KD (w0 x : World) (lp p bm : Nat) (kv rv iv : Value) (S : LS) (n ext size first written : Nat) (v : Value) (Lm Lk : List Us) (i : Nat) : Prop where
  lg : LgR x lp p bm kv rv iv S ext size first written
  ok : S.Ok i
  sl : S.slots = n
  bk : BkR w0.heap.size x v Lm
  kb : Kb S Lk ext i
  be : Below w0.heap.size w0 x
  lo : ∀ b, GU lp p bm kv rv iv b → w0.heap.size ≤ b
  wr : written ≤ i
def KW (w0 x : World) (lp n ext size first : Nat) (v : Value) (Lm Lk : List Us) (i : Nat) : Prop := ∃ p bm kv rv iv S written, KD w0 x lp p bm kv rv iv S n ext size first written v Lm Lk i
theorem LgR.notBook {w : World} {lp p bm : Nat} {kv rv iv : Value} {S : LS} {ext size first written : Nat} (h : LgR w lp p bm kv rv iv S ext size first written) {base : Nat} {bv : Value} {L : List Us} (hb : BkR base w bv L) : ∀ g, bv.ownBlock = some g → ¬ GU lp p bm kv rv iv g := fun g hg e => by
  rcases e with rfl | e
  · obtain ⟨cs, hcs⟩ := rowCells hb hg
    have h1 := h.row
    rw [hcs] at h1
    simp only [Option.some.injEq, Obj.cells.injEq] at h1
    exact absurd h1.2.1 (by decide)
  · exact h.l.notBook hb g hg e
/-- blocks of operations stay -/
def OpS (x z : World) : Prop := ∀ (g : Nat) (cs : Array Value), x.heap[g]? = some (.cells cs 42 (0, 0)) → z.heap[g]? = some (.cells cs 42 (0, 0))
theorem OpS.trans {x y z : World} (h : OpS x y) (k : OpS y z) : OpS x z := fun g cs e => k g cs (h g cs e)
theorem OpS.ofBelow {x z : World} (h : Below x.heap.size x z) : OpS x z := fun g cs e => (h.block g (Array.getElem?_eq_some_iff.1 e).1).trans e
theorem LgR.notOp {w : World} {lp p bm : Nat} {kv rv iv : Value} {S : LS} {ext size first written : Nat} (h : LgR w lp p bm kv rv iv S ext size first written) {g : Nat} {cs : Array Value} (hc : w.heap[g]? = some (.cells cs 42 (0, 0))) : ¬ GU lp p bm kv rv iv g := by
  have key : ∀ (v : Value) (n : Nat) (xs : List Value), w.ownsRow 0 3 1 v n xs → v.ownBlock ≠ some g := fun v n xs hv e => by
    obtain ⟨ds, hd⟩ := rowCells hv e
    exact neType hc hd (by decide) rfl
  rintro (e | e | e | e | e | e)
  · exact neType hc h.row (by decide) e
  · exact neType hc h.l.row (by decide) e
  · exact h.l.mp.neCells hc e
  · exact key _ _ _ h.l.ko e
  · exact key _ _ _ h.l.ro e
  · exact key _ _ _ h.l.io e
theorem LgR.ops {w z : World} {lp p bm : Nat} {kv rv iv : Value} {S : LS} {ext size first written : Nat} (h : LgR w lp p bm kv rv iv S ext size first written) (hc : Chg (GU lp p bm kv rv iv) w z) : OpS w z := fun g cs e => (hc.keep g (Array.getElem?_eq_some_iff.1 e).1 (h.notOp e)).trans e
section
variable {w0 x y : World} {lp n ext size first : Nat} {v v' : Value} {L Lm Lk Lm' : List Us} {i : Nat}
theorem KW.be (h : KW w0 x lp n ext size first v Lm Lk i) : Below w0.heap.size w0 x := by
  obtain ⟨p, bm, kv, rv, iv, S, written, h⟩ := h
  exact h.be
theorem KW.bk (h : KW w0 x lp n ext size first v Lm Lk i) : BkR w0.heap.size x v Lm := by
  obtain ⟨p, bm, kv, rv, iv, S, written, h⟩ := h
  exact h.bk
theorem KW.len (h : KW w0 x lp n ext size first v Lm Lk i) : Lk.length ≤ ext := by
  obtain ⟨p, bm, kv, rv, iv, S, written, h⟩ := h
  exact h.kb.len
theorem KW.gb (h : KW w0 x lp n ext size first v Lm Lk i) : ∀ u ∈ Lk, u.back ≤ u.got ∧ u.got ≤ i := by
  obtain ⟨p, bm, kv, rv, iv, S, written, h⟩ := h
  exact h.kb.gb
theorem KW.uniq (h : KW w0 x lp n ext size first v Lm Lk i) {a b : Nat} {u t : Us} (ha : Lk[a]? = some u) (hb : Lk[b]? = some t) (e : u.key = t.key) : a = b := by
  obtain ⟨p, bm, kv, rv, iv, S, written, h⟩ := h
  exact h.kb.uniq ha hb e
theorem KW.below (h : KW w0 x lp n ext size first v Lm Lk i) (hb : Below x.heap.size x y) : KW w0 y lp n ext size first v Lm Lk i := by
  obtain ⟨p, bm, kv, rv, iv, S, written, h⟩ := h
  exact ⟨p, bm, kv, rv, iv, S, written, h.lg.below hb, h.ok, h.sl, h.bk.kept fun g e => hb.block g (h.bk.lt g e).2, h.kb, h.be.trans (hb.mono h.be.size), h.lo, h.wr⟩
/-- the book turned -/
theorem KW.book (h : KW w0 x lp n ext size first v Lm Lk i) (hb : BkR w0.heap.size y v' Lm') (hc : Chg (fun b => v.ownBlock = some b) x y) : KW w0 y lp n ext size first v' Lm' Lk i := by
  obtain ⟨p, bm, kv, rv, iv, S, written, h⟩ := h
  refine ⟨p, bm, kv, rv, iv, S, written, h.lg.kept fun b e => hc.keep b (h.lg.lt b e) (fun e2 => h.lg.notBook h.bk b e2 e), h.ok, h.sl, hb, h.kb, h.be.trans (hc.below h.be.size fun b e => ?_), h.lo, h.wr⟩
  exact (h.bk.lt b e).1
theorem KD.turn {p bm : Nat} {kv rv iv kv' rv' iv' : Value} {S S' : LS} {written written' : Nat} {Lk' : List Us} {i' : Nat} (h : KD w0 x lp p bm kv rv iv S n ext size first written v Lm Lk i) (q1 : LgR y lp p bm kv' rv' iv' S' ext size first written') (q2 : S'.Ok i') (q3 : S'.slots = S.slots) (q4 : Kb S' Lk' ext i') (q5 : Chg (GU lp p bm kv rv iv) x y) (q6 : ∀ b, GU lp p bm kv' rv' iv' b → GU lp p bm kv rv iv b ∨ x.heap.size ≤ b) (q7 : written' ≤ i') : KW w0 y lp n ext size first v Lm Lk' i' := by
  have hs := h.be.size
  refine ⟨p, bm, kv', rv', iv', S', written', q1, q2, q3.trans h.sl, h.bk.kept fun g e => q5.keep g (h.bk.lt g e).2 (h.lg.notBook h.bk g e), q4, h.be.trans (q5.below hs h.lo), fun b e => ?_, q7⟩
  rcases q6 b e with e | e
  · exact h.lo b e
  · omega
/-- what Begin does here -/
def BgK (w0 z : World) (lp n ext size first : Nat) (v : Value) (L : List Us) (i : Nat) (x er : Int) : Prop :=
  (¬ (0 ≤ x ∧ x < (ext : Int)) ∧ er = 2 ∧ KW w0 z lp n ext size first v L L (i + 1)) ∨
  ((0 ≤ x ∧ x < (ext : Int)) ∧ (busyN L = n ∧ ∀ u ∈ L, u.key = x → u.got = u.back) ∧ er = 41 ∧ KW w0 z lp n ext size first v L L (i + 1)) ∨
  ((0 ≤ x ∧ x < (ext : Int)) ∧ ¬ (busyN L = n ∧ ∀ u ∈ L, u.key = x → u.got = u.back) ∧ er = 0 ∧ (∀ (j : Nat) u, L[j]? = some u → u.key = x → KW w0 z lp n ext size first v L (L.set j { u with got := u.got + 1 }) (i + 1)) ∧ ((∀ u ∈ L, u.key ≠ x) → KW w0 z lp n ext size first v L (L ++ [⟨x, 1, 0, 0⟩]) (i + 1)))
theorem BgK.no {z : World} {k er : Int} (h : BgK w0 z lp n ext size first v L i k er) (hn : ¬ (0 ≤ k ∧ k < (ext : Int))) : er = 2 ∧ KW w0 z lp n ext size first v L L (i + 1) := by
  rcases h with ⟨-, h⟩ | ⟨h1, -⟩ | ⟨h1, -⟩
  · exact h
  · exact absurd h1 hn
  · exact absurd h1 hn
theorem BgK.full {z : World} {k er : Int} (h : BgK w0 z lp n ext size first v L i k er) (hi : 0 ≤ k ∧ k < (ext : Int)) (hf : busyN L = n ∧ ∀ u ∈ L, u.key = k → u.got = u.back) : er = 41 ∧ KW w0 z lp n ext size first v L L (i + 1) := by
  rcases h with ⟨h1, -⟩ | ⟨-, -, h⟩ | ⟨-, h1, -⟩
  · exact absurd hi h1
  · exact h
  · exact absurd hf h1
theorem BgK.more {z : World} {k er : Int} (h : BgK w0 z lp n ext size first v L i k er) (hi : 0 ≤ k ∧ k < (ext : Int)) (hf : ¬ (busyN L = n ∧ ∀ u ∈ L, u.key = k → u.got = u.back)) : er = 0 ∧ (∀ (j : Nat) u, L[j]? = some u → u.key = k → KW w0 z lp n ext size first v L (L.set j { u with got := u.got + 1 }) (i + 1)) ∧ ((∀ u ∈ L, u.key ≠ k) → KW w0 z lp n ext size first v L (L ++ [⟨k, 1, 0, 0⟩]) (i + 1)) := by
  rcases h with ⟨h1, -⟩ | ⟨-, h1, -⟩ | ⟨-, -, h⟩
  · exact absurd hi h1
  · exact absurd h1 hf
  · exact h
theorem okMore {S : LS} {M : Nat} (hS : S.Ok M) : S.Ok (M + 1) := ⟨hS.s1, hS.s2, hS.kl, hS.rl, hS.kd, hS.id, hS.im, hS.kb, fun r hr => Nat.le_trans (hS.rb r hr) (Nat.le_succ _), hS.me⟩
theorem KW.begin (h : KW w0 x lp n ext size first v L L i) (hi : i ≤ 1000000000000000) (hx4 : ext ≤ 1024) (hsz : size = 128 ∨ size = 256 ∨ size = 512 ∨ size = 1024) (k : Int) :
    Calls Try.prog 18 #[.pointer (some ⟨lp, 0, none⟩), .int .i64 k] x fun e z => ∃ c0 c1 c2 v2 er, e = .returned (.tuple #[.agg #[.int .i64 c0, .int .i64 c1, .int .i64 c2], v2, .int .i64 er]) ∧ BgK w0 z lp n ext size first v L i k er ∧ OpS x z := by
  obtain ⟨p, bm, kv, rv, iv, S, written, h⟩ := h
  have hwr := h.wr
  refine (begin_any h.lg h.ok (by omega) (by omega) hx4 hsz k).mono ?_
  rintro e z ⟨S', written', r, v2, kv', rv', iv', rfl, hr, hrc, hl, ho, hc, hloc⟩
  refine ⟨_, _, _, _, _, rfl, ?_, h.lg.ops hc⟩
  have hfull := h.kb.full h.ok
  rcases hr with ⟨h1, rfl, rfl, rfl⟩ | ⟨h1, slot, old, gone, er, hg, rfl, rfl⟩ | ⟨h1, slot, old, gone, hg, rfl, rfl⟩
  · exact .inl ⟨h1, rfl, h.turn hl ho rfl h.kb.next hc hloc (by omega)⟩
  · rcases hg with ⟨s, g1, g2, g3, -, -, -, rfl⟩ | ⟨g1, g2, g3, g4, g5, -⟩ | ⟨g1, g2, s, t, o, g3, g4, g5, g6, g7, -⟩ | ⟨g1, g2, g3, rfl, -, -, -, -, rfl⟩
    · have hg : GetRes S k S' slot false 0 false 0 := .inl ⟨s, g1, g2, g3, rfl, rfl, rfl, rfl⟩
      obtain ⟨r1, r2⟩ := hg.refs h.ok rfl
      refine .inr (.inr ⟨h1, fun ⟨hb, hall⟩ => ?_, rfl, fun j u hj hu => ?_, fun hn => ?_⟩)
      · have hf := hfull.2.1 (hb.trans h.sl.symm)
        have hsl : s < S.rs.length := by rw [h.ok.rl]; exact (List.getElem?_eq_some_iff.1 g1).1
        have hr0 : RefRes S k S.rs[s] := .inl ⟨s, g1, List.getElem?_eq_getElem hsl⟩
        have hpos : 0 < S.rs[s] := by
          refine Nat.pos_of_ne_zero fun e => ?_
          have : s ∈ S.idle := (h.ok.im s).2 (by rw [List.getElem?_eq_getElem hsl, e])
          rw [hf.2] at this
          simp at this
        obtain ⟨u, hu, e⟩ := h.kb.cv k _ hr0 hpos
        have e1 := hall u hu e
        have e2 := RefRes.uniq h.ok (e ▸ h.kb.rf u hu) hr0
        omega
      · subst hu
        have hu := List.mem_of_getElem? hj
        have hgb := h.kb.gb u hu
        refine h.turn hl ho hg.slots (h.kb.line h.ok ho hj rfl ⟨?_, ?_⟩ r1 ?_) hc hloc (by omega)
        · show u.back ≤ u.got + 1; omega
        · show u.got + 1 ≤ i + 1; omega
        · have := r2 _ (h.kb.rf u hu)
          rwa [show u.got - u.back + 1 = u.got + 1 - u.back by omega] at this
      · exact h.turn hl ho hg.slots (h.kb.more h.ok ho hn h1 r1 r2) hc hloc (by omega)
    · cases g5
    · cases g7
    · refine .inr (.inl ⟨h1, ⟨(hfull.2.2 ⟨g2, g3⟩).trans h.sl, fun u hu e => ?_⟩, rfl, h.turn hl ho rfl h.kb.next hc hloc (by omega)⟩)
      have hgb := h.kb.gb u hu
      have := RefRes.uniq h.ok (e ▸ h.kb.rf u hu) (.inr ⟨g1, rfl⟩)
      omega
  · obtain ⟨r1, r2⟩ := hg.refs h.ok rfl
    refine .inr (.inr ⟨h1, fun ⟨hb, hall⟩ => ?_, rfl, fun j u hj hu => ?_, fun hn => ?_⟩)
    · have hf := hfull.2.1 (hb.trans h.sl.symm)
      rcases hg with ⟨s, g1, g2, g3, g4, -⟩ | ⟨g1, g2, -⟩ | ⟨g1, g2, s, t, o, g3, -⟩ | ⟨g1, g2, g3, g4, g5, g6, -⟩
      · cases g4
      · omega
      · rw [hf.2] at g3; cases g3
      · cases g6
    · subst hu
      have hu := List.mem_of_getElem? hj
      have hgb := h.kb.gb u hu
      refine h.turn hl ho hg.slots (h.kb.line h.ok ho hj rfl ⟨?_, ?_⟩ r1 ?_) hc hloc (by have := h.wr; omega)
      · show u.back ≤ u.got + 1; omega
      · show u.got + 1 ≤ i + 1; omega
      · have := r2 _ (h.kb.rf u hu)
        rwa [show u.got - u.back + 1 = u.got + 1 - u.back by omega] at this
    · exact h.turn hl ho hg.slots (h.kb.more h.ok ho hn h1 r1 r2) hc hloc (by have := h.wr; omega)
theorem KW.end_ (h : KW w0 x lp n ext size first v L L i) (hi : i ≤ 1000000000000000) {k : Int} (hk : i64ok k) :
    Calls Try.prog 20 #[.pointer (some ⟨lp, 0, none⟩), .int .i64 k] x fun e z => ∃ er, e = .returned (.int .i64 er) ∧ OpS x z ∧ ((er ≠ 0 ∧ KW w0 z lp n ext size first v L L (i + 1)) ∨ (er = 0 ∧ ∃ (j : Nat) (u : Us), L[j]? = some u ∧ u.key = k ∧ u.back < u.got ∧ KW w0 z lp n ext size first v L (L.set j { u with back := u.back + 1 }) (i + 1))) := by
  obtain ⟨p, bm, kv, rv, iv, S, written, h⟩ := h
  have hwr := h.wr
  refine (lEnd_any h.lg h.ok (by omega) hk).mono ?_
  rintro e z (⟨h1, rfl, rfl⟩ | ⟨h1, S', er, iv', hp, rfl, hl, ho, hc, hloc⟩)
  · exact ⟨2, rfl, fun g cs e => e, .inl ⟨by decide, p, bm, kv, rv, iv, S, written, h.lg, okMore h.ok, h.sl, h.bk, h.kb.next, h.be, h.lo, by omega⟩⟩
  · refine ⟨er, rfl, h.lg.ops (hc.mono fun b _ e => .inr e), ?_⟩
    have hc' : Chg (GU lp p bm kv rv iv) x z := hc.mono fun b _ e => .inr e
    have hloc' : ∀ b, GU lp p bm kv rv iv' b → GU lp p bm kv rv iv b ∨ x.heap.size ≤ b := by
      rintro b (e | e)
      · exact .inl (.inl e)
      · exact (hloc b e).imp .inr id
    by_cases he : er = 0
    · have hsl : S'.slots = S.slots := by
        rcases hp with ⟨-, rfl, -⟩ | ⟨s, r, -, -, rfl, -⟩ <;> rfl
      obtain ⟨r1, r, r2, r3⟩ := hp.refs h.ok he
      obtain ⟨u, hu, rfl⟩ := h.kb.cv k _ r2 (by omega)
      obtain ⟨j, hj⟩ := List.getElem?_of_mem hu
      have hgb := h.kb.gb u hu
      have e1 := RefRes.uniq h.ok (h.kb.rf u hu) r2
      refine .inr ⟨he, j, u, hj, rfl, by omega, h.turn hl (okMore ho) hsl (h.kb.line h.ok (okMore ho) hj rfl ⟨?_, ?_⟩ r1 ?_) hc' hloc' (by omega)⟩
      · show u.back + 1 ≤ u.got; omega
      · show u.got ≤ i + 1; omega
      · show RefRes S' u.key (u.got - (u.back + 1))
        rwa [show u.got - (u.back + 1) = r by omega]
    · obtain rfl := hp.same he
      exact .inl ⟨he, h.turn hl (okMore ho) rfl h.kb.next hc' hloc' (by omega)⟩
theorem KW.hot (h : KW w0 x lp n ext size first v L L i) :
    Calls Try.prog 46 #[.pointer (some ⟨lp, 0, none⟩)] x fun e z => ∃ hv T, e = .returned hv ∧ IR z hv T ∧ T.length ≤ n ∧ n ≤ 16 ∧ (∀ u ∈ L, u.back < u.got → u.key ∈ T) ∧ KW w0 z lp n ext size first v L L i := by
  have h0 := h
  obtain ⟨p, bm, kv, rv, iv, S, written, h⟩ := h
  refine (hot_any h.lg h.ok).mono ?_
  rintro e z ⟨hv, rfl, hI, hb, -⟩
  have hkl := h.ok.kl
  have hs2 := h.ok.s2
  have hsl := h.sl
  refine ⟨hv, hotL S, rfl, hI, ?_, by omega, fun u hu hlt => ?_, h0.below hb⟩
  · unfold hotL
    rw [List.length_mergeSort, h.ok.keys_len]
    omega
  · have := (h.kb.rf u hu).pos (by omega)
    exact (List.mergeSort_perm _ _).mem_iff.2 (keys_mem h.ok this)
end
end Go.Proofs.Ytlkccencilhacaa
