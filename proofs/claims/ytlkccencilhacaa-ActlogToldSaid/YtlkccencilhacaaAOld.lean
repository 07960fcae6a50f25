import Derived.Test.YtlkccencilhacaaABook3
namespace Go.Proofs.Ytlkccencilhacaa
open Go.RowKit Go.Sort
set_option linter.unusedVariables false
set_option linter.unusedSimpArgs false
set_option maxRecDepth 20000

/-- the Lru, and the law's book (Lm: as it lies in memory), both newer than w0 -/
def OS (w0 w : World) (n p : Nat) (bv : Value) (L Lm : List Us) (i : Nat) : Prop :=
  ∃ S bm kv rv iv, LRep w p bm kv rv iv S ∧ S.Ok i ∧ S.slots = n ∧ Lk S L i ∧ BkR w0.heap.size w bv Lm ∧ Below w0.heap.size w0 w ∧ ∀ b, LU p bm kv rv iv b → w0.heap.size ≤ b
theorem LRep.notBook {w : World} {p bm : Nat} {kv rv iv : Value} {S : LS} (h : LRep w p bm kv rv iv S) {base : Nat} {bv : Value} {L : List Us} (hb : BkR base w bv L) : ∀ g, bv.ownBlock = some g → ¬ LU p bm kv rv iv g := fun g hg => by
  obtain ⟨cs, hc⟩ := rowCells hb hg
  have key : ∀ (v : Value) (n : Nat) (xs : List Value), w.ownsRow 0 3 1 v n xs → v.ownBlock ≠ some g := fun v n xs hv e => by
    obtain ⟨ds, hd⟩ := rowCells hv e
    exact neType hc hd (by decide) rfl
  rintro (e | e | e | e | e)
  · exact neType hc h.row (by decide) e
  · exact h.mp.neCells hc e
  · exact key _ _ _ h.ko e
  · exact key _ _ _ h.ro e
  · exact key _ _ _ h.io e
theorem OS.bk {w0 w : World} {n p i : Nat} {bv : Value} {L Lm : List Us} (h : OS w0 w n p bv L Lm i) : BkR w0.heap.size w bv Lm := by
  obtain ⟨S, bm, kv, rv, iv, h1, h2, h3, h4, h5, h6, h7⟩ := h
  exact h5
theorem OS.be {w0 w : World} {n p i : Nat} {bv : Value} {L Lm : List Us} (h : OS w0 w n p bv L Lm i) : Below w0.heap.size w0 w := by
  obtain ⟨S, bm, kv, rv, iv, h1, h2, h3, h4, h5, h6, h7⟩ := h
  exact h6
theorem OS.len {w0 w : World} {n p i : Nat} {bv : Value} {L Lm : List Us} (h : OS w0 w n p bv L Lm i) : L.length ≤ n ∧ n ≤ 16 := by
  obtain ⟨S, bm, kv, rv, iv, h1, h2, h3, h4, h5, h6, h7⟩ := h
  have := h2.kl
  have := h2.s2
  have := h4.len
  omega
theorem OS.gb {w0 w : World} {n p i : Nat} {bv : Value} {L Lm : List Us} (h : OS w0 w n p bv L Lm i) : ∀ u ∈ L, u.got ≤ i ∧ u.back ≤ u.got := by
  obtain ⟨S, bm, kv, rv, iv, h1, h2, h3, h4, h5, h6, h7⟩ := h
  intro u hu
  obtain ⟨s, _, _, q⟩ := h4.fr u hu
  exact ⟨(h4.gb u hu).1, q⟩
theorem OS.below {w0 w w' : World} {n p i : Nat} {bv : Value} {L Lm : List Us} (h : OS w0 w n p bv L Lm i) (hb : Below w.heap.size w w') : OS w0 w' n p bv L Lm i := by
  obtain ⟨S, bm, kv, rv, iv, h1, h2, h3, h4, h5, h6, h7⟩ := h
  exact ⟨S, bm, kv, rv, iv, h1.below hb, h2, h3, h4, h5.kept fun g e => hb.block g (World.ownsRow.lt h5 g e).2, h6.trans (hb.mono h6.size), h7⟩
/-- the book lies elsewhere now -/
theorem OS.book {w0 w w' : World} {n p i : Nat} {bv bv' : Value} {L Lm Lm' : List Us} (h : OS w0 w n p bv L Lm i) (hb : BkR w0.heap.size w' bv' Lm') (hc : Chg (fun b => bv.ownBlock = some b) w w') : OS w0 w' n p bv' L Lm' i := by
  obtain ⟨S, bm, kv, rv, iv, h1, h2, h3, h4, h5, h6, h7⟩ := h
  exact ⟨S, bm, kv, rv, iv, h1.kept fun b e => hc.keep b (h1.lt b e) fun e2 => h1.notBook h5 b e2 e, h2, h3, h4, hb, h6.trans (hc.below h6.size fun b e => (World.ownsRow.lt h5 b e).1), h7⟩
theorem OS.store {w0 w : World} {n p i g cap : Nat} {L Lm : List Us} (h : OS w0 w n p (.slice (some ⟨g, 0, none⟩) Lm.length cap) L Lm i) {j f : Nat} {u u' : Us} (hj : Lm[j]? = some u) (hf : f < 4) {x : Value} (e : u'.cells = u.cells.set f x) : OS w0 (w.setCell ⟨g, j * 4 + f, none⟩ x) n p (.slice (some ⟨g, 0, none⟩) Lm.length cap) L (Lm.set j u') i :=
  h.book (h.bk.set hj hf e) ⟨rfl, rfl, rfl, by rw [World.size_setCell]; exact Nat.le_refl _, fun b _ hn => Go.heap_setCell_other _ _ _ _ fun e => hn (by rw [e]; rfl)⟩
/-- the Lru turns -/
theorem OS.turn {w0 w w' : World} {n p i : Nat} {bv : Value} {L' Lm : List Us} {S S' : LS} {bm : Nat} {kv rv iv kv' rv' iv' : Value} (h1 : LRep w p bm kv rv iv S) (h5 : BkR w0.heap.size w bv Lm) (h6 : Below w0.heap.size w0 w) (h7 : ∀ b, LU p bm kv rv iv b → w0.heap.size ≤ b) (q1 : LRep w' p bm kv' rv' iv' S') (q2 : S'.Ok (i + 1)) (q3 : S'.slots = n) (q4 : Lk S' L' (i + 1)) (q5 : Chg (LU p bm kv rv iv) w w') (q6 : LLoc w p bm kv rv iv kv' rv' iv') : OS w0 w' n p bv L' Lm (i + 1) :=
  ⟨S', bm, kv', rv', iv', q1, q2, q3, q4, h5.kept fun g e => q5.keep g (World.ownsRow.lt h5 g e).2 (h1.notBook h5 g e), h6.trans (q5.below h6.size h7), fun b e => (q6 b e).elim (h7 b) fun e => Nat.le_trans h6.size e⟩
theorem OS.put {w0 w : World} {n p i : Nat} {bv : Value} {L : List Us} {key : Int} (h : OS w0 w n p bv L L i) (hi : i ≤ 4611686018427387904) (hk : i64ok key) :
    Calls Try.prog 51 #[.pointer (some ⟨p, 0, none⟩), .int .i64 key] w fun e w' => ∃ er, e = .returned (.int .i64 er) ∧
      ((er = 42 ∧ (∀ u ∈ L, u.key = key → ¬ u.back < u.got) ∧ OS w0 w' n p bv L L (i + 1)) ∨
       (er = 0 ∧ ∃ (j : Nat) (u : Us), L[j]? = some u ∧ u.key = key ∧ u.back < u.got ∧ OS w0 w' n p bv (L.set j { u with back := u.back + 1, at_ := i }) L (i + 1))) := by
  obtain ⟨S, bm, kv, rv, iv, h1, h2, h3, h4, h5, h6, h7⟩ := h
  refine (Put_any h1 h2 hi hk).mono ?_
  rintro e w' ⟨S', er, iv', hr, rfl, q1, q2, q3, q4⟩
  refine ⟨er, rfl, ?_⟩
  rcases hr with ⟨r1, rfl, r2⟩ | ⟨s, r, r1, r2, rfl, r3⟩
  · refine .inl ⟨r2, fun u hu e => ?_, OS.turn h1 h5 h6 h7 q1 (q2.more (Nat.le_succ i)) h3 h4.next q3 q4⟩
    obtain ⟨s, z1, z2, z3⟩ := h4.fr u hu
    rw [e] at z1
    rw [r1 s z1] at z2
    have := Option.some.inj z2
    omega
  · obtain ⟨u, hu, eu⟩ := h4.ex s key r1
    obtain ⟨j, hj⟩ := List.getElem?_of_mem hu
    obtain ⟨t1, t2⟩ := h4.put h2 hj (by rw [eu]; exact r1) r2
    exact .inr ⟨r3, j, u, hj, eu, t2, OS.turn h1 h5 h6 h7 q1 (q2.more (Nat.le_succ i)) h3 t1 q3 q4⟩
def GCase (w0 w' : World) (n p i : Nat) (bv : Value) (L : List Us) (key : Int) (fresh : Bool) (old : Int) (gone : Bool) (er : Int) : Prop :=
  (∃ (j : Nat) (u : Us), L[j]? = some u ∧ u.key = key ∧ fresh = false ∧ gone = false ∧ er = 0 ∧ OS w0 w' n p bv (L.set j { u with got := u.got + 1 }) L (i + 1)) ∨
  ((∀ u ∈ L, u.key ≠ key) ∧ L.length < n ∧ fresh = true ∧ gone = false ∧ er = 0 ∧ OS w0 w' n p bv (L ++ [⟨key, 1, 0, 0⟩]) L (i + 1)) ∨
  ((∀ u ∈ L, u.key ≠ key) ∧ L.length = n ∧ fresh = true ∧ gone = true ∧ er = 0 ∧ (∀ k s, ORes L k s → s = true ∧ k = old) ∧ OS w0 w' n p bv (L.filter (fun u => decide (u.key ≠ old)) ++ [⟨key, 1, 0, 0⟩]) L (i + 1)) ∨
  ((∀ u ∈ L, u.key ≠ key) ∧ L.length = n ∧ fresh = false ∧ gone = false ∧ er = 41 ∧ (∀ k s, ORes L k s → s = false) ∧ OS w0 w' n p bv L L (i + 1))
theorem OS.get {w0 w : World} {n p i : Nat} {bv : Value} {L : List Us} {key : Int} (h : OS w0 w n p bv L L i) (hi : i ≤ 4611686018427387904) (hk : i64ok key) :
    Calls Try.prog 48 #[.pointer (some ⟨p, 0, none⟩), .int .i64 key] w fun e w' => ∃ (slot : Nat) (fresh : Bool) (old : Int) (gone : Bool) (er : Int), e = .returned (.tuple #[.int .i64 (slot : Int), .bool fresh, .int .i64 old, .bool gone, .int .i64 er]) ∧ GCase w0 w' n p i bv L key fresh old gone er := by
  obtain ⟨S, bm, kv, rv, iv, h1, h2, h3, h4, h5, h6, h7⟩ := h
  refine (Get_any h1 h2 hi hk).mono ?_
  rintro e w' ⟨S', slot, fresh, old, gone, er, kv', rv', iv', hr, rfl, q1, q2, q3, q4⟩
  refine ⟨slot, fresh, old, gone, er, rfl, ?_⟩
  have hno : key ∉ S.ks → ∀ u ∈ L, u.key ≠ key := fun hn u hu e => hn (h4.mem.2 ⟨u, hu, e⟩)
  rcases hr with ⟨s, r1, rfl, -, r3, r4, r5, r6⟩ | ⟨r1, r2, rfl, -, r3, r4, r5, r6⟩ | ⟨r1, r2, s, r, o, r7, r8, rfl, -, r3, r4, r5, r6⟩ | ⟨r1, r2, r7, rfl, -, r3, r4, r5, r6⟩
  · obtain ⟨u, hu, eu⟩ := h4.ex s key r1
    obtain ⟨j, hj⟩ := List.getElem?_of_mem hu
    exact .inl ⟨j, u, hj, eu, r3, r5, r6, OS.turn h1 h5 h6 h7 q1 q2 h3 (h4.take h2 hj (by rw [eu]; exact r1)) q3 q4⟩
  · exact .inr (.inl ⟨hno r1, by rw [h4.len, ← h3]; exact r2, r3, r5, r6, OS.turn h1 h5 h6 h7 q1 q2 h3 (h4.add h2 r1) q3 q4⟩)
  · subst r4
    refine .inr (.inr (.inl ⟨hno r1, by rw [h4.len, ← h3]; exact r2, r3, r5, r6, fun k s' ho => ?_, OS.turn h1 h5 h6 h7 q1 q2 h3 (h4.swap h2 r1 r7 r8) q3 q4⟩))
    rcases ho with ⟨z1, u, hu, z2, z3, z4⟩ | ⟨z1, z2, z3⟩
    · exact ⟨z1, z3.trans (h4.oldest h2 r7 r8 hu z2 z4)⟩
    · obtain ⟨u, hu, eu⟩ := h4.ex s old r8
      obtain ⟨t, y1, y2, y3⟩ := h4.fr u hu
      rw [eu] at y1
      have := nodup_inj h2.kd y1 r8
      subst this
      rw [(h2.im t).1 (by rw [r7]; simp)] at y2
      exact absurd (by have := Option.some.inj y2; omega) (z3 u hu)
  · refine .inr (.inr (.inr ⟨hno r1, by rw [h4.len, ← h3]; exact r2, r3, r5, r6, fun k s' ho => ?_, OS.turn h1 h5 h6 h7 q1 q2 h3 h4.next q3 q4⟩))
    rcases ho with ⟨z1, u, hu, z2, z3, z4⟩ | ⟨z1, z2, z3⟩
    · obtain ⟨t, y1, y2, y3⟩ := h4.fr u hu
      have : t ∈ S'.idle := (h2.im t).2 (by rw [y2]; congr 1; omega)
      rw [r7] at this
      cases this
    · exact z1
theorem OS.kd {w0 w : World} {n p i : Nat} {bv : Value} {L Lm : List Us} (h : OS w0 w n p bv L Lm i) : ∀ (a b : Nat) (u v : Us), L[a]? = some u → L[b]? = some v → u.key = v.key → a = b := by
  obtain ⟨S, bm, kv, rv, iv, h1, h2, h3, h4, h5, h6, h7⟩ := h
  exact h4.kd
theorem OS.putAt {w0 w : World} {n p i j : Nat} {bv : Value} {L : List Us} {u : Us} (h : OS w0 w n p bv L L i) (hi : i ≤ 4611686018427387904) (hk : i64ok u.key) (hj : L[j]? = some u) (hb : u.back < u.got) :
    Calls Try.prog 51 #[.pointer (some ⟨p, 0, none⟩), .int .i64 u.key] w fun e w' => e = .returned (.int .i64 0) ∧ OS w0 w' n p bv (L.set j { u with back := u.back + 1, at_ := i }) L (i + 1) := by
  refine (h.put hi hk).mono ?_
  rintro e w' ⟨er, rfl, ⟨_, q, _⟩ | ⟨rfl, j', u', q1, q2, q3, q4⟩⟩
  · exact absurd hb (q u (List.mem_of_getElem? hj) rfl)
  · have := h.kd j' j u' u q1 hj q2
    subst this
    rw [hj] at q1
    have := Option.some.inj q1
    subst this
    exact ⟨rfl, q4⟩
theorem OS.putNo {w0 w : World} {n p i : Nat} {bv : Value} {L : List Us} {key : Int} (h : OS w0 w n p bv L L i) (hi : i ≤ 4611686018427387904) (hk : i64ok key) (hno : ∀ u ∈ L, u.key = key → ¬ u.back < u.got) :
    Calls Try.prog 51 #[.pointer (some ⟨p, 0, none⟩), .int .i64 key] w fun e w' => e = .returned (.int .i64 42) ∧ OS w0 w' n p bv L L (i + 1) := by
  refine (h.put hi hk).mono ?_
  rintro e w' ⟨er, rfl, ⟨rfl, q, q2⟩ | ⟨rfl, j', u', q1, q2, q3, q4⟩⟩
  · exact ⟨rfl, q2⟩
  · exact absurd q3 (hno u' (List.mem_of_getElem? q1) q2)
theorem OS.getHot {w0 w : World} {n p i j : Nat} {bv : Value} {L : List Us} {u : Us} (h : OS w0 w n p bv L L i) (hi : i ≤ 4611686018427387904) (hk : i64ok u.key) (hj : L[j]? = some u) :
    Calls Try.prog 48 #[.pointer (some ⟨p, 0, none⟩), .int .i64 u.key] w fun e w' => ∃ (slot : Nat) (old : Int), e = .returned (.tuple #[.int .i64 (slot : Int), .bool false, .int .i64 old, .bool false, .int .i64 0]) ∧ OS w0 w' n p bv (L.set j { u with got := u.got + 1 }) L (i + 1) := by
  have hu := List.mem_of_getElem? hj
  refine (h.get hi hk).mono ?_
  rintro e w' ⟨slot, fresh, old, gone, er, rfl, ⟨j', u', q1, q2, rfl, rfl, rfl, q3⟩ | ⟨q, _⟩ | ⟨q, _⟩ | ⟨q, _⟩⟩
  · have := h.kd j' j u' u q1 hj q2
    subst this
    rw [hj] at q1
    have := Option.some.inj q1
    subst this
    exact ⟨slot, old, rfl, q3⟩
  · exact absurd rfl (q u hu)
  · exact absurd rfl (q u hu)
  · exact absurd rfl (q u hu)
theorem OS.getNew {w0 w : World} {n p i : Nat} {bv : Value} {L : List Us} {key : Int} (h : OS w0 w n p bv L L i) (hi : i ≤ 4611686018427387904) (hk : i64ok key) (hno : ∀ u ∈ L, u.key ≠ key) (hl : L.length < n) :
    Calls Try.prog 48 #[.pointer (some ⟨p, 0, none⟩), .int .i64 key] w fun e w' => ∃ (slot : Nat) (old : Int), e = .returned (.tuple #[.int .i64 (slot : Int), .bool true, .int .i64 old, .bool false, .int .i64 0]) ∧ OS w0 w' n p bv (L ++ [⟨key, 1, 0, 0⟩]) L (i + 1) := by
  refine (h.get hi hk).mono ?_
  rintro e w' ⟨slot, fresh, old, gone, er, rfl, ⟨j', u', q1, q2, _⟩ | ⟨_, _, rfl, rfl, rfl, q⟩ | ⟨_, q, _⟩ | ⟨_, q, _⟩⟩
  · exact absurd q2 (hno u' (List.mem_of_getElem? q1))
  · exact ⟨slot, old, rfl, q⟩
  · omega
  · omega
theorem OS.getOld {w0 w : World} {n p i : Nat} {bv : Value} {L : List Us} {key k : Int} (h : OS w0 w n p bv L L i) (hi : i ≤ 4611686018427387904) (hk : i64ok key) (hno : ∀ u ∈ L, u.key ≠ key) (hl : ¬ L.length < n) (ho : ORes L k true) :
    Calls Try.prog 48 #[.pointer (some ⟨p, 0, none⟩), .int .i64 key] w fun e w' => ∃ slot : Nat, e = .returned (.tuple #[.int .i64 (slot : Int), .bool true, .int .i64 k, .bool true, .int .i64 0]) ∧ OS w0 w' n p bv (L.filter (fun u => decide (u.key ≠ k)) ++ [⟨key, 1, 0, 0⟩]) L (i + 1) := by
  refine (h.get hi hk).mono ?_
  rintro e w' ⟨slot, fresh, old, gone, er, rfl, ⟨j', u', q1, q2, _⟩ | ⟨_, q, _⟩ | ⟨_, _, rfl, rfl, rfl, q1, q⟩ | ⟨_, _, _, _, _, q1, _⟩⟩
  · exact absurd q2 (hno u' (List.mem_of_getElem? q1))
  · omega
  · obtain ⟨_, rfl⟩ := q1 k true ho
    exact ⟨slot, rfl, q⟩
  · exact absurd (q1 k true ho) (by simp)
theorem OS.getNone {w0 w : World} {n p i : Nat} {bv : Value} {L : List Us} {key k : Int} (h : OS w0 w n p bv L L i) (hi : i ≤ 4611686018427387904) (hk : i64ok key) (hno : ∀ u ∈ L, u.key ≠ key) (hl : ¬ L.length < n) (ho : ORes L k false) :
    Calls Try.prog 48 #[.pointer (some ⟨p, 0, none⟩), .int .i64 key] w fun e w' => ∃ (slot : Nat) (old : Int), e = .returned (.tuple #[.int .i64 (slot : Int), .bool false, .int .i64 old, .bool false, .int .i64 41]) ∧ OS w0 w' n p bv L L (i + 1) := by
  refine (h.get hi hk).mono ?_
  rintro e w' ⟨slot, fresh, old, gone, er, rfl, ⟨j', u', q1, q2, _⟩ | ⟨_, q, _⟩ | ⟨_, _, _, _, _, q1, _⟩ | ⟨_, _, rfl, rfl, rfl, _, q⟩⟩
  · exact absurd q2 (hno u' (List.mem_of_getElem? q1))
  · omega
  · exact absurd (q1 k false ho).1 (by simp)
  · exact ⟨slot, old, rfl, q⟩
theorem OS.putAt' {w0 w : World} {n p i j : Nat} {bv : Value} {L : List Us} {u : Us} {key : Int} (h : OS w0 w n p bv L L i) (hi : i ≤ 4611686018427387904) (hk : i64ok key) (hku : u.key = key) (hj : L[j]? = some u) (hb : u.back < u.got) :
    Calls Try.prog 51 #[.pointer (some ⟨p, 0, none⟩), .int .i64 key] w fun e w' => e = .returned (.int .i64 0) ∧ OS w0 w' n p bv (L.set j { u with back := u.back + 1, at_ := i }) L (i + 1) := by
  subst hku
  exact h.putAt hi hk hj hb
theorem OS.getHot' {w0 w : World} {n p i j : Nat} {bv : Value} {L : List Us} {u : Us} {key : Int} (h : OS w0 w n p bv L L i) (hi : i ≤ 4611686018427387904) (hk : i64ok key) (hku : u.key = key) (hj : L[j]? = some u) :
    Calls Try.prog 48 #[.pointer (some ⟨p, 0, none⟩), .int .i64 key] w fun e w' => ∃ (slot : Nat) (old : Int), e = .returned (.tuple #[.int .i64 (slot : Int), .bool false, .int .i64 old, .bool false, .int .i64 0]) ∧ OS w0 w' n p bv (L.set j { u with got := u.got + 1 }) L (i + 1) := by
  subst hku
  exact h.getHot hi hk hj
theorem OS.keys {w0 w : World} {n p i : Nat} {bv : Value} {L Lm : List Us} (h : OS w0 w n p bv L Lm i) :
    Calls Try.prog 73 #[.pointer (some ⟨p, 0, none⟩)] w fun e w' => ∃ a cap, e = .returned (.slice a L.length cap) ∧ OS w0 w' n p bv L Lm i := by
  have h0 := h
  obtain ⟨S, bm, kv, rv, iv, h1, h2, h3, h4, h5, h6, h7⟩ := h
  refine (Keys_any h1 h2).mono ?_
  rintro e w' ⟨v, rfl, q1, q2, q3⟩
  obtain ⟨a, cap, rfl, -, -⟩ := rowForm q1
  exact ⟨a, cap, by rw [h2.keys_len, ← h4.len], h0.below q2⟩
theorem OS.start {w0 w1 : World} {n p bm : Nat} (h : LRep w1 p bm (.slice none 0 0) (.slice none 0 0) (.slice none 0 0) ⟨n, [], [], [], []⟩) (h1 : 1 ≤ n) (h2 : n ≤ 16) (hb : Below w0.heap.size w0 w1) (hp : w0.heap.size ≤ p) (hm : w0.heap.size ≤ bm) : OS w0 w1 n p (.slice none 0 0) [] [] 0 := by
  refine ⟨_, bm, _, _, _, h, ⟨h1, h2, Nat.zero_le _, rfl, List.nodup_nil, List.nodup_nil, fun s => by simp, fun k hk => by simp at hk, fun r hr => by simp at hr, rfl⟩, rfl, Lk.start n, ⟨rfl, .inl ⟨rfl, rfl⟩⟩, hb, ?_⟩
  rintro b (e | e | e | e | e)
  · omega
  · omega
  · simp [Value.ownBlock] at e
  · simp [Value.ownBlock] at e
  · simp [Value.ownBlock] at e
end Go.Proofs.Ytlkccencilhacaa
