import Derived.Test.YtafjldmfghokaaaSName
namespace Go.Proofs.Ytafjldmfghokaaa.St
open Go.RowKit Go.Sort
set_option linter.unusedVariables false
set_option linter.unusedSimpArgs false
set_option maxRecDepth 20000

theorem getDet {S S1 S2 : LS} {M : Nat} {key o1 o2 r1 r2 : Int} {s1 s2 : Nat} {f1 f2 g1 g2 : Bool} (hS : S.Ok M) (h1 : GetRes S key S1 s1 f1 o1 g1 r1) (h2 : GetRes S key S2 s2 f2 o2 g2 r2) : S1 = S2 ∧ s1 = s2 ∧ f1 = f2 ∧ o1 = o2 ∧ g1 = g2 ∧ r1 = r2 := by
  rcases h1 with ⟨s, hs, rfl, rfl, rfl, rfl, rfl, rfl⟩ | ⟨hn, hl, rfl, rfl, rfl, rfl, rfl, rfl⟩ | ⟨hn, hl, s, r, o, hi, ho, rfl, rfl, rfl, rfl, rfl, rfl⟩ | ⟨hn, hl, hi, rfl, rfl, rfl, rfl, rfl, rfl⟩ <;>
  rcases h2 with ⟨t, ht, rfl, rfl, rfl, rfl, rfl, rfl⟩ | ⟨hn', hl', rfl, rfl, rfl, rfl, rfl, rfl⟩ | ⟨hn', hl', t, r', o', hi', ho', rfl, rfl, rfl, rfl, rfl, rfl⟩ | ⟨hn', hl', hi', rfl, rfl, rfl, rfl, rfl, rfl⟩
  · have := nodup_inj hS.kd hs ht
    subst this
    exact ⟨rfl, rfl, rfl, rfl, rfl, rfl⟩
  · exact absurd (List.mem_of_getElem? hs) hn'
  · exact absurd (List.mem_of_getElem? hs) hn'
  · exact absurd (List.mem_of_getElem? hs) hn'
  · exact absurd (List.mem_of_getElem? ht) hn
  · exact ⟨rfl, rfl, rfl, rfl, rfl, rfl⟩
  · omega
  · omega
  · exact absurd (List.mem_of_getElem? ht) hn
  · omega
  · rw [hi] at hi'
    simp only [List.cons.injEq] at hi'
    obtain ⟨rfl, rfl⟩ := hi'
    rw [ho] at ho'
    obtain rfl := Option.some.inj ho'
    exact ⟨rfl, rfl, rfl, rfl, rfl, rfl⟩
  · rw [hi] at hi'; cases hi'
  · exact absurd (List.mem_of_getElem? ht) hn
  · omega
  · rw [hi] at hi'; cases hi'
  · exact ⟨rfl, rfl, rfl, rfl, rfl, rfl⟩
theorem putDet {S S1 S2 : LS} {M : Nat} {key r1 r2 : Int} (hS : S.Ok M) (h1 : PutRes S key S1 r1) (h2 : PutRes S key S2 r2) : S1 = S2 ∧ r1 = r2 := by
  rcases h1 with ⟨h, rfl, rfl⟩ | ⟨s, r, hs, hr, rfl, rfl⟩ <;> rcases h2 with ⟨h', rfl, rfl⟩ | ⟨t, r', ht, hr', rfl, rfl⟩
  · exact ⟨rfl, rfl⟩
  · have := h t ht; rw [this] at hr'; simp at hr'
  · have := h' s hs; rw [this] at hr; simp at hr
  · have := nodup_inj hS.kd hs ht
    subst this
    exact ⟨rfl, rfl⟩
theorem refDet {S : LS} {M : Nat} {key : Int} {r1 r2 : Nat} (hS : S.Ok M) (h1 : RefRes S key r1) (h2 : RefRes S key r2) : r1 = r2 := by
  rcases h1 with ⟨s, hs, hr⟩ | ⟨hn, rfl⟩ <;> rcases h2 with ⟨t, ht, hr'⟩ | ⟨hn', rfl⟩
  · have := nodup_inj hS.kd hs ht
    subst this
    rw [hr] at hr'
    exact Option.some.inj hr'
  · exact absurd (List.mem_of_getElem? hs) hn'
  · exact absurd (List.mem_of_getElem? ht) hn
  · rfl
theorem slotDet {S : LS} {M : Nat} {key r1 r2 : Int} (hS : S.Ok M) (h1 : SRes S key r1) (h2 : SRes S key r2) : r1 = r2 := by
  rcases h1 with ⟨s, hs, rfl⟩ | ⟨hn, rfl⟩ <;> rcases h2 with ⟨t, ht, rfl⟩ | ⟨hn', rfl⟩
  · rw [nodup_inj hS.kd hs ht]
  · exact absurd (List.mem_of_getElem? hs) hn'
  · exact absurd (List.mem_of_getElem? ht) hn
  · rfl
/-- the two lie apart, on blocks that A lets -/
structure Apart (A : Nat → Prop) (p bm : Nat) (kv rv iv : Value) (q : Nat) (cv : Value) : Prop where
  lb : ∀ b, LU p bm kv rv iv b → A b
  rb : ∀ b, RU q cv b → A b
  ap : ∀ b, LU p bm kv rv iv b → ¬ RU q cv b
/-- both Lrus in memory, of one state -/
def Two (A : Nat → Prop) (w : World) (p q M : Nat) : Prop :=
  ∃ bm kv rv iv cv S C P, LRep w p bm kv rv iv S ∧ RLR w q cv C P ∧ Rel S C P ∧ S.Ok M ∧ P ≤ M ∧ Apart A p bm kv rv iv q cv ∧ ∀ b, w.heap.size ≤ b → A b
theorem Two.below {A : Nat → Prop} {p q M : Nat} {w w' : World} (h : Two A w p q M) (hb : Below w.heap.size w w') : Two A w' p q M := by
  obtain ⟨bm, kv, rv, iv, cv, S, C, P, h1, h2, h3, h4, h5, h6, h7⟩ := h
  exact ⟨bm, kv, rv, iv, cv, S, C, P, h1.below hb, h2.below hb, h3, h4, h5, h6, fun b e => h7 b (Nat.le_trans hb.size e)⟩
theorem Two.more {A : Nat → Prop} {p q M N : Nat} {w : World} (h : Two A w p q M) (hn : M ≤ N) : Two A w p q N := by
  obtain ⟨bm, kv, rv, iv, cv, S, C, P, h1, h2, h3, h4, h5, h6, h7⟩ := h
  exact ⟨bm, kv, rv, iv, cv, S, C, P, h1, h2, h3, h4.more hn, by omega, h6, h7⟩
theorem Two.mono {A A2 : Nat → Prop} {p q M : Nat} {w : World} (h : Two A w p q M) (ha : ∀ b, A b → A2 b) : Two A2 w p q M := by
  obtain ⟨bm, kv, rv, iv, cv, S, C, P, h1, h2, h3, h4, h5, h6, h7⟩ := h
  exact ⟨bm, kv, rv, iv, cv, S, C, P, h1, h2, h3, h4, h5, ⟨fun b e => ha b (h6.lb b e), fun b e => ha b (h6.rb b e), h6.ap⟩, fun b e => ha b (h7 b e)⟩
theorem Two.narrow {A : Nat → Prop} {p q M : Nat} {w : World} (h : Two A w p q M) (o : Obj) : Two (fun b => A b ∧ b ≠ w.heap.size) (w.alloc o) p q M := by
  obtain ⟨bm, kv, rv, iv, cv, S, C, P, h1, h2, h3, h4, h5, h6, h7⟩ := h
  have hb : Below w.heap.size w (w.alloc o) := (Below.refl _ _).alloc (Nat.le_refl _) o
  refine ⟨bm, kv, rv, iv, cv, S, C, P, h1.below hb, h2.below hb, h3, h4, h5, ⟨fun b e => ⟨h6.lb b e, ?_⟩, fun b e => ⟨h6.rb b e, ?_⟩, h6.ap⟩, fun b e => ⟨h7 b ?_, ?_⟩⟩
  · have := h1.lt b e; omega
  · have := h2.lt b e; omega
  · rw [World.size_alloc] at e; omega
  · rw [World.size_alloc] at e; omega
theorem afterL {A : Nat → Prop} {p bm q : Nat} {kv rv iv kv' rv' iv' cv : Value} {w w1 : World} {C : List RC} {P : Nat} {S : LS} (hl : LRep w p bm kv rv iv S) (hr : RLR w q cv C P) (ha : Apart A p bm kv rv iv q cv) (hA : ∀ b, w.heap.size ≤ b → A b) (hc : Chg (LU p bm kv rv iv) w w1) (hloc : LLoc w p bm kv rv iv kv' rv' iv') :
    RLR w1 q cv C P ∧ Apart A p bm kv' rv' iv' q cv ∧ Chg A w w1 ∧ ∀ b, w1.heap.size ≤ b → A b := by
  refine ⟨hr.kept fun b e => hc.keep b (hr.lt b e) fun hx => ha.ap b hx e, ⟨fun b e => ?_, ha.rb, fun b e1 e2 => ?_⟩, hc.mono fun b _ e => ha.lb b e, fun b e => hA b (Nat.le_trans hc.size e)⟩
  · rcases hloc b e with e | e
    · exact ha.lb b e
    · exact hA b e
  · rcases hloc b e1 with e | e
    · exact ha.ap b e e2
    · have := hr.lt b e2; omega
theorem afterR {A : Nat → Prop} {p bm q : Nat} {kv rv iv cv : Value} {w w1 : World} {C : List RC} {P : Nat} {S : LS} (hl : LRep w p bm kv rv iv S) (ha : Apart A p bm kv rv iv q cv) (hA : ∀ b, w.heap.size ≤ b → A b) (hc : Chg (RU q cv) w w1) :
    LRep w1 p bm kv rv iv S ∧ Chg A w w1 ∧ ∀ b, w1.heap.size ≤ b → A b :=
  ⟨hl.kept fun b e => hc.keep b (hl.lt b e) fun hx => ha.ap b e hx, hc.mono fun b _ e => ha.rb b e, fun b e => hA b (Nat.le_trans hc.size e)⟩
def GotL (A : Nat → Prop) (w : World) (p q M : Nat) (key : Int) (slot : Nat) (fresh : Bool) (old : Int) (gone : Bool) (er : Int) : Prop :=
  ∃ bm kv rv iv cv S S' C P, LRep w p bm kv rv iv S' ∧ S'.Ok (M + 1) ∧ RLR w q cv C P ∧ Rel S C P ∧ S.Ok M ∧ GetRes S key S' slot fresh old gone er ∧ P ≤ M ∧ Apart A p bm kv rv iv q cv ∧ ∀ b, w.heap.size ≤ b → A b
theorem two_getL {A : Nat → Prop} {p q M : Nat} {w : World} (h : Two A w p q M) (hM : M ≤ 4611686018427387904) {key : Int} (hk : i64ok key) :
    Calls Try.prog 45 #[.pointer (some ⟨p, 0, none⟩), .string (nm key)] w fun e w' => ∃ (slot : Nat) (fresh : Bool) (old : Int) (gone : Bool) (er : Int), e = .returned (.tuple #[.int .i64 (slot : Int), .bool fresh, oldV gone old, .bool gone, .int .i64 er]) ∧ GotL A w' p q M key slot fresh old gone er ∧ Chg A w w' ∧ i64ok old := by
  obtain ⟨bm, kv, rv, iv, cv, S, C, P, h1, h2, h3, h4, h5, h6, h6a⟩ := h
  refine (Get_any h1 h4 hM hk).mono ?_
  rintro e w' ⟨S', slot, fresh, old, gone, er, kv', rv', iv', hg, rfl, hl, ho, hc, hloc⟩
  obtain ⟨q1, q2, q3, q4⟩ := afterL h1 h2 h6 h6a hc hloc
  refine ⟨slot, fresh, old, gone, er, rfl, ⟨bm, kv', rv', iv', cv, S, S', C, P, hl, ho, q1, h3, h4, hg, h5, q2, q4⟩, q3, ?_⟩
  rcases hg with ⟨s, hs, rfl, rfl, rfl, rfl, rfl, rfl⟩ | ⟨hn, hl, rfl, rfl, rfl, rfl, rfl, rfl⟩ | ⟨hn, hl, s, r, o, hi, ho, rfl, rfl, rfl, rfl, rfl, rfl⟩ | ⟨hn, hl, hi, rfl, rfl, rfl, rfl, rfl, rfl⟩
  · unfold i64ok; omega
  · unfold i64ok; omega
  · exact h4.kb _ (List.mem_of_getElem? ho)
  · unfold i64ok; omega
theorem two_getR {A : Nat → Prop} {p q M : Nat} {w : World} {key : Int} {slot : Nat} {fresh : Bool} {old : Int} {gone : Bool} {er : Int} (h : GotL A w p q M key slot fresh old gone er) (hM : M ≤ 4611686018427387904) :
    Calls Try.prog 46 #[.pointer (some ⟨q, 0, none⟩), .int .i64 key] w fun e w' => e = .returned (.tuple #[.int .i64 (slot : Int), .bool fresh, .int .i64 old, .bool gone, .int .i64 er]) ∧ Two A w' p q (M + 1) ∧ Chg A w w' := by
  obtain ⟨bm, kv, rv, iv, cv, S, S', C, P, h1, h2, h3, h4, h5, h6, h7, h8, h8a⟩ := h
  have hc : Calls Try.prog 46 #[.pointer (some ⟨q, 0, none⟩), .int .i64 key] w (RGet w q P cv S key) := by
    by_cases hin : key ∈ S.ks
    · obtain ⟨s, hs⟩ := List.getElem?_of_mem hin
      exact rGet_in h3 h4 h5 hM hs
    · exact rGet_out h3 h4 h5 hin
  refine hc.mono ?_
  rintro e w' ⟨S2, slot', fresh', old', gone', er', C', hg, rfl, hr, hrel, hc⟩
  obtain ⟨rfl, rfl, rfl, rfl, rfl, rfl⟩ := getDet h5 h6 hg
  obtain ⟨q1, q2, q4⟩ := afterR (C := C) (P := P) h1 h8 h8a hc
  exact ⟨rfl, ⟨bm, kv, rv, iv, cv, S', C', P, q1, hr, hrel, h2, by omega, h8, q4⟩, q2⟩
def PutL (A : Nat → Prop) (w : World) (p q M : Nat) (key er : Int) : Prop :=
  ∃ bm kv rv iv cv S S' C P, LRep w p bm kv rv iv S' ∧ S'.Ok M ∧ RLR w q cv C P ∧ Rel S C P ∧ S.Ok M ∧ PutRes S key S' er ∧ P ≤ M ∧ Apart A p bm kv rv iv q cv ∧ ∀ b, w.heap.size ≤ b → A b
theorem two_putL {A : Nat → Prop} {p q M : Nat} {w : World} (h : Two A w p q M) (hM : M ≤ 4611686018427387904) {key : Int} (hk : i64ok key) :
    Calls Try.prog 47 #[.pointer (some ⟨p, 0, none⟩), .string (nm key)] w fun e w' => ∃ er, e = .returned (.int .i64 er) ∧ PutL A w' p q M key er ∧ Chg A w w' := by
  obtain ⟨bm, kv, rv, iv, cv, S, C, P, h1, h2, h3, h4, h5, h6, h6a⟩ := h
  refine (Put_any h1 h4 hM hk).mono ?_
  rintro e w' ⟨S', er, iv', hg, rfl, hl, ho, hc, hloc⟩
  obtain ⟨q1, q2, q3, q4⟩ := afterL h1 h2 h6 h6a hc hloc
  exact ⟨er, rfl, ⟨bm, kv, rv, iv', cv, S, S', C, P, hl, ho, q1, h3, h4, hg, h5, q2, q4⟩, q3⟩
theorem two_putR {A : Nat → Prop} {p q M : Nat} {w : World} {key er : Int} (h : PutL A w p q M key er) (hM : M ≤ 4611686018427387904) :
    Calls Try.prog 48 #[.pointer (some ⟨q, 0, none⟩), .int .i64 key] w fun e w' => e = .returned (.int .i64 er) ∧ Two A w' p q (M + 1) ∧ Chg A w w' := by
  obtain ⟨bm, kv, rv, iv, cv, S, S', C, P, h1, h2, h3, h4, h5, h6, h7, h8, h8a⟩ := h
  refine (rPut_any h3 h4 h5 hM (by omega) key).mono ?_
  rintro e w' ⟨S2, er', C', P', hg, rfl, hr, hrel, hP, hc⟩
  obtain ⟨rfl, rfl⟩ := putDet h5 h6 hg
  obtain ⟨q1, q2, q4⟩ := afterR (C := C) (P := P) h1 h8 h8a hc
  exact ⟨rfl, ⟨bm, kv, rv, iv, cv, S', C', P', q1, hr, hrel, h2.more (by omega), by omega, h8, q4⟩, q2⟩
theorem two_refs {A : Nat → Prop} {p q M : Nat} {w : World} (h : Two A w p q M) {key : Int} (hk : i64ok key) : ∃ r : Int, ∀ n,
    Calls Try.prog 49 #[.pointer (some ⟨p, 0, none⟩), .string (nm key)] (w.drewN n) (fun e w' => e = .returned (.int .i64 r) ∧ w' = w.drewN n) ∧
    Calls Try.prog 50 #[.pointer (some ⟨q, 0, none⟩), .int .i64 key] (w.drewN n) (fun e w' => e = .returned (.int .i64 r) ∧ w' = w.drewN n) := by
  obtain ⟨bm, kv, rv, iv, cv, S, C, P, h1, h2, h3, h4, h5, h6, h6a⟩ := h
  have hex : ∃ r, RefRes S key r := by
    by_cases hin : key ∈ S.ks
    · obtain ⟨s, hs⟩ := List.getElem?_of_mem hin
      exact ⟨_, .inl ⟨s, hs, (h3.us s (List.getElem?_eq_some_iff.1 hs).1).2.2⟩⟩
    · exact ⟨0, .inr ⟨hin, rfl⟩⟩
  obtain ⟨r, hr⟩ := hex
  refine ⟨(r : Int), fun n => ⟨(Refs_any (h1.below (below_drewN (Below.refl _ _) n)) h4 hk).mono ?_, (rRefs_any (h2.below (below_drewN (Below.refl _ _) n)) h3 h4 key).mono ?_⟩⟩
  · rintro e w' ⟨r', rfl, rfl, hr'⟩
    rw [refDet h4 hr hr']
    exact ⟨rfl, rfl⟩
  · rintro e w' ⟨r', rfl, rfl, hr'⟩
    rw [refDet h4 hr hr']
    exact ⟨rfl, rfl⟩
theorem two_slot {A : Nat → Prop} {p q M : Nat} {w : World} (h : Two A w p q M) {key : Int} (hk : i64ok key) : ∃ r : Int, ∀ n,
    Calls Try.prog 51 #[.pointer (some ⟨p, 0, none⟩), .string (nm key)] (w.drewN n) (fun e w' => e = .returned (.int .i64 r) ∧ w' = w.drewN n) ∧
    Calls Try.prog 52 #[.pointer (some ⟨q, 0, none⟩), .int .i64 key] (w.drewN n) (fun e w' => e = .returned (.int .i64 r) ∧ w' = w.drewN n) := by
  obtain ⟨bm, kv, rv, iv, cv, S, C, P, h1, h2, h3, h4, h5, h6, h6a⟩ := h
  have hex : ∃ r, SRes S key r := by
    by_cases hin : key ∈ S.ks
    · obtain ⟨s, hs⟩ := List.getElem?_of_mem hin
      exact ⟨_, .inl ⟨s, hs, rfl⟩⟩
    · exact ⟨-1, .inr ⟨hin, rfl⟩⟩
  obtain ⟨r, hr⟩ := hex
  refine ⟨r, fun n => ⟨(Slot_any (h1.below (below_drewN (Below.refl _ _) n)) h4 hk).mono ?_, (rSlot_any (h2.below (below_drewN (Below.refl _ _) n)) h3 h4 key).mono ?_⟩⟩
  · rintro e w' ⟨r', rfl, rfl, hr'⟩
    rw [slotDet h4 hr hr']
    exact ⟨rfl, rfl⟩
  · rintro e w' ⟨r', rfl, rfl, hr'⟩
    rw [slotDet h4 hr hr']
    exact ⟨rfl, rfl⟩
theorem two_keys {A : Nat → Prop} {p q M : Nat} {w : World} (h : Two A w p q M) (hM : M ≤ 4611686018427387904) : ∃ K : List Int, K.length ≤ 32 ∧ (∀ k ∈ K, i64ok k) ∧ ∀ w1, Below w.heap.size w w1 →
    Calls Try.prog 53 #[.pointer (some ⟨p, 0, none⟩)] w1 (fun e w' => ∃ v, e = .returned v ∧ w'.ownsRow 0 9 1 v K.length (K.map sK) ∧ Below w1.heap.size w1 w' ∧ ∀ b, v.ownBlock = some b → w1.heap.size ≤ b) ∧
    Calls Try.prog 54 #[.pointer (some ⟨q, 0, none⟩)] w1 (fun e w' => ∃ v, e = .returned v ∧ w'.ownsRow 0 3 1 v K.length (K.map iV) ∧ Below w1.heap.size w1 w' ∧ ∀ b, v.ownBlock = some b → w1.heap.size ≤ b) := by
  obtain ⟨bm, kv, rv, iv, cv, S, C, P, h1, h2, h3, h4, h5, h6, h6a⟩ := h
  refine ⟨S.keys, ?_, ?_, fun w1 hb => ⟨Keys_any (h1.below hb) h4, rKeys_any (h2.below hb) h3 h4 (by omega)⟩⟩
  · rw [LS.keys_eq, List.length_append, List.length_map]
    have a1 := nodup_bound h4.id fun x hx => h4.idle_lt hx
    have a2 := LS.busy_len S S.ks.length
    have := h4.kl
    have := h4.s2
    omega
  · intro k hk
    have hget : ∀ s, s < S.ks.length → i64ok (S.ks.getD s 0) := fun s hs => by
      have : S.ks[s]? = some (S.ks.getD s 0) := by simp [List.getD, hs]
      exact h4.kb _ (List.mem_of_getElem? this)
    rw [LS.keys, List.mem_append, List.mem_map, List.mem_map] at hk
    rcases hk with ⟨s, hs, rfl⟩ | ⟨s, hs, rfl⟩
    · exact hget s (h4.idle_lt hs)
    · exact hget s (by simpa using (List.mem_filter.1 hs).1)
end Go.Proofs.Ytafjldmfghokaaa.St
