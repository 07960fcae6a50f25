import Derived.Test.YtijfnacplikibabKDel2
namespace Go.Proofs.Ytijfnacplikibab
open Go.RowKit
set_option linter.unusedVariables false
set_option linter.unusedSimpArgs false
set_option maxRecDepth 20000

/-- a list without the owner's claim -/
def rem (l : List (Int × Int)) (o : Int) : List (Int × Int) := l.take (pl l o) ++ l.drop (pl l o + 1)
theorem has_iff {l : List (Int × Int)} {o : Int} : has l o = true ↔ pl l o < l.length := by
  unfold has plV
  by_cases h : pl l o < l.length <;> simp [h]
theorem plV_has {l : List (Int × Int)} {o : Int} (h : has l o = true) : plV l o = (pl l o : Int) ∧ pl l o + 1 ≤ l.length := by
  have := has_iff.1 h
  exact ⟨if_pos this, this⟩
theorem plV_no {l : List (Int × Int)} {o : Int} (h : has l o = false) : plV l o = -1 := by
  unfold plV
  rw [if_neg]
  intro h2
  rw [has_iff.2 h2] at h
  cases h
/-- the table's blocks turn, and those of R; its new ones are its old ones or new -/
structure Tr (R : Nat → Prop) (w w' : World) (U U' : Nat → Prop) : Prop where
  chg : Chg (fun g => U g ∨ R g) w w'
  loc : ∀ g, U' g → U g ∨ w.heap.size ≤ g
theorem Tr.refl (R : Nat → Prop) (w : World) (U : Nat → Prop) : Tr R w w U U := ⟨Chg.refl _ _, fun g h => .inl h⟩
theorem Tr.trans {R : Nat → Prop} {a b c : World} {U V W : Nat → Prop} (h : Tr R a b U V) (k : Tr R b c V W) : Tr R a c U W := by
  have hs := h.chg.size
  refine ⟨⟨k.chg.os.trans h.chg.os, k.chg.tape.trans h.chg.tape, k.chg.output.trans h.chg.output, Nat.le_trans hs k.chg.size, fun g hg hn => (k.chg.keep g (by omega) ?_).trans (h.chg.keep g hg hn)⟩, fun g hg => ?_⟩
  · rintro (hv | hr)
    · rcases h.loc g hv with hu | hu
      · exact hn (.inl hu)
      · omega
    · exact hn (.inr hr)
  · rcases k.loc g hg with hv | hv
    · exact h.loc g hv
    · exact .inr (by omega)
theorem Tr.ofBelow {R : Nat → Prop} {w w' : World} {U : Nat → Prop} (h : Below w.heap.size w w') : Tr R w w' U U := ⟨Chg.ofBelow h, fun g h => .inl h⟩
theorem Tr.mono {R R' : Nat → Prop} {a b : World} {U V : Nat → Prop} (h : Tr R a b U V) (hr : ∀ g, R g → R' g) : Tr R' a b U V := ⟨h.chg.mono fun g _ hu => hu.elim .inl fun h => .inr (hr g h), h.loc⟩
theorem Tr.set {R : Nat → Prop} {w w' : World} {U V : Nat → Prop} (h : Tr R w w' U V) (g i : Nat) (v : Value) (hg : V g ∨ R g) : Tr R w (w'.setCell ⟨g, i, none⟩ v) U V := by
  refine ⟨h.chg.set g i v ?_, h.loc⟩
  rcases hg with hg | hg
  · rcases h.loc g hg with h1 | h1
    · exact .inl (.inl h1)
    · exact .inr h1
  · exact .inl (.inr hg)
section
variable {w w1 : World} {p b : Nat} {m : Int} {n : Nat} {V : Nat → Value} {L : Nat → List (Int × Int)} {ws wt : Int}
/-- a list turned and stored: what turned -/
theorem TRep.listTr (R : Nat → Prop) (h : TRep w p b m n V L ws wt) {k : Nat} (hk : k < n * 2) {v : Value} (hc : Chg (fun g => (V k).ownBlock = some g) w w1) (hloc : ∀ g, v.ownBlock = some g → (V k).ownBlock = some g ∨ w.heap.size ≤ g) : Tr R w (w1.setCell ⟨b, k, none⟩ v) (TU p b n V) (TU p b n (upd V k v)) := by
  refine ⟨(hc.mono fun g _ e => .inl (.inr (.inr ⟨k, hk, e⟩))).set b k v (.inl (.inl (.inr (.inl rfl)))), fun g hg => ?_⟩
  rcases hg with e | e | ⟨j, hj, e⟩
  · exact .inl (.inl e)
  · exact .inl (.inr (.inl e))
  · by_cases ej : j = k
    · subst ej
      rw [upd_same] at e
      rcases hloc g e with e | e
      · exact .inl (.inr (.inr ⟨j, hj, e⟩))
      · exact .inr e
    · rw [upd_other _ _ _ ej] at e
      exact .inl (.inr (.inr ⟨j, hj, e⟩))
end
/-- what leave does -/
def leaveL (L : Nat → List (Int × Int)) (e : Nat) (o : Int) : Nat → List (Int × Int) := if has (L (e * 2)) o then upd L (e * 2) (rem (L (e * 2)) o) else if has (L (e * 2 + 1)) o then upd L (e * 2 + 1) (rem (L (e * 2 + 1)) o) else L
set_option maxHeartbeats 2000000 in
theorem leave_any (w : World) (p b : Nat) (m : Int) (n : Nat) (V : Nat → Value) (L : Nat → List (Int × Int)) (ws wt : Int) (e : Nat) (o : Int) (h : TRep w p b m n V L ws wt) (he : e < n) (hb : ∀ k, (L k).length ≤ 8000000000000) :
    Calls Try.prog 49 #[.pointer (some ⟨b, e * 2, none⟩), .int .i64 o] w fun e' w' => e' = .returned (.bool (has (L (e * 2)) o || has (L (e * 2 + 1)) o)) ∧ ∃ V', TRep w' p b m n V' (leaveL L e o) ws wt ∧ Tr (fun _ => False) w w' (TU p b n V) (TU p b n V') := by
  have HP0 := hide fun x (hx : TRep x p b m n V L ws wt) => place_any x (V (e * 2)) (L (e * 2)) o (hx.own _ (by omega))
  have HP1 := hide fun x (hx : TRep x p b m n V L ws wt) => place_any x (V (e * 2 + 1)) (L (e * 2 + 1)) o (hx.own _ (by omega))
  have HC : Hid (∀ x, TRep x p b m n V L ws wt → x.cell? ⟨b, e * 2, none⟩ = some (V (e * 2)) ∧ x.cell? ⟨b, e * 2 + 1, none⟩ = some (V (e * 2 + 1)) ∧ x.frozen? ⟨b, e * 2, none⟩ = false ∧ x.frozen? ⟨b, e * 2 + 1, none⟩ = false) := hide fun x hx => ⟨hx.lc (by omega), hx.lc (by omega), hx.lf _, hx.lf _⟩
  obtain ⟨c0, c1, f0, f1⟩ := HC.out w h
  have HT := hide h
  have hb0 := hb (e * 2)
  have hb1 := hb (e * 2 + 1)
  have HD : Hid (∀ x, TRep x p b m n V L ws wt → ∀ k, k < n * 2 → ∀ a : Nat, a + 1 ≤ (L k).length → Calls Try.prog 56 #[V k, .int .i64 (a : Int), .int .i64 ((a : Int) + 1)] x fun e w' => ∃ v', e = .returned v' ∧ CRow w' v' ((L k).take a ++ (L k).drop (a + 1)) ∧ Chg (fun g => (V k).ownBlock = some g) x w' ∧ v'.ownBlock = (V k).ownBlock) := hide fun x hx k hk a ha => by
    have := delete_any x (V k) (L k) a (a + 1) (hx.own k hk) (by omega) ha
    rwa [Int.natCast_add] at this
  have HF : Hid (∀ x y, TRep x p b m n V L ws wt → ∀ k, k < n * 2 → Chg (fun g => (V k).ownBlock = some g) x y → ∀ j, j < n * 2 → y.cell? ⟨b, j, none⟩ = some (V j) ∧ y.frozen? ⟨b, j, none⟩ = false) := hide fun x y hx k hk hc j hj => by
    have hbk := hc.keep b (hx.lt b (.inr (.inl rfl))) fun e => (hx.gp hk e).2 rfl
    exact ⟨(World.cell?_of_block hbk).trans (hx.lc hj), (World.frozen?_of_block hbk).trans (hx.lf j)⟩
  have HE : Hid (∀ x y v l, TRep x p b m n V L ws wt → Below w.heap.size w x → ∀ k, k < n * 2 → CRow y v l → Chg (fun g => (V k).ownBlock = some g) x y → v.ownBlock = (V k).ownBlock → TRep (y.setCell ⟨b, k, none⟩ v) p b m n (upd V k v) (upd L k l) ws wt ∧ Tr (fun _ => False) w (y.setCell ⟨b, k, none⟩ v) (TU p b n V) (TU p b n (upd V k v))) := hide fun x y v l hx hbx k hk ho hc hl =>
    ⟨hx.list hk ho (fun g hg hne => hc.keep g hg hne) (fun g e => .inl (hl ▸ e)), (Tr.ofBelow hbx).trans (hx.listTr _ hk hc fun g e => .inl (hl ▸ e))⟩
  have hk0 : e * 2 < n * 2 := by omega
  have hk1 : e * 2 + 1 < n * 2 := by omega
  have HB0 := hide (Below.refl w.heap.size w)
  cases h0 : has (L (e * 2)) o with
  | true =>
    obtain ⟨e1, e2⟩ := plV_has h0
    rw [e1] at HP0
    have hl : leaveL L e o = upd L (e * 2) (rem (L (e * 2)) o) := if_pos h0
    rw [hl]
    unfold rem
    generalize hpl : pl (L (e * 2)) o = at' at *
    have hw : IntKind.i64.wrap ((at' : Int) + 1) = (at' : Int) + 1 := by simp [IntKind.wrap, IntKind.bits, IntKind.signed]; omega
    clear h hpl e1 h0 hl
    go_enter Try.func49, Try.ntmps49
    go_wp2_with (first
      | (go_at_call 55; refine (HP0.out _ HT.out).mono ?_; rintro e' w2 ⟨rfl, hw2⟩; have HT2 := hide (HT.out.below hw2); have HB2 := hide hw2; obtain ⟨d0, d1, g0, g1⟩ := HC.out _ HT2.out; clear hw2 HP0)
      | (go_at_call 56; refine (HD.out _ HT2.out _ hk0 _ e2).mono ?_; rintro e' w3 ⟨v', rfl, hr3, hc3, hl3⟩; obtain ⟨d2, g2⟩ := HF.out _ _ HT2.out _ hk0 hc3 _ hk0; have HX := hide (HE.out _ _ _ _ HT2.out HB2.out _ hk0 hr3 hc3 hl3); obtain ⟨a3, c3, e3, -, -⟩ := rowForm hr3; generalize List.length _ = n3 at e3; subst e3; clear hr3 hc3 hl3 HD))
    go_ret
    exact ⟨rfl, _, HX.out.1, HX.out.2⟩
  | false =>
    have e1 := plV_no h0
    rw [e1] at HP0
    cases h1 : has (L (e * 2 + 1)) o with
    | true =>
      obtain ⟨e1, e2⟩ := plV_has h1
      rw [e1] at HP1
      have hl : leaveL L e o = upd L (e * 2 + 1) (rem (L (e * 2 + 1)) o) := by unfold leaveL; rw [if_neg (by rw [h0]; simp), if_pos h1]
      rw [hl]
      unfold rem
      generalize hpl : pl (L (e * 2 + 1)) o = at' at *
      have hw : IntKind.i64.wrap ((at' : Int) + 1) = (at' : Int) + 1 := by simp [IntKind.wrap, IntKind.bits, IntKind.signed]; omega
      clear h hpl e1 h0 h1 hl
      go_enter Try.func49, Try.ntmps49
      go_wp2_with (first
        | (go_at_call 55; refine (HP0.out _ HT.out).mono ?_; rintro e' w2 ⟨rfl, hw2⟩; have HT2 := hide (HT.out.below hw2); have HB2 := hide hw2; obtain ⟨d0, d1, g0, g1⟩ := HC.out _ HT2.out; clear hw2 HP0)
        | (go_at_call 55; refine (HP1.out _ HT2.out).mono ?_; rintro e' w3 ⟨rfl, hw3⟩; have HT3 := hide (HT2.out.below hw3); have HB3 := hide (HB2.out.trans (hw3.mono HB2.out.size)); obtain ⟨k0, k1, l0, l1⟩ := HC.out _ HT3.out; clear hw3 HP1)
        | (go_at_call 56; refine (HD.out _ HT3.out _ hk1 _ e2).mono ?_; rintro e' w4 ⟨v', rfl, hr3, hc3, hl3⟩; obtain ⟨d2, g2⟩ := HF.out _ _ HT3.out _ hk1 hc3 _ hk1; have HX := hide (HE.out _ _ _ _ HT3.out HB3.out _ hk1 hr3 hc3 hl3); obtain ⟨a3, c3, e3, -, -⟩ := rowForm hr3; generalize List.length _ = n3 at e3; subst e3; clear hr3 hc3 hl3 HD))
      go_ret
      exact ⟨rfl, _, HX.out.1, HX.out.2⟩
    | false =>
      have e1 := plV_no h1
      rw [e1] at HP1
      have hl : leaveL L e o = L := by unfold leaveL; rw [if_neg (by rw [h0]; simp), if_neg (by rw [h1]; simp)]
      rw [hl]
      clear h e1 h0 h1 hl
      go_enter Try.func49, Try.ntmps49
      go_wp2_with (first
        | (go_at_call 55; refine (HP0.out _ HT.out).mono ?_; rintro e' w2 ⟨rfl, hw2⟩; have HT2 := hide (HT.out.below hw2); have HB2 := hide hw2; obtain ⟨d0, d1, g0, g1⟩ := HC.out _ HT2.out; clear hw2 HP0)
        | (go_at_call 55; refine (HP1.out _ HT2.out).mono ?_; rintro e' w3 ⟨rfl, hw3⟩; have HT3 := hide (HT2.out.below hw3); have HB3 := hide (HB2.out.trans (hw3.mono HB2.out.size)); obtain ⟨k0, k1, l0, l1⟩ := HC.out _ HT3.out; clear hw3 HP1))
      go_ret
      exact ⟨rfl, _, HT3.out, Tr.ofBelow HB3.out⟩
end Go.Proofs.Ytijfnacplikibab
