import Derived.Test.YtnjlbkbhlcccmaaDoorBMadeN
namespace Go.Proofs.YtnjlbkbhlcccmaaDoor
open Go.RowKit Go.Shelf
set_option linter.unusedVariables false
set_option linter.unusedSimpArgs false
set_option maxRecDepth 20000

/-- a pair, or the place of one that was not made; V: its blocks -/
def PS (w : World) (pp k : Nat) (V : Nat → Prop) : Prop := (w.cell? ⟨pp, 0, none⟩ = some (.pointer none) ∧ V pp) ∨ ∃ L R n B, Pr w pp k L R n B ∧ ∀ b, PU pp L R b → V b
theorem PS.keep {w w' : World} {pp k : Nat} {V : Nat → Prop} (h : PS w pp k V) (hk : ∀ b, b < w.heap.size → V b → w'.heap[b]? = w.heap[b]?) : PS w' pp k V := by
  rcases h with ⟨h1, h2⟩ | ⟨L, R, n, B, h1, h2⟩
  · refine .inl ⟨?_, h2⟩
    rw [World.cell?_of_block (a := ⟨pp, 0, none⟩) (hk pp (World.block_lt_of_cell? w _ h1) h2)]
    exact h1
  · exact .inr ⟨L, R, n, B, h1.kept fun b hb => hk b (h1.lt b hb) (h2 b hb), h2⟩
theorem PS.below {w w' : World} {pp k : Nat} {V : Nat → Prop} (h : PS w pp k V) (hb : Below w.heap.size w w') : PS w' pp k V := h.keep fun b hl _ => hb.block b hl
theorem BkB.drewN {late : Bool} {w : World} {k c : Nat} {U : Nat → Prop} (h : BkB late w k U c) (j : Nat) : BkB late (w.drewN j) k U c := h.below ((Qt.refl _).drewN j).2
theorem KPB.drewN {late : Bool} {k c : Nat} {U : Nat → Prop} (x : World) (v : Value) (y : World) (j : Nat) (h : KPB late k c U x v y) : KPB late k c U x v (y.drewN j) := by
  obtain ⟨U', h1, h2, h3⟩ := h
  exact ⟨U', h1.drewN j, h2.trans (Chg.ofBelow ((Qt.refl _).drewN j).2), h3⟩
/-- what made leaves, of either mode -/
def MkP (late : Bool) (w w' : World) (pp k : Nat) (U : Nat → Prop) (c : Nat) : Prop :=
  ∃ U' V, BkB late w' k U' (c + 1) ∧ PS w' pp k V ∧ Chg U w w' ∧ (∀ b, U' b → U b ∨ w.heap.size ≤ b) ∧ ∀ b, V b → w.heap.size ≤ b ∧ b < w'.heap.size ∧ ¬ U' b
theorem MkP.below {late : Bool} {w w' : World} {pp k c : Nat} {U : Nat → Prop} (hb : BkB late w k U c) (h1 : Below w.heap.size w w') (h2 : PS w' pp k fun b => w.heap.size ≤ b ∧ b < w'.heap.size) : MkP late w w' pp k U c :=
  ⟨U, _, (hb.below h1).more (by omega), h2, Chg.ofBelow h1, fun b e => .inl e, fun b e => ⟨e.1, e.2, fun hu => by have := hb.lt b hu; omega⟩⟩
theorem made_any {late : Bool} {w : World} {k c : Nat} {U : Nat → Prop} {fr : Bool} {n : Int} {mv : Value} {l : List Nat} (hb : BkB late w k U c) (hc : c ≤ 4000000000000) (hv : WSl w mv l) (hr : l.length ≤ 17592186044416) :
    Calls Tryd.prog 5 #[.agg #[.bool fr, .int .i64 n, mv], .pointer (some ⟨k, 0, none⟩)] w fun e w' => e = .returned (.tuple #[.pointer (some ⟨w.heap.size + 1, 0, none⟩), .bool true]) ∧ MkP late w w' (w.heap.size + 1) k U c := by
  have hm : l.length + 3 ≤ maxLen := by unfold maxLen; omega
  have hkl := hb.lt k hb.uk
  have keep : ∀ x v, Below w.heap.size w x → Cp (w.heap.size + 2) x v l → Calls Tryd.prog 13 #[.pointer (some ⟨k, 0, none⟩), v] x fun e w' => e = .returned (.tuple #[]) ∧ KPB late k c U x v w' ∧ Chg (fun b => b < w.heap.size ∨ v.ownBlock = some b) x w' := fun x v h1 h3 =>
    (keepAny (hb.below h1) (h3.rowL hm) (h3.wsl hv.lt hm) hr hc fun b e hu => by have := h3.own b e; have := hb.lt b hu; omega).mono fun e w' hp => ⟨hp.1, hp.2, by
      obtain ⟨U', _, h4, _⟩ := hp.2
      exact h4.mono fun b _ e => e.imp (hb.lt b) id⟩
  have both : ∀ x v w' (V : Nat → Prop), Below w.heap.size w x → Cp (w.heap.size + 2) x v l → KPB late k c U x v w' → PS w' (w.heap.size + 1) k V → (∀ b, V b → w.heap.size ≤ b ∧ b < x.heap.size ∧ v.ownBlock ≠ some b) → MkP late w w' (w.heap.size + 1) k U c := fun x v w' V h1 h2 ⟨U', h3, h4, h5⟩ h6 h7 => by
    have hs := h1.size
    have hs2 := h4.size
    refine ⟨U', V, h3, h6, ⟨h4.os.trans h1.os, h4.tape.trans h1.tape, h4.output.trans h1.output, Nat.le_trans hs hs2, fun b hb hn => (h4.keep b (by omega) ?_).trans (h1.block b hb)⟩, fun b e => ?_, fun b e => ⟨(h7 b e).1, by have := (h7 b e).2.1; omega, fun hu => ?_⟩⟩
    · rintro (e | e)
      · exact hn e
      · have := h2.own b e; omega
    · rcases h5 b e with e | e | e
      · exact .inl e
      · have := h2.own b e; exact .inr (by omega)
      · exact .inr (by omega)
    · obtain ⟨q1, q2, q3⟩ := h7 b e
      rcases h5 b hu with e | e | e
      · have := hb.lt b e; omega
      · exact q3 e
      · omega
  have some' : ∀ x v w' L R nn B, Below w.heap.size w x → Cp (w.heap.size + 2) x v l → KPB late k c U x v w' → Pr w' (w.heap.size + 1) k L R nn B → (∀ b, PU (w.heap.size + 1) L R b → w.heap.size ≤ b ∧ b < x.heap.size ∧ v.ownBlock ≠ some b) → MkP late w w' (w.heap.size + 1) k U c := fun x v w' L R nn B h1 h2 h3 h4 h5 => both x v w' _ h1 h2 h3 (.inr ⟨L, R, nn, B, h4, fun b e => e⟩) h5
  have none' : ∀ x v w', Below w.heap.size w x → w.heap.size + 1 < x.heap.size → Cp (w.heap.size + 2) x v l → KPB late k c U x v w' → w'.cell? ⟨w.heap.size + 1, 0, none⟩ = some (.pointer none) → MkP late w w' (w.heap.size + 1) k U c := fun x v w' h1 h9 h2 h3 h4 => both x v w' (fun b => b = w.heap.size + 1) h1 h2 h3 (.inl ⟨h4, rfl⟩) (by
    rintro b rfl
    exact ⟨by omega, h9, fun e => by have := h2.own _ e; omega⟩)
  have hv' := hv
  obtain ⟨a, cap, rfl, -⟩ := hv'
  by_cases hn : 1 ≤ n ∧ n ≤ 65536
  · obtain ⟨m, rfl⟩ : ∃ m : Nat, n = (m : Int) := ⟨n.toNat, by omega⟩
    have h1 : 1 ≤ m := by omega
    have h2 : m ≤ 65536 := by omega
    cases fr with
    | false =>
      refine (made_new_some_g hv hr m h1 h2).mono ?_
      rintro e w' ⟨rfl, hbe, L, R, hp, hq⟩
      exact ⟨rfl, MkP.below hb hbe (.inr ⟨L, R, _, _, hp, fun b e => ⟨hq b e, hp.lt b e⟩⟩)⟩
    | true =>
      by_cases he : cwErr m l = 0
      · refine (made_from_some_g (KP := KPB late k c U) hv hr hkl KPB.drewN keep m h1 h2 he).mono ?_
        rintro e w' ⟨rfl, x, v, h3, -, h4, h5, -, L, R, h6, h7⟩
        exact ⟨rfl, some' x v w' L R _ _ h3 h4 h5 h6 h7⟩
      · refine (made_from_no_g (KP := KPB late k c U) hv hr hkl KPB.drewN keep (m : Int) _ (fun y v hy => From_bad m h1 h2 hy he) (fun y v hy => rFrom_bad m h1 h2 hy he)).mono ?_
        rintro e w' ⟨rfl, x, v, h3, h9, h4, h5, -, h6⟩
        exact ⟨rfl, none' x v w' h3 h9 h4 h5 h6⟩
  · cases fr with
    | false =>
      refine (made_new_no_g hv hr n 1 (fun y => (New_no y n hn).mono fun e w' ⟨h1, h2⟩ => ⟨h1, h2 ▸ Below.refl _ _⟩) (fun y => rNew_no y n hn)).mono ?_
      rintro e w' ⟨rfl, hbe, h6⟩
      exact ⟨rfl, MkP.below hb hbe (.inl ⟨h6, by omega, World.block_lt_of_cell? w' _ h6⟩)⟩
    | true =>
      refine (made_from_no_g (KP := KPB late k c U) hv hr hkl KPB.drewN keep n 1 (fun y v hy => (From_no n hn hy).mono fun e w' ⟨h1, h2⟩ => ⟨h1, h2 ▸ Below.refl _ _⟩) (fun y v hy => rFrom_no n hn hy)).mono ?_
      rintro e w' ⟨rfl, x, v, h3, h9, h4, h5, -, h6⟩
      exact ⟨rfl, none' x v w' h3 h9 h4 h5 h6⟩
end Go.Proofs.YtnjlbkbhlcccmaaDoor
