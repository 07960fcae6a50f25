import Derived.Test.YtdjdcpldofmdjaaCPn
namespace Go.Proofs.Ytdjdcpldofmdjaa
open Go.RowKit
set_option linter.unusedVariables false
set_option linter.unusedSimpArgs false
set_option maxRecDepth 20000

/-- a block of ints -/
def Ints (w : World) (p : Nat) (vs : List Int) : Prop := w.heap[p]? = some (.cells (vs.map fun x => Value.int .i64 x).toArray 23 (0, 0))
theorem Ints.cell {w : World} {p : Nat} {vs : List Int} (h : Ints w p vs) {k : Nat} (hk : k < vs.length) : w.cell? ⟨p, k, none⟩ = some (.int .i64 (vs.getD k 0)) := by
  rw [cell_of_row _ _ _ _ _ _ h]
  simp [List.getD, List.getElem?_eq_getElem hk]
theorem Ints.nostr {w : World} {p : Nat} {vs : List Int} (h : Ints w p vs) {k : Nat} {s : ByteArray} : w.cell? ⟨p, k, none⟩ ≠ some (.string s) := by
  rw [cell_of_row _ _ _ _ _ _ h]
  simp only [List.getElem?_toArray, List.getElem?_map]
  cases vs[k]? <;> simp
theorem Ints.frz {w : World} {p : Nat} {vs : List Int} (h : Ints w p vs) (k : Nat) : w.frozen? ⟨p, k, none⟩ = false := frozen_of_row _ _ _ _ _ h
theorem Ints.below {w w' : World} {p : Nat} {vs : List Int} (h : Ints w p vs) (hb : Below w.heap.size w w') : Ints w' p vs := (hb.block _ (Array.getElem?_eq_some_iff.1 h).1).trans h
theorem Ints.set {w : World} {p : Nat} {vs : List Int} (h : Ints w p vs) (k : Nat) (x : Int) : Ints (w.setCell ⟨p, k, none⟩ (.int .i64 x)) p (vs.set k x) := by
  unfold Ints
  rw [Go.heap_setCell_same _ _ k _ 23 _ h]
  simp [List.map_set]
theorem cell_setI {w : World} {p k g j : Nat} {x : Int} {v : Value} (hne : g ≠ p) (h : w.cell? ⟨g, j, none⟩ = some v) : (w.setCell ⟨p, k, none⟩ (.int .i64 x)).cell? ⟨g, j, none⟩ = some v := by
  rw [World.cell?_of_block (Go.heap_setCell_other _ _ _ _ (by show g ≠ p; exact hne))]; exact h
theorem NmL.set {w : World} {p k : Nat} {vs : List Int} {v : Value} {ns : Nm} {x : Int} (h : NmL w v ns) (hp : Ints w p vs) : NmL (w.setCell ⟨p, k, none⟩ (.int .i64 x)) v ns := by
  obtain ⟨g, off, cap, e, h1, h2, h3⟩ := h
  refine ⟨g, off, cap, e, h1, h2, fun i hi => ?_⟩
  have hne : g ≠ p := fun e => by
    have := (h3 i hi).1
    rw [e] at this
    exact hp.nostr this
  exact ⟨cell_setI hne (h3 i hi).1, cell_setI hne (h3 i hi).2⟩
theorem PtV.set {w : World} {p q k k' : Nat} {vs : List Int} {d : Option Nm} {v : Value} {x : Int} (h : PtV w q k d v) (hp : Ints w p vs) : PtV (w.setCell ⟨p, k', none⟩ (.int .i64 x)) q k d v := by
  cases d with
  | none => exact h
  | some ns => obtain ⟨u, h1, h2⟩ := h; exact ⟨u, h1.set hp, h2⟩
theorem PtL.set {w : World} {p q k' : Nat} {vs : List Int} {v : Value} {x : Int} (h : PtL w v q) (hp : Ints w p vs) : PtL (w.setCell ⟨p, k', none⟩ (.int .i64 x)) v q := by
  obtain ⟨g, e, hh⟩ := h
  refine ⟨g, e, fun k hk => ?_⟩
  obtain ⟨h1, y, h2, h3⟩ := hh k hk
  have hne : g ≠ p := fun e => by rw [e] at h1; exact hp.nostr h1
  exact ⟨cell_setI hne h1, y, cell_setI hne h2, h3.set hp⟩
/-- part k at the front of a text: how many bytes stand, whether it is whole, what is laid into its field -/
def pOne (k : Nat) (l : List UInt8) : Nat × Bool × Option Int :=
  let lead := leadsL.getD k ⟨#[]⟩
  if cp l (tx lead) < lead.size then (cp l (tx lead), false, none)
  else match kindsL.getD k none with
    | some ns => match chWho ns (l.drop lead.size) with
      | some (n, x) => (lead.size + n, true, some x)
      | none => (lead.size + chFar ns (l.drop lead.size) 0, false, none)
    | none => (lead.size + (rdN (l.drop lead.size) 0 0).1, decide (0 < (rdN (l.drop lead.size) 0 0).1), some ((rdN (l.drop lead.size) 0 0).2 : Nat))
/-- the world behind a part's take -/
def Left (w w' : World) (p k : Nat) (d : Option Int) : Prop := match d with
  | some x => Took w w' p k x
  | none => Below w.heap.size w w'
theorem leads_small : ∀ k, k < 15 → (leadsL.getD k ⟨#[]⟩).size ≤ 1000 := by decide
theorem names_small : ∀ k, k < 15 → ∀ ns, kindsL.getD k none = some ns → ∀ i, i < ns.length → (ns.getD i default).1.size ≤ 1000 := by
  intro k hk ns h
  have hc : k = 0 ∨ k = 1 ∨ k = 2 ∨ k = 3 ∨ k = 4 ∨ k = 5 ∨ (6 ≤ k ∧ k < 15) := by omega
  rcases hc with rfl | rfl | rfl | rfl | rfl | rfl | hc
  all_goals first | (cases h; decide) | skip
  exfalso
  have : k = 6 ∨ k = 7 ∨ k = 8 ∨ k = 9 ∨ k = 10 ∨ k = 11 ∨ k = 12 ∨ k = 13 ∨ k = 14 := by omega
  rcases this with rfl | rfl | rfl | rfl | rfl | rfl | rfl | rfl | rfl <;> cases h
theorem ptake_any {w : World} {p k : Nat} {vs : List Int} {x : Value} (t : ByteArray) (hk : k < 15) (hlen : vs.length = 15) (ht : t.size ≤ maxLen) (hp : Ints w p vs) (hx : PtV w p k (kindsL.getD k none) x) :
    Calls Try.prog 19 #[.agg #[.string (leadsL.getD k ⟨#[]⟩), x], .string t] w fun e w' => e = .returned (.tuple #[.int .i64 ((pOne k (tx t)).1 : Nat), .bool (pOne k (tx t)).2.1]) ∧ Left w w' p k (pOne k (tx t)).2.2 := by
  have hl := leads_small k hk
  have hf := hp.cell (k := k) (by omega)
  have hz : ∀ W, Below w.heap.size w W → W.frozen? ⟨p, k, none⟩ = false := fun W hW => (hp.below hW).frz k
  unfold pOne
  dsimp only
  cases hd : kindsL.getD k none with
  | some ns =>
    rw [hd] at hx
    obtain ⟨u, h1, rfl⟩ := hx
    refine (ptakeH_any (leadsL.getD k ⟨#[]⟩) t ht hl (names_small k hk ns hd) hf hz h1).mono fun e w' h => ?_
    unfold PTk at h
    split at h
    · rename_i hc
      rw [if_pos hc]
      exact h
    · rename_i hc
      rw [if_neg hc]
      cases hw : chWho ns ((tx t).drop (leadsL.getD k ⟨#[]⟩).size) with
      | none =>
        rw [hw] at h
        obtain ⟨h1, h2⟩ := h
        simp only [hw]
        exact ⟨h1.trans (by simp), h2⟩
      | some q =>
        rw [hw] at h
        obtain ⟨h1, h2⟩ := h
        simp only [hw]
        exact ⟨h1.trans (by simp), h2⟩
  | none =>
    rw [hd] at hx
    have hx' : x = .iface 88 (.agg #[.pointer (some ⟨p, k, none⟩)]) := hx
    subst hx'
    refine (ptakeN_any (leadsL.getD k ⟨#[]⟩) t ht hl hf hz).mono fun e w' h => ?_
    unfold PTn at h
    split at h
    · rename_i hc
      rw [if_pos hc]
      exact h
    · rename_i hc
      rw [if_neg hc]
      obtain ⟨h1, h2⟩ := h
      exact ⟨h1.trans (by simp), h2⟩
end Go.Proofs.Ytdjdcpldofmdjaa
