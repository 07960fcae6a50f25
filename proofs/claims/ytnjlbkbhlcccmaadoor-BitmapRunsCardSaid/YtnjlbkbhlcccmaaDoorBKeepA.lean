import Derived.Test.YtnjlbkbhlcccmaaDoorBBs
namespace Go.Proofs.YtnjlbkbhlcccmaaDoor
open Go.RowKit Go.Shelf
set_option linter.unusedVariables false
set_option linter.unusedSimpArgs false
set_option maxRecDepth 20000

theorem Cp.rowL {N : Nat} {w : World} {v : Value} {l : List Nat} (h : Cp N w v l) (hm : l.length + 3 ≤ maxLen) : w.ownsRow 0 63 1 v l.length (l.map u64V) := by
  rcases h with ⟨rfl, rfl⟩ | ⟨g, rfl, hN, hg⟩
  · exact ⟨rfl, .inl ⟨rfl, rfl⟩⟩
  · refine ⟨by simp, .inr ⟨g, l.length + 3, _, rfl, Nat.zero_le _, hg, by omega, hm, by rw [cpRow_size]; omega, ?_⟩⟩
    have e := (Array.length_toList (xs := cpRow (l.length + 3) fun i => if i < l.length then l.getD i 0 else behindN)).trans (cpRow_size _ _)
    refine List.ext_getElem? fun i => ?_
    by_cases hi : i < l.length
    · have h1 := cpRow_get (len := l.length + 3) (i := i) (fun i => if i < l.length then l.getD i 0 else behindN) (by omega)
      rw [if_pos hi] at h1
      rw [List.getElem?_take_of_lt (by omega), Array.getElem?_toList, h1]
      simp [List.getD, hi, u64V]
    · rw [List.getElem?_eq_none (l := List.take _ _) (by rw [List.length_take, e]; omega), List.getElem?_eq_none (by simp; omega)]
/-- the book of either mode, in the blocks U; c lists were kept at most -/
def BkB (late : Bool) (w : World) (k : Nat) (U : Nat → Prop) (c : Nat) : Prop := ∃ bv raw was ys vs us, Bs late w k U bv raw was ys vs us ∧ ys.length + 2 * vs.length ≤ 2 * c ∧ (late = true → ys = [])
theorem BkB.lt {late : Bool} {w : World} {k c : Nat} {U : Nat → Prop} (h : BkB late w k U c) : ∀ b, U b → b < w.heap.size := by
  obtain ⟨_, _, _, _, _, _, h, _⟩ := h
  exact h.lt
theorem BkB.uk {late : Bool} {w : World} {k c : Nat} {U : Nat → Prop} (h : BkB late w k U c) : U k := by
  obtain ⟨_, _, _, _, _, _, h, _⟩ := h
  exact h.uk
theorem BkB.chg {late : Bool} {V : Nat → Prop} {w w' : World} {k c : Nat} {U : Nat → Prop} (h : BkB late w k U c) (hc : Chg V w w') (hV : ∀ b, U b → ¬ V b) : BkB late w' k U c := by
  obtain ⟨bv, raw, was, ys, vs, us, h, hl⟩ := h
  exact ⟨bv, raw, was, ys, vs, us, h.chg hc hV, hl⟩
theorem BkB.below {late : Bool} {w w' : World} {k c : Nat} {U : Nat → Prop} (h : BkB late w k U c) (hc : Below w.heap.size w w') : BkB late w' k U c := h.chg (V := fun _ => False) (Chg.ofBelow hc) fun _ _ e => e
theorem BkB.more {late : Bool} {w : World} {k c d : Nat} {U : Nat → Prop} (h : BkB late w k U c) (hd : c ≤ d) : BkB late w k U d := by
  obtain ⟨bv, raw, was, ys, vs, us, h, hl⟩ := h
  exact ⟨bv, raw, was, ys, vs, us, h, by omega, hl.2⟩
/-- what keep of either mode leaves -/
def KPB (late : Bool) (k c : Nat) (U : Nat → Prop) (x : World) (v : Value) (w' : World) : Prop := ∃ U', BkB late w' k U' (c + 1) ∧ KpU x w' U U' v
theorem keepAny {late : Bool} {w : World} {k c : Nat} {U : Nat → Prop} {v : Value} {l : List Nat} (h : BkB late w k U c) (hv : w.ownsRow 0 63 1 v l.length (l.map u64V)) (hw : WSl w v l) (hl : l.length ≤ 17592186044416) (hc : c ≤ 4000000000000) (hap : ∀ b, v.ownBlock = some b → ¬ U b) :
    Calls Tryd.prog 13 #[.pointer (some ⟨k, 0, none⟩), v] w fun e w' => e = .returned (.tuple #[]) ∧ KPB late k c U w v w' := by
  obtain ⟨bv, raw, was, ys, vs, us, h, hh, hy⟩ := h
  cases late with
  | false =>
    refine (keepB h hv hl (by omega) hap).mono ?_
    rintro e w' ⟨rfl, U', bv', gv, hB, hK⟩
    exact ⟨rfl, U', ⟨_, _, _, _, _, _, hB, by simp; omega, fun e => by cases e⟩, hK⟩
  | true =>
    refine (keepLB h hv hw hl (by omega) hap).mono ?_
    rintro e w' ⟨rfl, U', raw', was', u, hB, hK⟩
    exact ⟨rfl, U', ⟨_, _, _, _, _, _, hB, by simp; omega, hy⟩, hK⟩
end Go.Proofs.YtnjlbkbhlcccmaaDoor
