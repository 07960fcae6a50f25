import Derived.Test.YtglajdmkbckjjabDoorBWs
import Derived.Test.YtglajdmkbckjjabDoorBTile
import Derived.Test.YtglajdmkbckjjabDoorBFrom2
namespace Go.Proofs.YtglajdmkbckjjabDoor
open Go.RowKit Go.Shelf
set_option linter.unusedVariables false
set_option linter.unusedSimpArgs false
set_option maxRecDepth 20000

theorem WS.below {w0 w w' : World} {p : Nat} {cv : Value} {c : List Nat} {D : List Bool} (h : WS w0 w p cv c D) (hb : Below w.heap.size w w') : WS w0 w' p cv c D := by
  have k : ∀ {b o}, w.heap[b]? = some o → w'.heap[b]? = some o := fun hh => (hb.block _ (Array.getElem?_eq_some_iff.1 hh).1).trans hh
  refine ⟨k h.row, rowK8 h.own fun b e => ?_, h.wrt, ⟨hb.os.trans h.chg.os, hb.tape.trans h.chg.tape, hb.output.trans h.chg.output, Nat.le_trans h.chg.size hb.size, fun b h1 h2 => (hb.block b (Nat.lt_of_lt_of_le h1 h.chg.size)).trans (h.chg.keep b h1 h2)⟩, h.loc, h.pN⟩
  obtain ⟨cs, hcs⟩ := h.blk e
  rw [hcs]
  exact k hcs
/-- a set run ahead: the stretches from s on -/
theorem encP_run {B n s i en : Nat} (h1 : s ≤ i) (h2 : i < en) (h3 : en ≤ n) (hz : ∀ j, s ≤ j → j < i → B.testBit j = false) (ho : ∀ j, i ≤ j → j < en → B.testBit j = true) (hb : en < n → B.testBit en = false) : encP B n s = stD (i - s) ++ (stD (en - i) ++ encP B n en) := by
  have hr2 : ren B n i = en := ren_unique h2 h3 (fun j a b => by rw [ho j a b, ho i (Nat.le_refl _) h2]) (fun h => by rw [hb h, ho i (Nat.le_refl _) h2]; rfl)
  have e2 : encP B n i = stD (en - i) ++ encP B n en := by
    rw [encP_step (by omega), hr2, stD, if_neg (by omega)]
  by_cases hs : s = i
  · subst hs
    rw [e2, Nat.sub_self]
    rfl
  · have hr1 : ren B n s = i := ren_unique (by omega) (by omega) (fun j a b => by rw [hz j a b, hz s (Nat.le_refl _) (by omega)]) (fun h => by rw [ho i (Nat.le_refl _) h2, hz s (Nat.le_refl _) (by omega)]; rfl)
    have e3 : stD (i - s) = gam (i - s) := by rw [stD, if_neg (by omega)]
    rw [encP_step (by omega), hr1, e2, e3]
theorem encP_clear {B n s : Nat} (h1 : s ≤ n) (hz : ∀ j, s ≤ j → j < n → B.testBit j = false) : encP B n s = stD (n - s) := by
  by_cases hs : s < n
  · have hr : ren B n s = n := ren_unique hs (Nat.le_refl _) (fun j a b => by rw [hz j a b, hz s (Nat.le_refl _) hs]) (fun h => by omega)
    rw [encP_step hs, hr, encP_end (by omega), stD, if_neg (by omega), List.append_nil]
  · rw [encP_end hs, stD, if_pos (by omega)]
theorem gam_small {x : Nat} (h : 1 ≤ x) : (gam x).length ≤ 2 * x := by
  rw [gam_len]
  have a1 := Nat.log2_self_le (n := x) (by omega)
  have : x.log2 < 2 ^ x.log2 := Nat.lt_two_pow_self
  omega
theorem stD_small (x : Nat) : (stD x).length ≤ 2 * x := by
  unfold stD
  split
  · simp
  · exact gam_small (by omega)
/-- between two runs: P: the writer; Q: place; Q + 1: what Runs holds -/
structure EI (W2 W : World) (P Q : Nat) (L : BL) (s : Nat) (D : List Bool) : Prop where
  ws : ∃ cv c, WS W2 W P cv c D
  plc : W.heap[Q]? = some (.cells #[.int .i64 (s : Int)] 3 (0, 0))
  clo : W.heap[Q + 1]? = some (.cells #[PB L] 44 (0, 0))
  ne : Q ≠ P ∧ Q + 1 ≠ P
theorem EI.chg {W2 W : World} {P Q s : Nat} {L : BL} {D : List Bool} (h : EI W2 W P Q L s D) : Chg (fun b => b = P) W2 W := by
  obtain ⟨cv, c, hs⟩ := h.ws
  exact hs.chg
theorem EI.own {W2 W W' : World} {row : Option Nat} {P Q s K : Nat} {L : BL} {D : List Bool} (h : EI W2 W P Q L s D) (hK : W2.heap.size ≤ K) (hg : W.grownBy W' row) (hr : ∀ r, row = some r → K ≤ r ∧ ∃ o : Obj, W.heap[r]? = some o ∧ o.isCells = false) : EI W2 W' P Q L s D := by
  obtain ⟨cv, c, hs⟩ := h.ws
  refine ⟨⟨cv, c, own_blk hs.row hg hr, rowK8 hs.own fun b e => ?_, hs.wrt, own_chg hs.chg hK hg hr, hs.loc, hs.pN⟩, own_blk h.plc hg hr, own_blk h.clo hg hr, h.ne⟩
  obtain ⟨cs, hcs⟩ := hs.blk e
  rw [hcs]
  exact own_blk hcs hg hr
theorem EI.wz {W2 W : World} {P Q s : Nat} {L : BL} {D : List Bool} (h : EI W2 W P Q L s D) : WZ W2 W W P D := ⟨h.ws, TF.refl _ _⟩
theorem EI.took {W2 W W' : World} {P Q s : Nat} {L : BL} {D D' : List Bool} (h : EI W2 W P Q L s D) (hz : WZ W2 W W' P D') : EI W2 W' P Q L s D' :=
  ⟨hz.1, hz.2.keep _ _ h.plc h.ne.1 (fun cs fr e => by simp at e), hz.2.keep _ _ h.clo h.ne.2 (fun cs fr e => by simp at e), h.ne⟩
theorem EI.put {W2 W : World} {P Q s s' : Nat} {L : BL} {D : List Bool} (h : EI W2 W P Q L s D) (hQ : W2.heap.size ≤ Q) {X : Int} (hX : X = (s' : Int)) : EI W2 (W.setCell ⟨Q, 0, none⟩ (.int .i64 X)) P Q L s' D := by
  subst hX
  obtain ⟨cv, c, hs⟩ := h.ws
  have hs2 : (W.setCell ⟨Q, 0, none⟩ (.int .i64 (s' : Int))).heap.size = W.heap.size := by simp [World.setCell]
  refine ⟨⟨cv, c, (Go.heap_setCell_other _ _ _ _ (Ne.symm h.ne.1)).trans hs.row, rowK8 hs.own fun b e => Go.heap_setCell_other _ _ _ _ fun e2 => ?_, hs.wrt, ⟨hs.chg.os, hs.chg.tape, hs.chg.output, by rw [hs2]; exact hs.chg.size, fun b hb hne => (Go.heap_setCell_other _ _ _ _ (by show b ≠ Q; omega)).trans (hs.chg.keep b hb hne)⟩, hs.loc, hs.pN⟩, ?_, (Go.heap_setCell_other _ _ _ _ (by show Q + 1 ≠ Q; omega)).trans h.clo, h.ne⟩
  · obtain ⟨cs, hcs⟩ := hs.blk e
    have e3 : b = Q := e2
    rw [e3, h.plc] at hcs
    simp at hcs
  · rw [Go.heap_setCell_same _ _ 0 _ 3 _ h.plc]
    rfl
theorem keeps_TF {p K : Nat} {w w' : World} (h : TF p w w') {cs : Array Value} {t : TypeId} {fr : Nat × Nat} (hp : w.heap[p]? = some (.cells cs t fr)) : KeepsFrom K w w' :=
  ⟨h.size, fun b o _ hb hc => h.keep b o hb (fun e => by subst e; rw [hp] at hb; cases hb; simp [Obj.isCells] at hc) (fun cs fr e => by subst e; simp [Obj.isCells] at hc)⟩
theorem keeps_put {K Q : Nat} {w : World} {v : Value} {cs : Array Value} {t : TypeId} {fr : Nat × Nat} (hp : w.heap[Q]? = some (.cells cs t fr)) : KeepsFrom K w (w.setCell ⟨Q, 0, none⟩ v) :=
  ⟨by simp [World.setCell], fun b o _ hb hc => (Go.heap_setCell_other _ _ _ _ (fun e => by have e : b = Q := e; subst e; rw [hp] at hb; cases hb; simp [Obj.isCells] at hc)).trans hb⟩
theorem wstretch_at {w0 wA w : World} {p : Nat} {D : List Bool} (h : WZ w0 wA w p D) (x : Nat) (hx : x ≤ 65536) (hD : D.length ≤ 9000000) {X : Int} (hX : X = (x : Int)) :
    Calls Tryd.prog 28 #[.pointer (some ⟨p, 0, none⟩), .int .i64 X] w fun e w' => e = .returned (.tuple #[]) ∧ WZ w0 wA w' p (D ++ stD x) := by
  subst hX
  exact wstretch_any h x hx hD
end Go.Proofs.YtglajdmkbckjjabDoor
