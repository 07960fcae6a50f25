import Derived.Test.YtglajdmkbckjjabDoorBRuns
import Derived.Test.YtglajdmkbckjjabDoorBEnds
namespace Go.Proofs.YtglajdmkbckjjabDoor
open Go.RowKit Go.Shelf
attribute [local go_sem] Oper.semAt_some
set_option linter.unusedVariables false
set_option linter.unusedSimpArgs false
set_option maxRecDepth 20000

theorem enters38 : ∀ args w, (callFunc 54 args).run Tryd.prog w = .ok (.enter 54 args) w := enters_of Tryd.func54 (by kernel_rfl) rfl

/-- between two rounds: N, M: where the boxes lie -/
structure TInv (w W : World) (N M : Nat) (L : BL) (n B s t : Nat) : Prop where
  rep : BRep W L n B
  tab : TabAt W
  bel : Below N w W
  b0 : W.heap[N]? = some (.cells #[.int .i64 (n : Int)] 3 (0, 0))
  b1 : W.heap[N + 1]? = some (.cells #[.bool false] 4 (0, 0))
  m0 : W.heap[M]? = some (.cells #[PB L] 44 (0, 0))
  m1 : W.heap[M + 1]? = some (.cells #[PB L] 44 (0, 0))
  m2 : W.heap[M + 1 + 1]? = some (.cells #[.int .i64 (s : Int)] 3 (0, 0))
  m3 : W.heap[M + 1 + 1 + 1]? = some (.cells #[.int .i64 (t : Int)] 3 (0, 0))
theorem TInv.own {w W W' : World} {row : Option Nat} {N M K : Nat} {L : BL} {n B s t : Nat} (h : TInv w W N M L n B s t) (hN : N ≤ K) (h0 : 0 < K) (hg : W.grownBy W' row) (hr : ∀ r, row = some r → K ≤ r ∧ ∃ o : Obj, W.heap[r]? = some o ∧ o.isCells = false) (hNW : N ≤ W.heap.size) : TInv w W' N M L n B s t :=
  ⟨own_rep h.rep hg hr, h.tab.of (hg.block _ h.tab.lt (fun e => by have := (hr _ e.symm).1; omega)), h.bel.grown hg hNW (fun k e => by have := (hr k e).1; omega),
    own_blk h.b0 hg hr, own_blk h.b1 hg hr, own_blk h.m0 hg hr, own_blk h.m1 hg hr, own_blk h.m2 hg hr, own_blk h.m3 hg hr⟩
theorem TInv.below {w W W' : World} {N M : Nat} {L : BL} {n B s t : Nat} (h : TInv w W N M L n B s t) (hb : Below W.heap.size W W') : TInv w W' N M L n B s t := by
  have k : ∀ {b o}, W.heap[b]? = some o → W'.heap[b]? = some o := fun hh => (hb.block _ (Array.getElem?_eq_some_iff.1 hh).1).trans hh
  have hN : N ≤ W.heap.size := Nat.le_of_lt (Array.getElem?_eq_some_iff.1 h.b0).1
  exact ⟨h.rep.below hb, h.tab.below hb, h.bel.trans (hb.mono hN), k h.b0, k h.b1, k h.m0, k h.m1, k h.m2, k h.m3⟩

theorem cnt_gap {B s i e : Nat} (h1 : s ≤ i) (h2 : i ≤ e) (hz : ∀ j, s ≤ j → j < i → B.testBit j = false) (ho : ∀ j, i ≤ j → j < e → B.testBit j = true) : cnt B.testBit e = cnt B.testBit s + (e - i) := by
  obtain ⟨d, rfl⟩ : ∃ d, i = s + d := ⟨i - s, by omega⟩
  obtain ⟨c, rfl⟩ : ∃ c, e = s + d + c := ⟨e - (s + d), by omega⟩
  rw [cnt_add, cnt_add, cnt_zero d (fun j hj => hz _ (by omega) (by omega)), cnt_full c (fun j hj => ho _ (by omega) (by omega))]
  omega
theorem run_all {B n i : Nat} (hi : B.testBit i = true) (hin : i < n) : (∀ j, i ≤ j → j < (nc B n i).getD n → B.testBit j = true) ∧ ((nc B n i).getD n < n → B.testBit ((nc B n i).getD n) = false) := by
  cases hc : nc B n i with
  | none => exact ⟨fun j h1 h2 => nc_no hc j h1 h2, fun h => by simp at h⟩
  | some e =>
    obtain ⟨k1, k2, k3, k4⟩ := nc_facts hc (by omega)
    exact ⟨fun j h1 h2 => k4 j h1 h2, fun _ => k3⟩

/-- the two boxes are written -/
theorem TInv.stored {w W : World} {N M : Nat} {L : BL} {n B s t s' t' : Nat} (h : TInv w W N M L n B s t) (hNM : N + 1 < M) (hU : ∀ b, L.U b → b < M) (hg : 0 < N) {S T : Int} (hS : S = (s' : Int)) (hT : T = (t' : Int)) :
    TInv w ((W.setCell ⟨M + 1 + 1 + 1, 0, none⟩ (.int .i64 T)).setCell ⟨M + 1 + 1, 0, none⟩ (.int .i64 S)) N M L n B s' t' ∧ ∀ K, KeepsFrom K W ((W.setCell ⟨M + 1 + 1 + 1, 0, none⟩ (.int .i64 T)).setCell ⟨M + 1 + 1, 0, none⟩ (.int .i64 S)) := by
  subst hS hT
  have oth : ∀ b, b ≠ M + 1 + 1 → b ≠ M + 1 + 1 + 1 → ((W.setCell ⟨M + 1 + 1 + 1, 0, none⟩ (.int .i64 (t' : Int))).setCell ⟨M + 1 + 1, 0, none⟩ (.int .i64 (s' : Int))).heap[b]? = W.heap[b]? := fun b h1 h2 => by
    rw [Go.heap_setCell_other _ _ _ _ h1, Go.heap_setCell_other _ _ _ _ h2]
  refine ⟨⟨h.rep.kept fun b hu => oth b (by have := hU b hu; omega) (by have := hU b hu; omega), h.tab.of (oth _ (by omega) (by omega)), (h.bel.setCell (p := ⟨M + 1 + 1 + 1, 0, none⟩) (by show N ≤ M + 1 + 1 + 1; omega) _).setCell (p := ⟨M + 1 + 1, 0, none⟩) (by show N ≤ M + 1 + 1; omega) _, ?_, ?_, ?_, ?_, ?_, ?_⟩, fun K => ⟨by simp [World.setCell], fun b o hb ho hc => ?_⟩⟩
  · rw [oth _ (by omega) (by omega)]; exact h.b0
  · rw [oth _ (by omega) (by omega)]; exact h.b1
  · rw [oth _ (by omega) (by omega)]; exact h.m0
  · rw [oth _ (by omega) (by omega)]; exact h.m1
  · rw [Go.heap_setCell_same _ _ 0 _ 3 _ ((Go.heap_setCell_other _ _ _ _ (by show M + 1 + 1 ≠ M + 1 + 1 + 1; omega)).trans h.m2)]; rfl
  · rw [Go.heap_setCell_other _ _ _ _ (by show M + 1 + 1 + 1 ≠ M + 1 + 1; omega), Go.heap_setCell_same _ _ 0 _ 3 _ h.m3]; rfl
  · rw [oth b (fun e => by rw [e, h.m2] at ho; cases ho; simp [Obj.isCells] at hc) (fun e => by rw [e, h.m3] at ho; cases ho; simp [Obj.isCells] at hc)]
    exact ho
theorem fnEqNil (W : World) (f : Nat) (a b : Array Value) : (binOp .eql 73 (.func (.func f) a b) .nilFunc).run Tryd.prog W = .ok (.bool false) W := by kernel_rfl
end Go.Proofs.YtglajdmkbckjjabDoor
