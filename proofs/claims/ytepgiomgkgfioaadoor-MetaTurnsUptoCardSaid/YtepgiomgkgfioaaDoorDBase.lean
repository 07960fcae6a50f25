import Derived.Test.YtepgiomgkgfioaaDoorRows
import Derived.WalkKit
import Derived.WalkSpells
import Derived.WalkLawsBesides
import Derived.Laws.BitsAllLaws
import Derived.BigQuiet
import Derived.Deep.QuietTactic
import Derived.Laws.AppendOwnNone
import Derived.Laws.CopyOwn
import Derived.Lib.SliceRun
import Derived.Maps.RangeWalk
import Derived.Maps.AppendAt
import Derived.OwnWalk
import Derived.Laws.Tables
import Derived.Laws.Rows
import Derived.Deep.WholeRow
import Derived.Laws.ResultCell
import Derived.StillTailTactics
namespace Go.Proofs.YtepgiomgkgfioaaDoor.K
open Go.RowKit
set_option linter.unusedVariables false

theorem hide {p : Prop} (h : p) : Hid p := h
theorem unhide {p : Prop} (h : Hid p) : p := h

def byteV (n : Nat) : Value := .int .u8 (n : Int)

/-- A slice of bytes that reads as the list l. -/
def BSl (w : World) (v : Value) (l : List Nat) : Prop :=
  ∃ a cap, v = .slice a l.length cap ∧ l.length ≤ cap ∧ cap ≤ maxLen ∧ (a = none → cap = 0) ∧ (∀ b ∈ l, b < 256) ∧
    (0 < l.length → ∃ b off, a = some ⟨b, off, none⟩ ∧ ∀ i, i < l.length → w.cell? ⟨b, off + i, none⟩ = some (.int .u8 (l.getD i 0 : Nat)))

theorem mem_getD {l : List Nat} {i : Nat} (h : i < l.length) : l.getD i 0 ∈ l := by
  simp [List.getD, h]
theorem map_byteV_getD {l : List Nat} {i : Nat} (hi : i < l.length) : (l.map byteV)[i]? = some (.int .u8 (l.getD i 0 : Nat)) := by
  simp [List.getD, hi, byteV]
theorem byteV_oneCell (l : List Nat) : ∀ u ∈ l.map byteV, u.oneCell' = true := by
  intro u hu
  obtain ⟨_, _, rfl⟩ := List.mem_map.1 hu
  rfl

theorem BSl.news {w : World} {ad : Addr} {n cap : Nat} {l : List Nat} (h : BSl w (.slice (some ad) n cap) l) : ∀ j u, (l.map byteV)[j]? = some u → w.cell? (ad.add j) = some u := by
  intro j u hu
  have hj : j < l.length := by simpa using (List.getElem?_eq_some_iff.1 hu).1
  obtain ⟨a, cap, e, h1, h2, h3, h4, h5⟩ := h
  simp only [Value.slice.injEq] at e
  obtain ⟨rfl, rfl, rfl⟩ := e
  obtain ⟨b, off, e, hc⟩ := h5 (by omega)
  simp only [Option.some.injEq] at e
  subst e
  rw [Addr.add_lit, hc j hj]
  rw [map_byteV_getD hj] at hu
  exact hu

/-- the block that a list of bytes lies in -/
def blockOf : Value → Option Nat
  | .slice (some a) _ _ => some a.block
  | _ => none

theorem BSl.keptIf {w w' : World} {v : Value} {l : List Nat} (h : BSl w v l) (hk : ∀ g, blockOf v = some g → g < w.heap.size → w'.heap[g]? = w.heap[g]?) : BSl w' v l := by
  obtain ⟨a, cap, rfl, h1, h2, h3, h4, h5⟩ := h
  refine ⟨a, cap, rfl, h1, h2, h3, h4, fun hp => ?_⟩
  obtain ⟨b, off, rfl, hc⟩ := h5 hp
  refine ⟨b, off, rfl, fun i hi => ?_⟩
  have := hc i hi
  have hlt := World.block_lt_of_cell? w _ this
  rw [World.cell?_of_block (hk b rfl hlt)]
  exact this
theorem BSl.below {w w' : World} {v : Value} {l : List Nat} (h : BSl w v l) (hb : Below w.heap.size w w') : BSl w' v l := h.keptIf fun g _ hg => hb.block g hg
theorem BSl.lt256 {w : World} {v : Value} {l : List Nat} (h : BSl w v l) : ∀ b ∈ l, b < 256 := by
  obtain ⟨a, cap, rfl, h1, h2, h3, h4, h5⟩ := h
  exact h4
theorem BSl.len {w : World} {v : Value} {l : List Nat} (h : BSl w v l) : l.length ≤ maxLen := by
  obtain ⟨a, cap, rfl, h1, h2, h3, h4, h5⟩ := h
  omega

/-- bytes that lie whole in a block of their own, and that nobody writes any more -/
def PieceAt (w : World) (g : Nat) (l : List Nat) : Prop := w.heap[g]? = some (.cells (l.map byteV).toArray 5 (0, 0)) ∧ (∀ b ∈ l, b < 256) ∧ l.length ≤ maxLen ∧ 0 < l.length
abbrev sl (g n : Nat) : Value := .slice (some ⟨g, 0, none⟩) n n

theorem PieceAt.bsl {w : World} {g : Nat} {l : List Nat} (h : PieceAt w g l) : BSl w (sl g l.length) l := by
  obtain ⟨h1, h2, h3, h4⟩ := h
  refine ⟨some ⟨g, 0, none⟩, l.length, rfl, Nat.le_refl _, h3, by simp, h2, fun _ => ⟨g, 0, rfl, fun i hi => ?_⟩⟩
  rw [Nat.zero_add, cell_of_row _ _ _ _ _ _ h1]
  rw [List.getElem?_toArray, map_byteV_getD hi]
theorem PieceAt.kept {w w' : World} {g : Nat} {l : List Nat} (h : PieceAt w g l) (e : w'.heap[g]? = w.heap[g]?) : PieceAt w' g l := ⟨e.trans h.1, h.2⟩
theorem PieceAt.lt {w : World} {g : Nat} {l : List Nat} (h : PieceAt w g l) : g < w.heap.size := (Array.getElem?_eq_some_iff.1 h.1).1

theorem ownsRow_keptIf {w w' : World} {base : Nat} {e : TypeId} {v : Value} {n : Nat} {xs : List Value} (h : w.ownsRow base e 1 v n xs) (hk : ∀ g, v.ownBlock = some g → w'.heap[g]? = w.heap[g]?) : w'.ownsRow base e 1 v n xs := by
  refine ⟨h.1, ?_⟩
  rcases h.2 with h0 | ⟨g, cap, cur, rfl, h1, hg, r⟩
  · exact .inl h0
  · exact .inr ⟨g, cap, cur, rfl, h1, by rw [hk g rfl]; exact hg, r⟩

theorem zeroBB : ∀ w, (zeroValue 52).run Tryd.prog w = .ok (.slice none 0 0) w := fun w => by kernel_rfl
theorem info_u8 : (Tryd.prog.info? 5).map (fun i => (i.zero, i.size, i.bytes)) = some (some (.int .u8 0), 1, 1) := by kernel_rfl
theorem info_bytes : (Tryd.prog.info? 29).map (fun i => (i.zero, i.size, i.bytes)) = some (some (.slice none 0 0), 1, 24) := by kernel_rfl
theorem size_u8 : (Tryd.prog.info? 5).map (·.size) = some 1 := by kernel_rfl
theorem size_bytes : (Tryd.prog.info? 29).map (·.size) = some 1 := by kernel_rfl
end Go.Proofs.YtepgiomgkgfioaaDoor.K
