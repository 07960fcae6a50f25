import Derived.Test.YtcjilmafdpnfeaaDoorWRoom
import Derived.Test.YtcjilmafdpnfeaaDoorWNum
import Derived.Laws.AppendOwnNone
namespace Go.Proofs.YtcjilmafdpnfeaaDoor
open Go.RowKit
open Num
set_option linter.unusedVariables false

theorem BSl.one {w : World} (x : Nat) (hx : x < 256) (t : TypeId) : BSl (w.alloc (.cells #[.int .u8 (x : Int)] t)) (.slice (some ⟨w.heap.size, 0, none⟩) 1 1) [x] := by
  refine ⟨_, 1, rfl, Nat.le_refl _, by decide, by simp, by simpa using hx, fun _ => ⟨_, 0, rfl, fun i hi => ?_⟩⟩
  have : i = 0 := by simp at hi; exact hi
  subst this
  rw [cell_of_row _ _ _ _ _ _ (Go.heap_alloc_new w _)]
  rfl
theorem BSl.two {w : World} (x y : Nat) (hx : x < 256) (hy : y < 256) (t : TypeId) : BSl (w.alloc (.cells #[.int .u8 (x : Int), .int .u8 (y : Int)] t)) (.slice (some ⟨w.heap.size, 0, none⟩) 2 2) [x, y] := by
  refine ⟨_, 2, rfl, Nat.le_refl _, by decide, by simp, by simpa using ⟨hx, hy⟩, fun _ => ⟨_, 0, rfl, fun i hi => ?_⟩⟩
  have hi : i < 2 := hi
  rw [cell_of_row _ _ _ _ _ _ (Go.heap_alloc_new w _)]
  obtain rfl | rfl : i = 0 ∨ i = 1 := by omega
  all_goals rfl
theorem BSl.bytes {w : World} {v : Value} {l : List Nat} (h : BSl w v l) : ∀ b ∈ l, b < 256 := by
  obtain ⟨_, _, _, _, _, _, hb, _⟩ := h
  exact hb
theorem BSl.length {w : World} {v : Value} {l : List Nat} (h : BSl w v l) : l.length ≤ maxLen := by
  obtain ⟨_, cap, _, h1, h2, _⟩ := h
  omega
/-- bytes stay where blocks below stay -/
theorem BSl.stay {w w' : World} {v : Value} {l : List Nat} (h : BSl w v l) (hb : ∀ g, v.ownBlock = some g → w'.heap[g]? = w.heap[g]?) : BSl w' v l := by
  obtain ⟨a, cap, rfl, h1, h2, h3, h4, h5⟩ := h
  refine ⟨a, cap, rfl, h1, h2, h3, h4, fun hp => ?_⟩
  obtain ⟨b, off, rfl, hc⟩ := h5 hp
  refine ⟨b, off, rfl, fun i hi => ?_⟩
  rw [← hc i hi]
  exact World.cell?_of_block (hb b rfl)

/-- a frame as a value -/
def frV (k : Int) (a b c d : Nat) (v : Value) : Value := .agg #[.int .i64 k, .int .u32 (a : Int), .int .u32 (b : Int), .int .u32 (c : Int), .int .u32 (d : Int), v]

/-- 'append(s, x...)', s the call's own, x any bytes -/
theorem wpList_app {ops : Array Oper} {rest : List Oper} {o : Oper} {a : Act} {w : World} {Q : Exit → Act → World → Prop} (hgd : o.guard = none) (s x : Operand)
    (ho : o.op = .call { callee := .builtin .append, args := #[s, x], argTypes := #[22, 22] })
    (base : Nat) (v vx : Value) (l0 l : List Nat) (hs : a.eval s = v) (hx : a.eval x = vx) (hown : Own w base v l0) (hb : BSl w vx l) (hlen : l0.length + l.length ≤ 140737488355328) (hbase : base ≤ w.heap.size)
    (h : ∀ v' w', Own w' base v' (l0 ++ l) → Below base w w' → base ≤ w'.heap.size → (v' = .slice none 0 0 → v = .slice none 0 0) → wpList Tryd.prog ops Q rest (a.put o.dst v') w') : wpList Tryd.prog ops Q (o :: rest) a w := by
  obtain ⟨i0, hi, hz0, hz1, hz2⟩ := info_parts Tryd.info5
  have hb' := hb
  obtain ⟨ad, cap, rfl, hl, hm, hn, hbb, _⟩ := hb'
  cases ad with
  | none =>
    have hc : cap = 0 := hn rfl
    have hl0 : l = [] := List.eq_nil_of_length_eq_zero (by omega)
    subst hl0
    subst hc
    exact wpList_append_own_none hgd s x 22 ho base 5 i0 1 Tryd.underlying22 hi v l0.length _ hs hown.1 hx (h v w (by rw [List.append_nil]; exact hown) (Below.refl _ _) hbase id)
  | some ad =>
    refine wpList_append_own _ hgd s x 22 ho base 5 i0 (.int .u8 0) 1 1 Tryd.underlying22 hi hz0 hz1 hz2 rfl (by decide) v l0.length _ hs hown.1 ad l.length cap (l.map byteV) hx (by simp) hb.news (byteV_oneCell l) (by unfold maxLen; omega) (by omega) hbase ?_
    intro v' w1 hown' hg hiff
    refine h v' w1 ⟨by rw [List.length_append, List.map_append]; exact hown', fun y hy => (List.mem_append.1 hy).elim (hown.2 y) (hbb y)⟩ ((Below.refl _ _).grown hg hbase fun j hj => (hown.1.lt j hj).1) ?_ (fun hv => (hiff.1 hv).1)
    exact Nat.le_trans hbase ((Below.refl _ _).grown hg hbase fun j hj => (hown.1.lt j hj).1 : Below base w w1).size

theorem shr_u64 (x m : Nat) : (x : Int) / (2 ^ (8 * m) : Nat) = ((x / 256 ^ m : Nat) : Int) := by
  rw [Nat.pow_mul]; rfl
end Go.Proofs.YtcjilmafdpnfeaaDoor
