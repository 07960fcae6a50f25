import Derived.Test.YtcjilmafdpnfeaaDoorWFrm
import Derived.Lib.SmallJoins
namespace Go.Proofs.YtcjilmafdpnfeaaDoor
open Go.RowKit
open Num
set_option linter.unusedVariables false
set_option linter.unusedSimpArgs false

theorem Own.low {w : World} {b b' : Nat} {v : Value} {l : List Nat} (h : Own w b v l) (hb : b' ≤ b) : Own w b' v l := by
  refine ⟨⟨h.1.1, ?_⟩, h.2⟩
  rcases h.1.2 with h0 | ⟨g, cap, cur, rfl, h1, hg, r⟩
  · exact .inl h0
  · exact .inr ⟨g, cap, cur, rfl, Nat.le_trans hb h1, hg, r⟩
theorem BSl.twoF {w : World} (x y : Nat) (hx : x < 256) (hy : y < 256) (t : TypeId) (fz : Nat × Nat) : BSl (w.alloc (.cells #[.int .u8 (x : Int), .int .u8 (y : Int)] t fz)) (.slice (some ⟨w.heap.size, 0, none⟩) 2 2) [x, y] := by
  refine ⟨_, 2, rfl, Nat.le_refl _, by decide, by simp, by simpa using ⟨hx, hy⟩, fun _ => ⟨_, 0, rfl, fun i hi => ?_⟩⟩
  have hi : i < 2 := hi
  rw [cell_of_row _ _ _ _ _ _ (Go.heap_alloc_new w _)]
  obtain rfl | rfl : i = 0 ∨ i = 1 := by omega
  all_goals rfl
theorem conv_const (w : World) (C : Array Value) (n c g : Nat) (hg : g = w.heap.size) : (convert 22 22 (.slice (some ⟨g, 0, none⟩) n c)).run Tryd.prog (w.alloc (.cells C 5)) = .ok (.slice (some ⟨g, 0, none⟩) n c) (w.alloc (.cells C 5 (C.size, C.size + 1))) :=
  Joins.run_convert_bytes_const_at w 22 5 C n c g hg Tryd.underlying22 (by kernel_rfl)
/-- 'append(s, x...)', s full: it is copied -/
theorem wpList_full {ops : Array Oper} {rest : List Oper} {o : Oper} {a : Act} {w : World} {Q : Exit → Act → World → Prop} (hgd : o.guard = none) (s x : Operand)
    (ho : o.op = .call { callee := .builtin .append, args := #[s, x], argTypes := #[22, 22] })
    (b ad : Addr) (c : Nat) (l0 l : List Nat) (hs : a.eval s = .slice (some b) l0.length l0.length) (hx : a.eval x = .slice (some ad) l.length c) (hb0 : BSl w (.slice (some b) l0.length l0.length) l0) (hb : BSl w (.slice (some ad) l.length c) l) (hne : 0 < l.length) (hlen : l0.length + l.length ≤ 140737488355328)
    (h : ∀ v' w', Own w' w.heap.size v' (l0 ++ l) → Below w.heap.size w w' → w.heap.size ≤ w'.heap.size → wpList Tryd.prog ops Q rest (a.put o.dst v') w') : wpList Tryd.prog ops Q (o :: rest) a w := by
  obtain ⟨i0, hi, hz0, hz1, hz2⟩ := info_parts Tryd.info5
  have h63 : l0.length + l.length ≤ maxLen := by unfold maxLen; omega
  have hr := run_append_grow (P := Tryd.prog) w 22 o.type 5 i0 (.int .u8 0) Tryd.underlying22 hi hz0 b l0.length l0.length (l0.map byteV) (by rw [hz1]; simp) hb0.news ad l.length c (l.map byteV) (by rw [hz1]; simp) hb.news (by omega) (by omega) (by rw [hz2]; exact growslice_fits (by omega) (by omega))
  have hge := grownCap_ge w (l0.length + l.length) l0.length 5
  have hcm := grownCap_le_maxLen w (l0.length + l.length) l0.length 5 h63
  refine wpList_plain hgd fun K hK => ?_
  unfold Oper.wp execOp
  simp only [ho, resolve, invoke, builtin, Sem.run_bind, Sem.run_pure, Result.andThen_ok, List.map_toArray, List.map_cons, List.map_nil, hs, hx, hr]
  refine hK _ _ (h _ _ ⟨⟨by simp, .inr ⟨w.heap.size, _, _, by rw [List.length_append], Nat.le_refl _, heap_alloc_new w.drew _, by rw [List.length_append]; exact hge, hcm, ?_, ?_⟩⟩, fun y hy => (List.mem_append.1 hy).elim (hb0.bytes y) (hb.bytes y)⟩ ?_ (by simp))
  · simp only [Array.size_append, List.size_toArray, size_zeroCells, List.length_map, show (Value.int IntKind.u8 0).cells.size = 1 from rfl]
    omega
  · simp only [Array.toList_append, List.append_assoc]
    rw [← List.append_assoc, ← List.map_append, show (l0 ++ l).length * 1 = ((l0 ++ l).map byteV).length by simp]
    exact List.take_left
  · exact (Below.refl w.heap.size w).drew.alloc (Nat.le_refl _) _
/-- the box of a frame, kept -/
theorem box6 {w x : World} {v0 v1 v2 v3 v4 v5 : Value} {t : TypeId} (h : Below (w.heap.size + 1) (w.alloc (.cells #[v0, v1, v2, v3, v4, v5] t)) x) :
    x.cell? ⟨w.heap.size, 0, none⟩ = some v0 ∧ x.cell? ⟨w.heap.size, 1, none⟩ = some v1 ∧ x.cell? ⟨w.heap.size, 2, none⟩ = some v2 ∧ x.cell? ⟨w.heap.size, 3, none⟩ = some v3 ∧ x.cell? ⟨w.heap.size, 4, none⟩ = some v4 ∧ x.cell? ⟨w.heap.size, 5, none⟩ = some v5 := by
  have hr : x.heap[w.heap.size]? = some (.cells #[v0, v1, v2, v3, v4, v5] t (0, 0)) := by rw [h.block _ (by omega)]; exact Go.heap_alloc_new w _
  exact ⟨by rw [cell_of_row _ _ _ _ _ _ hr]; rfl, by rw [cell_of_row _ _ _ _ _ _ hr]; rfl, by rw [cell_of_row _ _ _ _ _ _ hr]; rfl, by rw [cell_of_row _ _ _ _ _ _ hr]; rfl, by rw [cell_of_row _ _ _ _ _ _ hr]; rfl, by rw [cell_of_row _ _ _ _ _ _ hr]; rfl⟩

theorem Tryd.info22 : (Tryd.prog.info? 24).map (fun i => (i.zero, i.size, i.bytes)) = some (some (.int .u32 0), 1, 4) := by kernel_rfl
end Go.Proofs.YtcjilmafdpnfeaaDoor
