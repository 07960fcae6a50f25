import Derived.Test.YtkjaaknlhmneoaaByt
import Derived.Test.YtkjaaknlhmneoaaMtRk
import Derived.Maps.AppendAt
namespace Go.Proofs.Ytkjaaknlhmneoaa
open Go.RowKit Go.Lib
open Num
set_option linter.unusedVariables false
set_option linter.unusedSimpArgs false
set_option maxRecDepth 20000

theorem BSl.one {w : World} (x : Nat) (hx : x < 256) (t : TypeId) : BSl (w.alloc (.cells #[.int .u8 (x : Int)] t)) (.slice (some ⟨w.heap.size, 0, none⟩) 1 1) [x] := by
  refine ⟨_, 1, rfl, Nat.le_refl _, by decide, by simp, by simpa using hx, fun _ => ⟨_, 0, rfl, fun i hi => ?_⟩⟩
  have : i = 0 := by simp at hi; exact hi
  subst this
  rw [cell_of_row _ _ _ _ _ _ (Go.heap_alloc_new w _)]
  rfl
/-- a row that grows: what else was stays -/
structure GR (w wr : World) (v0 v : Value) (L : List Nat) : Prop where
  own : Own wr 0 v L
  gr : w.grownBy wr v0.ownBlock
  at' : v.ownBlock = v0.ownBlock ∨ ∃ k, v.ownBlock = some k ∧ w.heap.size ≤ k
theorem GR.alloc {w wr : World} {v0 v : Value} {L : List Nat} (h : GR w wr v0 v L) (o : Obj) : GR w (wr.alloc o) v0 v L :=
  ⟨h.own.grown rfl, ⟨h.gr.os, h.gr.tape, h.gr.output, by have := h.gr.size; rw [World.size_alloc]; omega, fun k hk hne => (RowKit.Below.heap_alloc wr o _ (Nat.lt_of_lt_of_le hk h.gr.size)).trans (h.gr.block k hk hne)⟩, h.at'⟩
theorem GR.grow {w wr w' : World} {v0 v v' : Value} {L L' : List Nat} (h : GR w wr v0 v L) (ho : Own w' 0 v' L') (hg : wr.grownBy w' v.ownBlock) (ha : v'.ownBlock = v.ownBlock ∨ v'.ownBlock = some wr.heap.size) : GR w w' v0 v' L' := by
  have hs := h.gr.size
  refine ⟨ho, ⟨hg.os.trans h.gr.os, hg.tape.trans h.gr.tape, hg.output.trans h.gr.output, Nat.le_trans hs hg.size, fun k hk hne => (hg.block k (by omega) ?_).trans (h.gr.block k hk hne)⟩, ?_⟩
  · rcases h.at' with e | ⟨j, e, hj⟩
    · rw [e]; exact hne
    · rw [e]; intro e2; injection e2 with e2; omega
  · rcases ha with e | e
    · rw [e]; exact h.at'
    · exact .inr ⟨_, e, hs⟩
theorem wpList_app4 {ops : Array Oper} {rest : List Oper} {o : Oper} {a : Act} {w wr : World} {Q : Exit → Act → World → Prop} (hgd : o.guard = none) (s x : Operand)
    (ho : o.op = .call { callee := .builtin .append, args := #[s, x], argTypes := #[45, 45] })
    (v0 v vx : Value) (l0 : List Nat) (y : Nat) (hs : a.eval s = v) (hx : a.eval x = vx) (hown : GR w wr v0 v l0) (hb : BSl wr vx [y]) (hlen : l0.length + 1 ≤ 140737488355328)
    (h : ∀ v' w', GR w w' v0 v' (l0 ++ [y]) → wpList Try.prog ops Q rest (a.put o.dst v') w') : wpList Try.prog ops Q (o :: rest) a wr := by
  obtain ⟨i0, hi, hz0, hz1, hz2⟩ := info_parts Try.info5
  have hb' := hb
  obtain ⟨ad, cap, rfl, hl, hm, hn, hbb, hcc⟩ := hb'
  obtain ⟨b, off, rfl, hcell⟩ := hcc (by simp)
  refine wpList_append_own_at _ hgd s x 45 ho 0 5 i0 (.int .u8 0) 1 1 Try.underlying45 hi hz0 hz1 hz2 rfl (by decide) v l0.length _ hs hown.own.1 ⟨b, off, none⟩ 1 cap ([y].map byteV) hx (by simp) hb.news (byteV_oneCell _) (by unfold maxLen; omega) (by omega) (Nat.zero_le _) ?_
  intro v' w1 hown' hg hiff hat
  exact h v' w1 (hown.grow ⟨by rw [List.length_append, List.map_append]; exact hown', fun z hz => (List.mem_append.1 hz).elim (hown.own.2 z) (hbb z)⟩ hg hat)
set_option maxHeartbeats 4000000 in
theorem grown_any (w : World) (v : Value) (L : List Nat) (y : Nat) (hy : y < 256) (hL : L.length ≤ 100000) (h : Own w 0 v L) : Calls Try.prog 25 #[v, .int .u8 (y : Int)] w fun e w' => ∃ v', e = .returned v' ∧ GR w w' v v' (L ++ List.replicate 90 y) := by
  have HA : Hid (GR w w v v (L ++ List.replicate 0 y)) := hide (by
    rw [List.replicate_zero, List.append_nil]
    exact ⟨h, ⟨rfl, rfl, rfl, Nat.le_refl _, fun _ _ _ => rfl⟩, .inl rfl⟩)
  have HLL : Hid (∀ j, j < 90 → (L ++ List.replicate j y).length + 1 ≤ 140737488355328) := hide fun j hj => by rw [List.length_append, List.length_replicate]; omega
  have HLS : Hid (∀ j, (L ++ List.replicate j y) ++ [y] = L ++ List.replicate (j + 1) y) := hide fun j => by rw [List.append_assoc, ← List.replicate_succ']
  clear h hL
  go_enter Try.func25, Try.ntmps25
  go_wp2_with fail
  go_loopw [0, 5] (fun u i wr => ∃ j : Nat, j ≤ 90 ∧ i = .int .i64 j ∧ GR w wr v u (L ++ List.replicate j y)) (fun _ i _ => 90 - (intOf i).toNat)
  case atStart => exact ⟨0, Nat.zero_le _, rfl, HA.out⟩
  case round =>
    clear HA
    obtain ⟨j, hj, rfl, hd⟩ := hrel
    have HD := hide hd
    clear hd
    by_cases hlt : j < 90
    · have HB4 := hide (HLL.out j hlt)
      go_wp2_with (at_builtin; refine wpList_app4 rfl (.tmp 10) (.tmp 12) rfl v _ _ _ y rfl rfl (HD.out.alloc _) (BSl.one y hy _) HB4.out ?_; intro v' w' ha; have HA := hide ha; clear ha)
      go_roundw
      case rel =>
        refine ⟨j + 1, by omega, by go_num, ?_⟩
        rw [← HLS.out]
        exact HA.out
      case measure => simp [intOf]; omega
    · obtain rfl : j = 90 := by omega
      go_wp2_with fail
      go_ret
      exact ⟨_, rfl, HD.out⟩
end Go.Proofs.Ytkjaaknlhmneoaa
