import Derived.Test.YthkkinmegileaaaARef6
import Derived.Test.YthkkinmegileaaaABook3
namespace Go.Proofs.Ythkkinmegileaaa
open Go.RowKit Go.Sort
set_option linter.unusedVariables false
set_option linter.unusedSimpArgs false
set_option maxRecDepth 20000

theorem info_cell : (Try.prog.info? 74).map (fun i => (i.zero, i.size, i.bytes)) = some (some (.agg #[.bool false, .int .i64 0, .int .i64 0, .int .i64 0]), 4, 32) := by kernel_rfl
theorem rNew_no (w : World) (n : Int) (h : ¬ (1 ≤ n ∧ n ≤ 16)) : Calls Try.prog 6 #[.int .i64 n] w fun e w' => e = .returned (.tuple #[.pointer none, .int .i64 1]) ∧ w' = w := by
  go_enter Try.func6, Try.ntmps6
  by_cases h1 : 1 ≤ n
  · have h2 : 16 < n := by omega
    go_wp2_with fail
    go_ret2
    exact ⟨rfl, rfl⟩
  · go_wp2_with fail
    go_ret2
    exact ⟨rfl, rfl⟩
abbrev cz : RC := ⟨false, 0, 0, 0⟩
/-- what NewLru of the document has made of n slots -/
structure RNw (w wr : World) (cv : Value) (i : Nat) : Prop where
  row : wr.heap[w.heap.size]? = some (.cells #[cv, .int .i64 0] 72 (0, 0))
  ow : wr.ownsRow (w.heap.size + 1) 74 4 cv i (cflat (List.replicate i cz))
  be : Below w.heap.size w wr
theorem RNw.step {w wr w4 : World} {v v' : Value} {i : Nat} {o : Obj} (h : RNw w wr v i) (q1 : w4.ownsRow (w.heap.size + 1) 74 4 v' (i + 1) (cflat (List.replicate i cz) ++ [.bool false, .int .i64 0, .int .i64 0, .int .i64 0])) (q2 : (wr.alloc o).grownBy w4 v.ownBlock) :
    w4.cell? ⟨w.heap.size, 0, none⟩ = some v ∧ w4.frozen? ⟨w.heap.size, 0, none⟩ = false ∧ RNw w (w4.setCell ⟨w.heap.size, 0, none⟩ v') v' (i + 1) := by
  have hlt := (Array.getElem?_eq_some_iff.1 h.row).1
  have hne : some w.heap.size ≠ v.ownBlock := fun e => by have := (h.ow.lt _ e.symm).1; omega
  have hrow : w4.heap[w.heap.size]? = some (.cells #[v, .int .i64 0] 72 (0, 0)) := by
    rw [q2.block _ (by rw [World.size_alloc]; omega) hne, Below.heap_alloc _ _ _ hlt]; exact h.row
  refine ⟨cell_of_row _ _ _ _ _ _ hrow, frozen_of_row _ _ _ _ 72 hrow, ⟨Go.heap_setCell_same w4 _ 0 _ 72 _ hrow, ?_, ?_⟩⟩
  · have e : cflat (List.replicate (i + 1) cz) = cflat (List.replicate i cz) ++ [.bool false, .int .i64 0, .int .i64 0, .int .i64 0] := by
      rw [List.replicate_succ', cflat, List.flatMap_append]; rfl
    rw [e]
    refine rowKept q1 fun g e => Go.heap_setCell_other _ _ _ _ ?_
    have := (q1.lt g e).1
    show g ≠ w.heap.size
    omega
  · have hs := h.be.size
    refine ⟨q2.os.trans h.be.os, q2.tape.trans h.be.tape, q2.output.trans h.be.output, by have := q2.size; rw [World.size_alloc] at this; rw [World.size_setCell]; omega, fun k hk => ?_⟩
    have hne : some k ≠ v.ownBlock := fun e => by have := (h.ow.lt _ e.symm).1; omega
    rw [Go.heap_setCell_other _ _ _ _ (show k ≠ w.heap.size by omega), q2.block k (by rw [World.size_alloc]; omega) hne, Below.heap_alloc _ _ k (by omega)]
    exact h.be.block k hk
theorem RNw.fin {w wr : World} {cv : Value} {n : Nat} (h : RNw w wr cv n) : RLR wr w.heap.size cv (List.replicate n cz) 0 ∧ ∀ b, RU w.heap.size cv b → w.heap.size ≤ b := by
  refine ⟨⟨h.row, ?_⟩, ?_⟩
  · rw [List.length_replicate]
    refine ⟨h.ow.1, ?_⟩
    rcases h.ow.2 with q | ⟨g, c, cur, e, q1, r⟩
    · exact .inl q
    · exact .inr ⟨g, c, cur, e, Nat.zero_le _, r⟩
  · rintro b (rfl | e)
    · exact Nat.le_refl _
    · have := (h.ow.lt b e).1; omega
set_option maxHeartbeats 1000000 in
theorem rNew_any (w : World) (n : Nat) (h1 : 1 ≤ n) (h2 : n ≤ 16) :
    Calls Try.prog 6 #[.int .i64 (n : Int)] w fun e w' => ∃ cv, e = .returned (.tuple #[.pointer (some ⟨w.heap.size, 0, none⟩), .int .i64 0]) ∧ Below w.heap.size w w' ∧ RLR w' w.heap.size cv (List.replicate n cz) 0 ∧ ∀ b, RU w.heap.size cv b → w.heap.size ≤ b := by
  obtain ⟨i0, hi, hz0, hz1, hz2⟩ := info_parts info_cell
  have HT0 : Hid (RNw w (w.alloc (.cells #[.slice none 0 0, .int .i64 0] 72)) (.slice none 0 0) 0) := hide ⟨Go.heap_alloc_new _ _, ⟨rfl, .inl ⟨rfl, rfl⟩⟩, (Below.refl _ _).alloc (Nat.le_refl _) _⟩
  go_enter Try.func6, Try.ntmps6
  go_wp2_with fail
  go_loopw [5] (fun x wr => ∃ (i : Nat) (cv : Value), i ≤ n ∧ x = .int .i64 (i : Int) ∧ RNw w wr cv i) (fun x _ => n - (intOf x).toNat)
  case atStart => exact ⟨0, _, Nat.zero_le _, rfl, HT0.out⟩
  case round =>
    clear HT0
    obtain ⟨i, cv, hin, rfl, hr⟩ := hrel
    have HR := hide hr
    have c0 : wr.cell? ⟨w.heap.size, 0, none⟩ = some cv := cell_of_row _ _ _ _ _ _ hr.row
    have hbs := hr.be.size
    have hlt0 := (Array.getElem?_eq_some_iff.1 hr.row).1
    obtain ⟨al, cl, rfl, hl1, hl2⟩ := rowForm hr.ow
    unfold maxLen at hl2
    clear hr
    by_cases hlt : i < n
    · have o3 := HR.out.ow.alloc (.cells #[.bool false, .int .i64 0, .int .i64 0, .int .i64 0] 74)
      have hbs2 : w.heap.size + 1 ≤ (wr.alloc (.cells #[.bool false, .int .i64 0, .int .i64 0, .int .i64 0] 74)).heap.size := by rw [World.size_alloc]; omega
      have HPOST : Hid (∀ v' w4, w4.ownsRow (w.heap.size + 1) 74 4 v' (i + 1) (cflat (List.replicate i cz) ++ [.bool false, .int .i64 0, .int .i64 0, .int .i64 0]) → (wr.alloc (.cells #[.bool false, .int .i64 0, .int .i64 0, .int .i64 0] 74)).grownBy w4 (Value.slice al i cl).ownBlock → w4.cell? ⟨w.heap.size, 0, none⟩ = some (.slice al i cl) ∧ w4.frozen? ⟨w.heap.size, 0, none⟩ = false ∧ RNw w (w4.setCell ⟨w.heap.size, 0, none⟩ v') v' (i + 1)) := hide fun v' w4 q1 q2 => HR.out.step q1 q2
      generalize cflat (List.replicate i cz) = xs at *
      clear HR
      go_wp2_with (at_builtin; refine wpList_append_own_wide _ rfl (.tmp 23) (.tmp 25) 70 rfl (w.heap.size + 1) 74 i0 (.agg #[.bool false, .int .i64 0, .int .i64 0, .int .i64 0]) 4 32 Try.underlying70 hi hz0 hz1 hz2 rfl (by decide) _ _ _ rfl o3 ⟨wr.heap.size, 0, none⟩ 1 1 [.bool false, .int .i64 0, .int .i64 0, .int .i64 0] rfl rfl (cells_new4 _ _ _ _ _ _) (by simp [Value.oneCell']) (by unfold maxLen; omega) (by omega) hbs2 ?_)
      intro v' w4 q1 q2 q3
      obtain ⟨p1, p2, p3⟩ := HPOST.out v' w4 q1 q2
      obtain ⟨a', c', rfl, -, -⟩ := rowForm q1
      have HN := hide p3
      clear q1 q2 q3 HPOST o3 p3 c0 hbs hlt0 hbs2
      go_wp2_with fail
      go_roundw
      case rel => exact ⟨i + 1, _, by omega, by go_num, HN.out⟩
      case measure => simp [intOf]; omega
    · have ei : i = n := by omega
      subst ei
      go_wp2_with fail
      go_ret2
      exact ⟨_, rfl, HR.out.be, HR.out.fin⟩
end Go.Proofs.Ythkkinmegileaaa
