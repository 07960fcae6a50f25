import Derived.Test.YtafjldmfghokaabAGd
namespace Go.Proofs.Ytafjldmfghokaab
open Go.RowKit Go.Sort
open Num
set_option linter.unusedVariables false
set_option linter.unusedSimpArgs false
set_option maxRecDepth 20000

set_option maxHeartbeats 1000000 in
theorem sameInts_any {w : World} {u v : Value} {l : List Int} (hu : w.ownsRow 0 3 1 u l.length (l.map iV)) (hv : w.ownsRow 0 3 1 v l.length (l.map iV)) : Calls Try.prog 22 #[u, v] w fun e w' => e = .returned (.bool true) ∧ ∃ m, w' = w.drewN m := by
  obtain ⟨a1, c1, rfl, b1, b2⟩ := rowForm hu
  obtain ⟨a2, c2, rfl, b3, b4⟩ := rowForm hv
  unfold maxLen at b2 b4
  have one : ∀ (a : Option Addr) (c : Nat), w.ownsRow 0 3 1 (.slice a l.length c) l.length (l.map iV) → ∀ j, j < l.length → ∃ g, a = some ⟨g, 0, none⟩ ∧ w.cell? ⟨g, j, none⟩ = some (.int .i64 (l.getD j 0)) := fun a c h j hj => by
    have h' : w.ownsRow 0 3 1 (.slice a l.length c) (l.map iV).length (l.map iV) := by rw [List.length_map]; exact h
    obtain ⟨g, cap, e, hc⟩ := rowCell h' (j := j) (x := iV (l.getD j 0)) (by rw [List.getElem?_map, List.getElem?_eq_getElem hj]; simp [List.getD, hj])
    simp only [Value.slice.injEq] at e
    exact ⟨g, e.1, hc⟩
  have HC : Hid (∀ j, j < l.length → ∃ g g', a1 = some ⟨g, 0, none⟩ ∧ a2 = some ⟨g', 0, none⟩ ∧ w.cell? ⟨g, j, none⟩ = some (.int .i64 (l.getD j 0)) ∧ w.cell? ⟨g', j, none⟩ = some (.int .i64 (l.getD j 0))) := hide fun j hj => by
    obtain ⟨g, e, hc⟩ := one _ _ hu j hj
    obtain ⟨g', e', hc'⟩ := one _ _ hv j hj
    exact ⟨g, g', e, e', hc, hc'⟩
  clear hu hv one
  generalize l.length = n at *
  go_enter Try.func22, Try.ntmps22
  go_wp2_with fail
  go_loopw [5] (fun x wr => ∃ j : Nat, j ≤ n ∧ x = .int .i64 (j : Int) ∧ (∃ m, wr = w.drewN m)) (fun x _ => n - (intOf x).toNat)
  case atStart => exact ⟨0, Nat.zero_le _, rfl, ⟨0, rfl⟩⟩
  case round =>
    obtain ⟨j, hj, rfl, ⟨m0, rfl⟩⟩ := hrel
    by_cases hlt : j < n
    · obtain ⟨g, g', rfl, rfl, d1, d2⟩ := HC.out j hlt
      clear HC
      generalize l.getD j 0 = x at *
      have hne : ((x : Int) != (x : Int)) = false := by simp
      go_wp2_with fail
      go_quiet (fail)
      go_wp2_with fail
      go_roundw
      case rel => exact ⟨j + 1, by omega, by go_num, ⟨_, rfl⟩⟩
      case measure => simp [intOf]; omega
    · go_wp2_with fail
      go_ret
      exact ⟨rfl, _, rfl⟩
set_option maxHeartbeats 1000000 in
theorem sameBytes_any {w : World} {u v : Value} {l : List Nat} (hu : BSl w u l) (hv : BSl w v l) : Calls Try.prog 60 #[u, v] w fun e w' => e = .returned (.bool true) ∧ ∃ m, w' = w.drewN m := by
  obtain ⟨a1, c1, rfl, b1, b2, -, hb, hc1⟩ := hu
  obtain ⟨a2, c2, rfl, b3, b4, -, -, hc2⟩ := hv
  unfold maxLen at b2 b4
  have HC : Hid (∀ j, j < l.length → ∃ g o g' o', a1 = some ⟨g, o, none⟩ ∧ a2 = some ⟨g', o', none⟩ ∧ w.cell? ⟨g, o + j, none⟩ = some (.int .u8 ((l.getD j 0 : Nat) : Int)) ∧ w.cell? ⟨g', o' + j, none⟩ = some (.int .u8 ((l.getD j 0 : Nat) : Int))) := hide fun j hj => by
    obtain ⟨g, o, e, hc⟩ := hc1 (by omega)
    obtain ⟨g', o', e', hc'⟩ := hc2 (by omega)
    exact ⟨g, o, g', o', e, e', hc j hj, hc' j hj⟩
  clear hc1 hc2 hb
  generalize l.length = n at *
  go_enter Try.func60, Try.ntmps60
  go_wp2_with fail
  go_loopw [5] (fun x wr => ∃ j : Nat, j ≤ n ∧ x = .int .i64 (j : Int) ∧ (∃ m, wr = w.drewN m)) (fun x _ => n - (intOf x).toNat)
  case atStart => exact ⟨0, Nat.zero_le _, rfl, ⟨0, rfl⟩⟩
  case round =>
    obtain ⟨j, hj, rfl, ⟨m0, rfl⟩⟩ := hrel
    by_cases hlt : j < n
    · obtain ⟨g, o, g', o', rfl, rfl, d1, d2⟩ := HC.out j hlt
      clear HC
      generalize l.getD j 0 = x at *
      have hne : (((x : Nat) : Int) != ((x : Nat) : Int)) = false := by simp
      go_wp2_with fail
      go_quiet (fail)
      go_wp2_with fail
      go_roundw
      case rel => exact ⟨j + 1, by omega, by go_num, ⟨_, rfl⟩⟩
      case measure => simp [intOf]; omega
    · go_wp2_with fail
      go_ret
      exact ⟨rfl, _, rfl⟩
set_option maxHeartbeats 1000000 in
theorem sameChange_any (w : World) (a b c : Int) : Calls Try.prog 89 #[.agg #[.int .i64 a, .int .i64 b, .int .i64 c], .agg #[.int .i64 a, .int .i64 b, .int .i64 c]] w fun e w' => e = .returned (.bool true) ∧ Below w.heap.size w w' := by
  have HB : Hid (Below w.heap.size w ((w.alloc (.cells #[.int .i64 a, .int .i64 b, .int .i64 c] 38)).alloc (.cells #[.int .i64 a, .int .i64 b, .int .i64 c] 38))) := hide (((Below.refl _ _).alloc (Nat.le_refl _) _).alloc (by simp) _)
  go_enter Try.func89, Try.ntmps89
  go_wp2_with fail
  go_ret
  exact ⟨by simp, HB.out⟩
/-- a list that is being written over -/
def Wo (w wr : World) (v : Value) (t : TypeId) (k : IntKind) (n : Nat) : Prop := (∃ xs : List Value, (∀ x ∈ xs, ∃ z, x = .int k z) ∧ wr.ownsRow 0 t 1 v n xs) ∧ Chg (fun b => v.ownBlock = some b) w wr
theorem Wo.cell {w wr : World} {v : Value} {t : TypeId} {k : IntKind} {n j : Nat} (h : Wo w wr v t k n) (hj : j < n) : ∃ g cap z, v = .slice (some ⟨g, 0, none⟩) n cap ∧ n ≤ cap ∧ cap ≤ maxLen ∧ wr.cell? ⟨g, j, none⟩ = some (.int k z) ∧ wr.frozen? ⟨g, j, none⟩ = false ∧ ∀ y : Int, Wo w (wr.setCell ⟨g, j, none⟩ (.int k y)) v t k n := by
  obtain ⟨⟨xs, h1, ho⟩, hc⟩ := h
  have hl : xs.length = n := by have := ho.1; omega
  obtain ⟨a, cp, ev, q1, q2⟩ := rowForm ho
  have hx : xs[j]? = some xs[j] := List.getElem?_eq_getElem (by omega)
  have ho' : wr.ownsRow 0 t 1 v xs.length xs := by rw [hl]; exact ho
  obtain ⟨g, cap, e, hcell⟩ := rowCell ho' hx
  rw [hl] at e
  subst e
  simp only [Value.slice.injEq] at ev
  obtain ⟨-, -, rfl⟩ := ev
  obtain ⟨cs, hcs⟩ := rowCells ho (g := g) rfl
  obtain ⟨z, hz⟩ := h1 _ (List.mem_of_getElem? hx)
  rw [hz] at hcell
  refine ⟨g, cap, z, rfl, q1, q2, hcell, frozen_of_row _ _ _ _ t hcs, fun y => ⟨⟨xs.set j (.int k y), fun x hx => ?_, row_set ho hj⟩, hc.trans ⟨rfl, rfl, rfl, by rw [World.size_setCell]; exact Nat.le_refl _, fun b _ hn => Go.heap_setCell_other _ _ _ _ ?_⟩⟩⟩
  · rcases List.mem_or_eq_of_mem_set hx with e | e
    · exact h1 x e
    · exact ⟨y, e⟩
  · intro e
    exact hn (by rw [e]; rfl)
theorem Wo.post {w wr : World} {a : Option Addr} {t : TypeId} {k : IntKind} {n cap : Nat} {xs : List Value} {mark : Int} {o : Obj} (hx1 : ∀ x ∈ xs, ∃ z, x = .int k z) (hc : Chg (fun b => (Value.slice a n cap).ownBlock = some b) w wr) (v' : Value) (w4 : World) (y1 : w4.ownsRow 0 t 1 v' (n + 1) (xs ++ [.int k mark])) (y2 : Upon (wr.alloc o) w4 (.slice a n cap) v') :
    ∃ g cap' z, v' = .slice (some ⟨g, 0, none⟩) (n + 1) cap' ∧ n + 1 ≤ cap' ∧ cap' ≤ maxLen ∧ w4.cell? ⟨g, n, none⟩ = some (.int k z) ∧ w4.frozen? ⟨g, n, none⟩ = false ∧ ∀ y : Value, Chg (fun b => (Value.slice a n cap).ownBlock = some b) w (w4.setCell ⟨g, n, none⟩ y) := by
  have hW : Wo w4 w4 v' t k (n + 1) := ⟨⟨_, fun x hx => by
    rcases List.mem_append.1 hx with e | e
    · exact hx1 x e
    · simp only [List.mem_singleton] at e; exact ⟨_, e⟩, y1⟩, Chg.refl _ _⟩
  obtain ⟨g, cap', z, e, q1, q2, d1, d2, -⟩ := hW.cell (j := n) (by omega)
  refine ⟨g, cap', z, e, q1, q2, d1, d2, fun y => ?_⟩
  have hu := y2.chg (U := fun b => (Value.slice a n cap).ownBlock = some b) hc fun b e => .inl e
  have hs2 := hc.size
  refine ⟨hu.os, hu.tape, hu.output, by rw [World.size_setCell]; exact hu.size, fun b hb hn => ?_⟩
  have hne : b ≠ g := fun e2 => by
    rcases y2.loc g (by rw [e]; rfl) with e1 | e1
    · exact hn (by rw [e2]; exact e1)
    · rw [World.size_alloc] at e1; omega
  rw [Go.heap_setCell_other _ _ _ _ hne]
  exact hu.keep b hb hn
set_option maxHeartbeats 2000000 in
theorem spoilInts_any {w : World} {v : Value} {n : Nat} (mark : Int) (hm : -9000000000000000000 ≤ mark ∧ mark ≤ 9000000000000000000) (h : Wo w w v 3 .i64 n) (hl : n ≤ 5000) : Calls Try.prog 111 #[v, .int .i64 mark] w fun e w' => e = .returned (.tuple #[]) ∧ Chg (fun b => v.ownBlock = some b) w w' := by
  obtain ⟨i0, hi, hz0, hz1, hz2⟩ := info_parts info_int
  have HW := hide h
  obtain ⟨⟨xs0, -, ho0⟩, -⟩ := h
  obtain ⟨a, cap, ev, b1, b2⟩ := rowForm ho0
  subst ev
  unfold maxLen at b2
  clear ho0
  obtain ⟨hm1, hm2⟩ := hm
  go_enter Try.func111, Try.ntmps111
  go_wp2_with fail
  go_loopw [4] (fun x wr => ∃ j : Nat, j ≤ n ∧ x = .int .i64 (j : Int) ∧ Wo w wr (.slice a n cap) 3 .i64 n) (fun x _ => n - (intOf x).toNat)
  case atStart => exact ⟨0, Nat.zero_le _, rfl, HW.out⟩
  case round =>
    clear HW
    obtain ⟨j, hj, rfl, hr⟩ := hrel
    by_cases hlt : j < n
    · obtain ⟨g, cap', x, e, -, -, d1, d2, hst⟩ := hr.cell hlt
      simp only [Value.slice.injEq] at e
      obtain ⟨rfl, -, rfl⟩ := e
      have HS := hide hst
      clear hr hst
      go_wp2_with fail
      go_roundw
      case rel => exact ⟨j + 1, by omega, by go_num, HS.out _⟩
      case measure => simp [intOf]; omega
    · obtain ⟨⟨xs, hx1, ho⟩, hc⟩ := hr
      have o3 := ho.alloc (.cells #[.int .i64 mark] 3)
      have HPOST := hide fun v' w4 y1 y2 => Wo.post (t := 3) (mark := mark) (o := .cells #[.int .i64 mark] 3) hx1 hc v' w4 y1 y2
      clear ho hc hx1
      go_wp2_with (at_builtin; refine wpList_append1 _ rfl (.tmp 17) (.tmp 19) 46 rfl 3 i0 (.int .i64 0) 8 Try.underlying46 hi hz0 hz1 hz2 rfl _ _ _ rfl o3 ⟨wr.heap.size, 0, none⟩ 1 (.int .i64 mark) rfl (cell_one_new _ _ _) rfl (by unfold maxLen; omega) (by omega) ?_)
      intro v' w4 q1 q2
      obtain ⟨g, cap', x, rfl, q3, q4, d1, d2, hst⟩ := HPOST.out v' w4 q1 (by unfold Upon; rw [World.size_alloc]; exact q2)
      unfold maxLen at q4
      have HS := hide hst
      clear q1 q2 HPOST o3 hst
      go_wp2_with fail
      go_end0
      exact ⟨rfl, HS.out _⟩
set_option maxHeartbeats 2000000 in
theorem spoilBytes_any {w : World} {v : Value} {n : Nat} (mark : Int) (hm : -9000000000000000000 ≤ mark ∧ mark ≤ 9000000000000000000) (h : Wo w w v 5 .u8 n) (hl : n ≤ 5000) : Calls Try.prog 90 #[v, .int .i64 mark] w fun e w' => e = .returned (.tuple #[]) ∧ Chg (fun b => v.ownBlock = some b) w w' := by
  obtain ⟨i0, hi, hz0, hz1, hz2⟩ := info_parts info_u8
  have HW := hide h
  obtain ⟨⟨xs0, -, ho0⟩, -⟩ := h
  obtain ⟨a, cap, ev, b1, b2⟩ := rowForm ho0
  subst ev
  unfold maxLen at b2
  clear ho0
  obtain ⟨hm1, hm2⟩ := hm
  go_enter Try.func90, Try.ntmps90
  go_wp2_with fail
  go_loopw [4] (fun x wr => ∃ j : Nat, j ≤ n ∧ x = .int .i64 (j : Int) ∧ Wo w wr (.slice a n cap) 5 .u8 n) (fun x _ => n - (intOf x).toNat)
  case atStart => exact ⟨0, Nat.zero_le _, rfl, HW.out⟩
  case round =>
    clear HW
    obtain ⟨j, hj, rfl, hr⟩ := hrel
    by_cases hlt : j < n
    · obtain ⟨g, cap', x, e, -, -, d1, d2, hst⟩ := hr.cell hlt
      simp only [Value.slice.injEq] at e
      obtain ⟨rfl, -, rfl⟩ := e
      have HS := hide hst
      clear hr hst
      go_wp2_with fail
      go_roundw
      case rel => exact ⟨j + 1, by omega, by go_num, HS.out _⟩
      case measure => simp [intOf]; omega
    · obtain ⟨⟨xs, hx1, ho⟩, hc⟩ := hr
      have o3 := ho.alloc (.cells #[.int .u8 (IntKind.u8.wrap mark)] 5)
      have HPOST := hide fun v' w4 y1 y2 => Wo.post (t := 5) (mark := (IntKind.u8.wrap mark)) (o := .cells #[.int .u8 (IntKind.u8.wrap mark)] 5) hx1 hc v' w4 y1 y2
      clear ho hc hx1
      go_wp2_with (at_builtin; refine wpList_append1 _ rfl (.tmp 23) (.tmp 26) 39 rfl 5 i0 (.int .u8 0) 1 Try.underlying39 hi hz0 hz1 hz2 rfl _ _ _ rfl o3 ⟨wr.heap.size, 0, none⟩ 1 (.int .u8 (IntKind.u8.wrap mark)) rfl (cell_one_new _ _ _) rfl (by unfold maxLen; omega) (by omega) ?_)
      intro v' w4 q1 q2
      obtain ⟨g, cap', x, rfl, q3, q4, d1, d2, hst⟩ := HPOST.out v' w4 q1 (by unfold Upon; rw [World.size_alloc]; exact q2)
      unfold maxLen at q4
      have HS := hide hst
      clear q1 q2 HPOST o3 hst
      go_wp2_with fail
      go_end0
      exact ⟨rfl, HS.out _⟩
end Go.Proofs.Ytafjldmfghokaab
