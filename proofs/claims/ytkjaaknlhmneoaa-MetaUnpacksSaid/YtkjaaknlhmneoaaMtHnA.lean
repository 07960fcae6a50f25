import Derived.Test.YtkjaaknlhmneoaaMtSaA
import Derived.Test.YtkjaaknlhmneoaaMtGrA
import Derived.Deep.DeepHandedRow
import Derived.Laws.CopyOwn
namespace Go.Proofs.Ytkjaaknlhmneoaa
open Go.RowKit Go.Lib
open Num
set_option linter.unusedVariables false
set_option linter.unusedSimpArgs false
set_option maxRecDepth 20000

abbrev sl (g n : Nat) : Value := .slice (some ⟨g, 0, none⟩) n n
def PieceAt (w : World) (g : Nat) (l : List Nat) : Prop := w.heap[g]? = some (.cells (l.map byteV).toArray 5 (0, 0)) ∧ (∀ b ∈ l, b < 256) ∧ l.length ≤ maxLen ∧ 0 < l.length
theorem PieceAt.below {w w' : World} {g : Nat} {l : List Nat} (h : PieceAt w g l) (hb : Below w.heap.size w w') : PieceAt w' g l := ⟨(hb.block g (Array.getElem?_eq_some_iff.1 h.1).1).trans h.1, h.2⟩
theorem size_u8h : (Try.prog.info? 5).map (·.size) = some 1 := by kernel_rfl
theorem getD_get {α : Type} {l : List α} {i : Nat} (d : α) (h : i < l.length) : l[i]? = some (l.getD i d) := by simp [List.getD, h]
def zeros (n : Nat) : List Nat := List.replicate n 0
theorem zeros_len (n : Nat) : (zeros n).length = n := by simp [zeros]
theorem zeros_lt (n : Nat) : ∀ b ∈ zeros n, b < 256 := by
  intro b hb
  have := List.eq_of_mem_replicate hb
  omega
theorem made_zeros (n : Nat) : madeCells (Value.int .u8 0).cells (n * 1) = ((zeros n).map byteV).toArray := by
  apply Array.ext_getElem?
  intro i
  by_cases h : i < n
  · simp [madeCells, zeros, byteV, Value.cells, h, Nat.mod_one]
  · simp [madeCells, zeros, byteV, Value.cells, h, Nat.mod_one]

/-- 'make([]byte, n)' -/
theorem wpList_zeros {ops : Array Oper} {rest : List Oper} {o : Oper} {a : Act} {w : World} {Q : Exit → Act → World → Prop} (hgd : o.guard = none) (l c : Operand) (ho : o.op = Op.makeSlice 45 l c)
    (C : Int) (n : Nat) (hl : a.eval l = .int .i64 C) (hc : a.eval c = .int .i64 C) (hC : C = (n : Int)) (hn : n ≤ 281474976710656) (Z : Array Value) (hZ : Hid (((zeros n).map byteV).toArray = Z))
    (h : wpList Try.prog ops Q rest (a.put o.dst (sl w.heap.size n)) (w.alloc (.cells Z 5))) : wpList Try.prog ops Q (o :: rest) a w := by
  obtain ⟨i0, hi, hz0, hz1, hz2⟩ := info_parts Try.info5
  subst hC
  refine wpList_plain hgd fun K' hK' => ?_
  have hr := run_make (P := Try.prog) w 45 5 i0 (.int .u8 0) Try.underlying45 hi hz0 .i64 .i64 (n : Int) (n : Int) (by omega) (Int.le_refl _) (by rw [hz2]; omega) (by omega)
  simp only [Int.toNat_natCast] at hr
  rw [hz1, made_zeros, hZ.out] at hr
  unfold Oper.wp
  simp only [execOp, ho, hl, hc, hr, Sem.run_bind, Result.andThen_ok, Sem.run_pure]
  exact hK' _ _ h

theorem copyStep {t : List Nat} {sz i : Nat} (hi : i < sz) (ht : i < t.length) : (((t.take i ++ zeros (sz - i)).map byteV).toArray).setIfInBounds i (.int .u8 (t.getD i 0 : Nat)) = ((t.take (i + 1) ++ zeros (sz - (i + 1))).map byteV).toArray := by
  have e1 : sz - i = (sz - (i + 1)) + 1 := by omega
  have e2 : zeros (sz - i) = 0 :: zeros (sz - (i + 1)) := by rw [e1]; rfl
  have e3 : t.take (i + 1) = t.take i ++ [t.getD i 0] := by rw [List.take_add_one, getD_get 0 ht]; rfl
  rw [e2, e3]
  simp only [List.map_append, List.map_cons, List.map_nil, List.setIfInBounds_toArray]
  congr 1
  have hl : ((t.take i).map byteV).length = i := by simp; omega
  rw [List.set_append_right _ _ (by omega), hl, Nat.sub_self, List.set_cons_zero, List.append_assoc]
  rfl
def marks : List Nat := [200, 201, 202, 203, 204, 205]
theorem marks_at {i : Nat} (h : i < 6) : marks.getD i 0 = 200 + i := by
  match i, h with
  | 0, _ => rfl
  | 1, _ => rfl
  | 2, _ => rfl
  | 3, _ => rfl
  | 4, _ => rfl
  | 5, _ => rfl
/-- what is handed in, with marks behind it, while they are laid -/
structure HInv (w wr : World) (l : List Nat) (i : Nat) : Prop where
  hi : i ≤ 6
  be : Below w.heap.size w wr
  row : wr.heap[w.heap.size]? = some (.cells ((l ++ (marks.take i ++ zeros (6 - i))).map byteV).toArray 5 (0, 0))
theorem handStep (l : List Nat) {i : Nat} (h : i < 6) : (((l ++ (marks.take i ++ zeros (6 - i))).map byteV).toArray).setIfInBounds (l.length + i) (.int .u8 ((200 + i : Nat) : Int)) = ((l ++ (marks.take (i + 1) ++ zeros (6 - (i + 1)))).map byteV).toArray := by
  have e := copyStep (t := marks) (sz := 6) (i := i) h h
  rw [marks_at h] at e
  have e2 : ((marks.take i ++ zeros (6 - i)).map byteV).set i (.int .u8 ((200 + i : Nat) : Int)) = (marks.take (i + 1) ++ zeros (6 - (i + 1))).map byteV := by
    have := congrArg Array.toList e
    simpa using this
  rw [show (l ++ (marks.take i ++ zeros (6 - i))).map byteV = l.map byteV ++ (marks.take i ++ zeros (6 - i)).map byteV from List.map_append, show (l ++ (marks.take (i + 1) ++ zeros (6 - (i + 1)))).map byteV = l.map byteV ++ (marks.take (i + 1) ++ zeros (6 - (i + 1))).map byteV from List.map_append, ← e2]
  simp only [List.setIfInBounds_toArray]
  congr 1
  have hl : (l.map byteV).length = l.length := by simp
  rw [List.set_append_right _ _ (by omega), hl, Nat.add_sub_cancel_left]
theorem wrapU8 {i : Nat} (h : i < 6) : IntKind.u8.wrap (200 + (i : Int)) = ((200 + i : Nat) : Int) := by
  simp [IntKind.wrap, IntKind.bits, IntKind.signed]; omega

theorem run_copy_zero (g n c : Nat) (a : Option Addr) (w : World) : (Builtin.copy_ #[45, 45] 3 #[sl g n, .slice a 0 c]).run Try.prog w = .ok (.int .i64 0) w := by
  obtain ⟨i0, hi, hz0, hz1, hz2⟩ := info_parts Try.info5
  cases a <;> simp [Builtin.copy_, run_underlying Try.underlying45, Builtin.lenOf, Builtin.firstCells, sizeOf, typeInfo, hi, hz1, loadCells, loadCellsFrom, storeCells, goInt]

set_option maxHeartbeats 1000000 in
theorem hand_any (w : World) (v : Value) (l : List Nat) (hv : BSl w v l) (hl : l.length ≤ 140737488355328) :
    Calls Try.prog 48 #[v] w fun e w' => e = .returned (sl w.heap.size (l.length + 6)) ∧ PieceAt w' w.heap.size (l ++ marks) ∧ Below w.heap.size w w' := by
  have HV := hide hv
  obtain ⟨Z, hZ⟩ : ∃ Z, ((zeros (l.length + 6)).map byteV).toArray = Z := ⟨_, rfl⟩
  have HZ := hide hZ
  obtain ⟨a, cap, rfl, h1, h2, h3, h4, h5⟩ := hv
  unfold maxLen at h2
  have hfin : ∀ wr, HInv w wr l 6 → PieceAt wr w.heap.size (l ++ marks) := fun wr h => by
    refine ⟨?_, fun b hb => ?_, by simp [marks]; unfold maxLen; omega, by simp [marks]⟩
    · have := h.row
      simpa [marks, zeros] using this
    · rcases List.mem_append.1 hb with h | h
      · exact h4 b h
      · simp [marks] at h
        omega
  have HFIN := hide hfin
  clear hfin
  have hbz := (Below.refl w.heap.size w).alloc (Nat.le_refl _) (.cells Z 5)
  have hzsz : Z.size = l.length + 6 := by rw [← hZ]; simp [zeros]
  have hEND : ∀ wr : World, wr.heap[w.heap.size]? = some (.cells ((l ++ zeros 6).map byteV).toArray 5 (0, 0)) → Below w.heap.size w wr → HInv w wr l 0 := fun wr hr hb => ⟨Nat.zero_le _, hb, by simpa using hr⟩
  have HEND := hide hEND
  clear hEND
  by_cases h0 : l.length = 0
  · have el : l = [] := List.eq_nil_of_length_eq_zero h0
    subst el
    have START : Hid (HInv w (w.alloc (.cells Z 5)) [] 0) := hide (HEND.out _ (by
      have e : ((([] : List Nat) ++ zeros 6).map byteV).toArray = Z := by rw [← hZ]; rfl
      rw [e]; exact Go.heap_alloc_new w _) hbz)
    have HZE : Hid ((w.alloc (.cells Z 5)).setRow w.heap.size (Z.toList.take 0 ++ (([] : List Value) ++ Z.toList.drop (0 + ([] : List Value).length))).toArray = w.alloc (.cells Z 5)) := hide (by rw [World.setRow_alloc_new]; simp)
    obtain ⟨l, hl'⟩ : ∃ l : List Nat, l = [] := ⟨_, rfl⟩
    rw [← hl'] at START HFIN ⊢
    have HL := hide hl'
    have hl0 : l.length = 0 := by rw [hl']; rfl
    clear hZ h5 hl'
    have hcp := run_copy_zero
    go_enter Try.func48, Try.ntmps48
    go_wp2_with (first
      | (at_make; refine wpList_zeros rfl _ _ rfl _ 6 rfl rfl (by simp) (by omega) Z HZ ?_))
    go_loopw [4] (fun x wr => ∃ i : Nat, x = .int .i64 (i : Int) ∧ HInv w wr l i) (fun x _ => 6 - (intOf x).toNat)
    case atStart => exact ⟨0, rfl, START.out⟩
    case round =>
      clear START
      obtain ⟨i, rfl, hI⟩ := hrel
      have HI := hide hI
      have hin := hI.hi
      clear hI
      by_cases hlt : i < 6
      · have hrow := HI.out.row
        have hcz : ∃ z, wr.cell? ⟨w.heap.size, i, none⟩ = some z := by
          rw [cell_of_row _ _ _ _ _ _ hrow]
          refine ⟨_, Array.getElem?_eq_getElem (by simp [zeros, marks]; omega)⟩
        obtain ⟨z, hcz⟩ := hcz
        have hfz : wr.frozen? ⟨w.heap.size, i, none⟩ = false := frozen_of_row _ _ _ _ 5 hrow
        have hwu := wrapU8 hlt
        have HNX : Hid (HInv w (wr.setCell ⟨w.heap.size, i, none⟩ (.int .u8 ((200 + i : Nat) : Int))) l (i + 1)) := hide
          ⟨by omega, HI.out.be.setCell (p := ⟨w.heap.size, i, none⟩) (Nat.le_refl _) _, by rw [← handStep l hlt, hl0, Nat.zero_add]; exact Go.heap_setCell_same wr w.heap.size i _ 5 _ hrow⟩
        clear hrow
        generalize ((200 + i : Nat) : Int) = mkv at *
        go_wp2
        go_roundw
        case rel => exact ⟨i + 1, by go_num, HNX.out⟩
        case measure => simp [intOf]; omega
      · have e : i = 6 := by omega
        subst e
        go_wp2
        go_ret
        exact ⟨by rw [hl0]; rfl, HFIN.out _ HI.out, HI.out.be⟩
  · obtain ⟨b, off, rfl, hc⟩ := h5 (by omega)
    have hnews := (HV.out.below hbz).news
    have hone := byteV_oneCell l
    have hlen : (l.map byteV).length = l.length := by simp
    have HROW : Hid ((w.alloc (.cells Z 5)).setRow w.heap.size (Z.toList.take 0 ++ (l.map byteV ++ Z.toList.drop (0 + (l.map byteV).length))).toArray = w.alloc (.cells ((l ++ zeros 6).map byteV).toArray 5)) := hide (by
      rw [World.setRow_alloc_new]
      congr 2
      rw [← hZ, hlen]
      simp [zeros])
    have hb0 := (Below.refl w.heap.size w).alloc (Nat.le_refl _) (.cells ((l ++ zeros 6).map byteV).toArray 5)
    have START := hide (HEND.out _ (Go.heap_alloc_new w _) hb0)
    have hmn : (l.map byteV).length = Nat.min l.length (l.length + 6) := by rw [hlen]; exact (Nat.min_eq_left (by omega)).symm
    clear hc h5 hZ
    generalize l.map byteV = X at *
    go_enter Try.func48, Try.ntmps48
    go_wp2_with (first
      | (at_make; refine wpList_zeros rfl _ _ rfl _ (l.length + 6) rfl rfl (by omega) (by omega) Z HZ ?_)
      | (refine wpList_copy_own rfl (.tmp 9) (.tmp 10) 45 45 rfl 5 Try.underlying45 size_u8h w.heap.size 0 (l.length + 6) (l.length + 6) _ l.length cap rfl rfl Z 5 (Go.heap_alloc_new w _) X hmn hnews (by omega) hone ?_; rw [HROW.out]))
    go_loopw [4] (fun x wr => ∃ i : Nat, x = .int .i64 (i : Int) ∧ HInv w wr l i) (fun x _ => 6 - (intOf x).toNat)
    case atStart => exact ⟨0, rfl, by have h := START.out; rw [List.map_append] at h; exact h⟩
    case round =>
      clear START
      obtain ⟨i, rfl, hI⟩ := hrel
      have HI := hide hI
      have hin := hI.hi
      clear hI
      by_cases hlt : i < 6
      · have hrow := HI.out.row
        have hcz : ∃ z, wr.cell? ⟨w.heap.size, l.length + i, none⟩ = some z := by
          rw [cell_of_row _ _ _ _ _ _ hrow]
          refine ⟨_, Array.getElem?_eq_getElem (by simp [zeros, marks]; omega)⟩
        obtain ⟨z, hcz⟩ := hcz
        have hfz : wr.frozen? ⟨w.heap.size, l.length + i, none⟩ = false := frozen_of_row _ _ _ _ 5 hrow
        have hwu := wrapU8 hlt
        have HNX : Hid (HInv w (wr.setCell ⟨w.heap.size, l.length + i, none⟩ (.int .u8 ((200 + i : Nat) : Int))) l (i + 1)) := hide
          ⟨by omega, HI.out.be.setCell (p := ⟨w.heap.size, l.length + i, none⟩) (Nat.le_refl _) _, by rw [← handStep l hlt]; exact Go.heap_setCell_same wr w.heap.size (l.length + i) _ 5 _ hrow⟩
        clear hrow
        generalize ((200 + i : Nat) : Int) = mkv at *
        go_wp2
        go_roundw
        case rel => exact ⟨i + 1, by go_num, HNX.out⟩
        case measure => simp [intOf]; omega
      · have e : i = 6 := by omega
        subst e
        go_wp2
        go_ret
        exact ⟨rfl, HFIN.out _ HI.out, HI.out.be⟩

theorem nilBytesEq (a : Option Addr) (n c : Nat) (W : World) : (binOp .eql 45 (.slice a n c) (.slice none 0 0)).run Try.prog W = .ok (.bool a.isNone) W := by
  have := Lib.run_eql_slice_nil (P := Try.prog) W 45 5 a n c 0 0 Try.underlying45
  exact this
/-- as much of what is handed in as was given -/
theorem arg_any {w : World} {g : Nat} {v : Value} {l : List Nat} (hv : BSl w v l) (hp : PieceAt w g (l ++ marks)) (hl : l.length ≤ 140737488355328) :
    Calls Try.prog 49 #[sl g (l.length + 6), v] w fun e w' => ∃ u, e = .returned u ∧ w' = w ∧ BSl w u l ∧ (∀ x, u.ownBlock = some x → x = g) := by
  have HP := hide hp
  obtain ⟨a, cap, rfl, h1, h2, h3, h4, h5⟩ := hv
  have H4 := hide h4
  unfold maxLen at h2
  have q := nilBytesEq
  clear h5
  cases a with
  | none =>
    have hl0 : l.length = 0 := by have := h3 rfl; omega
    have el : l = [] := List.eq_nil_of_length_eq_zero hl0
    clear hp h4
    go_enter Try.func49, Try.ntmps49
    go_wp2
    go_ret
    refine ⟨.slice none 0 0, rfl, rfl, ?_, fun x hx => by simp [Value.ownBlock] at hx⟩
    try rw [el]
    exact ⟨none, 0, rfl, Nat.le_refl _, by unfold maxLen; omega, fun _ => rfl, by simp, by simp⟩
  | some ad =>
    have hn6 : ¬ l.length + 6 = 0 := by omega
    clear hp h4
    go_enter Try.func49, Try.ntmps49
    go_wp2
    go_ret
    refine ⟨.slice (some ⟨g, 0, none⟩) l.length (l.length + 6), rfl, rfl, ?_, fun x hx => by simp [Value.ownBlock] at hx; exact hx.symm⟩
    refine ⟨some ⟨g, 0, none⟩, l.length + 6, rfl, by omega, by unfold maxLen; omega, by simp, H4.out, fun h0 => ⟨g, 0, rfl, fun i hi => ?_⟩⟩
    rw [cell_of_row _ _ _ _ _ _ HP.out.1, Nat.zero_add, List.getElem?_toArray, List.map_append, List.getElem?_append_left (by simpa using hi)]
    exact map_byteV_getD hi

set_option maxHeartbeats 1000000 in
theorem untouched_any {w : World} {g : Nat} {v : Value} {l : List Nat} (hv : BSl w v l) (hp : PieceAt w g (l ++ marks)) (hl : l.length ≤ 140737488355328) :
    Calls Try.prog 50 #[sl g (l.length + 6), v] w fun e w' => e = .returned (.bool true) ∧ Below w.heap.size w w' := by
  have HP := hide hp
  have HV := hide hv
  obtain ⟨a, cap, rfl, h1, h2, h3, h4, h5⟩ := hv
  unfold maxLen at h2
  have HB : Hid (∀ n, BSl (w.drewN n) (.slice (some ⟨g, 0, none⟩) l.length (l.length + 6)) l) := hide fun n => by
    refine ⟨some ⟨g, 0, none⟩, l.length + 6, rfl, by omega, by unfold maxLen; omega, by simp, h4, fun h0 => ⟨g, 0, rfl, fun i hi => ?_⟩⟩
    show w.cell? _ = _
    rw [cell_of_row _ _ _ _ _ _ HP.out.1, Nat.zero_add, List.getElem?_toArray, List.map_append, List.getElem?_append_left (by simpa using hi)]
    exact map_byteV_getD hi
  have HBV : Hid (∀ n, BSl (w.drewN n) (.slice a l.length cap) l) := hide fun n => HV.out
  have HC : Hid (∀ i, i < 6 → w.cell? ⟨g, l.length + i, none⟩ = some (.int .u8 ((200 + i : Nat) : Int))) := hide fun i hi => by
    rw [cell_of_row _ _ _ _ _ _ HP.out.1, List.getElem?_toArray, List.map_append, List.getElem?_append_right (by simp), List.length_map, Nat.add_sub_cancel_left]
    rw [map_byteV_getD (show i < marks.length from hi), marks_at hi]
  clear h3 h4 h5 hp
  go_enter Try.func50, Try.ntmps50
  go_wp2
  go_loopw [5] (fun x wr => ∃ i n : Nat, i ≤ 6 ∧ x = .int .i64 (i : Int) ∧ wr = w.drewN n) (fun x _ => 6 - (intOf x).toNat)
  case atStart => exact ⟨0, 0, Nat.zero_le _, rfl, rfl⟩
  case round =>
    obtain ⟨i, n, hin, rfl, rfl⟩ := hrel
    by_cases hlt : i < 6
    · have hc := HC.out i hlt
      have hwu := wrapU8 hlt
      generalize ((200 + i : Nat) : Int) = mkv at *
      go_wp2
      go_roundw
      case rel => exact ⟨i + 1, n, by omega, by go_num, rfl⟩
      case measure => simp [intOf]; omega
    · have e : i = 6 := by omega
      subst e
      have HSA := hide (same_eq (w.drewN n) _ _ l (HB.out n) (HBV.out n))
      have hn6 : ¬ l.length + 6 = 0 := by omega
      go_wp2_with (go_at_call 19; refine HSA.out.mono ?_; rintro e w' ⟨rfl, q⟩)
      go_ret
      exact ⟨rfl, ⟨q.os, q.tape, q.output, q.size, q.block⟩⟩
end Go.Proofs.Ytkjaaknlhmneoaa
