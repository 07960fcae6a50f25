import Derived.Test.YtlpmpicmpklaoacGreatERefD
namespace Go.Proofs.YtlpmpicmpklaoacGreat
open Go.RowKit Go.Maps Go.Sort
set_option linter.unusedVariables false
set_option linter.unusedSimpArgs false
set_option maxRecDepth 20000

def marks : List Nat := [200, 201, 202, 203, 204, 205]
theorem marks_at {i : Nat} (h : i < 6) : marks.getD i 0 = 200 + i := by
  match i, h with
  | 0, _ => rfl
  | 1, _ => rfl
  | 2, _ => rfl
  | 3, _ => rfl
  | 4, _ => rfl
  | 5, _ => rfl
/-- what is handed in, with marks behind it, while they are laid -/
structure HInv (w wr : World) (l : List Nat) (i : Nat) : Prop where
  hi : i ≤ 6
  be : Below w.heap.size w wr
  row : wr.heap[w.heap.size]? = some (.cells ((l ++ (marks.take i ++ zeros (6 - i))).map byteV).toArray 5 (0, 0))
theorem handStep (l : List Nat) {i : Nat} (h : i < 6) : (((l ++ (marks.take i ++ zeros (6 - i))).map byteV).toArray).setIfInBounds (l.length + i) (.int .u8 ((200 + i : Nat) : Int)) = ((l ++ (marks.take (i + 1) ++ zeros (6 - (i + 1)))).map byteV).toArray := by
  have e := copyStep (t := marks) (sz := 6) (i := i) h h
  rw [marks_at h] at e
  have e2 : ((marks.take i ++ zeros (6 - i)).map byteV).set i (.int .u8 ((200 + i : Nat) : Int)) = (marks.take (i + 1) ++ zeros (6 - (i + 1))).map byteV := by
    have := congrArg Array.toList e
    simpa using this
  rw [show (l ++ (marks.take i ++ zeros (6 - i))).map byteV = l.map byteV ++ (marks.take i ++ zeros (6 - i)).map byteV from List.map_append, show (l ++ (marks.take (i + 1) ++ zeros (6 - (i + 1)))).map byteV = l.map byteV ++ (marks.take (i + 1) ++ zeros (6 - (i + 1))).map byteV from List.map_append, ← e2]
  simp only [List.setIfInBounds_toArray]
  congr 1
  have hl : (l.map byteV).length = l.length := by simp
  rw [List.set_append_right _ _ (by omega), hl, Nat.add_sub_cancel_left]
theorem wrapU8 {i : Nat} (h : i < 6) : IntKind.u8.wrap (200 + (i : Int)) = ((200 + i : Nat) : Int) := by
  simp [IntKind.wrap, IntKind.bits, IntKind.signed]; omega

theorem run_copy_zero (g n c : Nat) (a : Option Addr) (w : World) : (Builtin.copy_ #[22, 22] 3 #[sl g n, .slice a 0 c]).run Tryz.prog w = .ok (.int .i64 0) w := by
  obtain ⟨i0, hi, hz0, hz1, hz2⟩ := info_parts info_u8
  cases a <;> simp [Builtin.copy_, run_underlying Tryz.underlying22, Builtin.lenOf, Builtin.firstCells, sizeOf, typeInfo, hi, hz1, loadCells, loadCellsFrom, storeCells, goInt]

set_option maxHeartbeats 1000000 in
theorem hand_any (w : World) (v : Value) (l : List Nat) (hv : BSl w v l) (hl : l.length ≤ 140737488355320) :
    Calls Tryz.prog 13 #[v] w fun e w' => e = .returned (sl w.heap.size (l.length + 6)) ∧ PieceAt w' w.heap.size (l ++ marks) ∧ Below w.heap.size w w' := by
  have HV := hide hv
  obtain ⟨Z, hZ⟩ : ∃ Z, ((zeros (l.length + 6)).map byteV).toArray = Z := ⟨_, rfl⟩
  have HZ := hide hZ
  obtain ⟨a, cap, rfl, h1, h2, h3, h4, h5⟩ := hv
  unfold maxLen at h2
  have hfin : ∀ wr, HInv w wr l 6 → PieceAt wr w.heap.size (l ++ marks) := fun wr h => by
    refine ⟨?_, fun b hb => ?_, by simp [marks]; unfold maxLen; omega, by simp [marks]⟩
    · have := h.row
      simpa [marks, zeros] using this
    · rcases List.mem_append.1 hb with h | h
      · exact h4 b h
      · simp [marks] at h
        omega
  have HFIN := hide hfin
  clear hfin
  have hbz := (Below.refl w.heap.size w).alloc (Nat.le_refl _) (.cells Z 5)
  have hzsz : Z.size = l.length + 6 := by rw [← hZ]; simp [zeros]
  have hEND : ∀ wr : World, wr.heap[w.heap.size]? = some (.cells ((l ++ zeros 6).map byteV).toArray 5 (0, 0)) → Below w.heap.size w wr → HInv w wr l 0 := fun wr hr hb => ⟨Nat.zero_le _, hb, by simpa using hr⟩
  have HEND := hide hEND
  clear hEND
  by_cases h0 : l.length = 0
  · have el : l = [] := List.eq_nil_of_length_eq_zero h0
    subst el
    have START : Hid (HInv w (w.alloc (.cells Z 5)) [] 0) := hide (HEND.out _ (by
      have e : ((([] : List Nat) ++ zeros 6).map byteV).toArray = Z := by rw [← hZ]; rfl
      rw [e]; exact Go.heap_alloc_new w _) hbz)
    have HZE : Hid ((w.alloc (.cells Z 5)).setRow w.heap.size (Z.toList.take 0 ++ (([] : List Value) ++ Z.toList.drop (0 + ([] : List Value).length))).toArray = w.alloc (.cells Z 5)) := hide (by rw [World.setRow_alloc_new]; simp)
    obtain ⟨l, hl'⟩ : ∃ l : List Nat, l = [] := ⟨_, rfl⟩
    rw [← hl'] at START HFIN ⊢
    have HL := hide hl'
    have hl0 : l.length = 0 := by rw [hl']; rfl
    clear hZ h5 hl'
    have hcp := run_copy_zero
    go_enter Tryz.func13, Tryz.ntmps13
    go_wp2_with (first
      | (at_make; refine wpList_zeros rfl _ _ rfl _ 6 rfl rfl (by simp) (by omega) Z HZ ?_))
    go_loopw [4] (fun x wr => ∃ i : Nat, x = .int .i64 (i : Int) ∧ HInv w wr l i) (fun x _ => 6 - (intOf x).toNat)
    case atStart => exact ⟨0, rfl, START.out⟩
    case round =>
      clear START
      obtain ⟨i, rfl, hI⟩ := hrel
      have HI := hide hI
      have hin := hI.hi
      clear hI
      by_cases hlt : i < 6
      · have hrow := HI.out.row
        have hcz : ∃ z, wr.cell? ⟨w.heap.size, i, none⟩ = some z := by
          rw [cell_of_row _ _ _ _ _ _ hrow]
          refine ⟨_, Array.getElem?_eq_getElem (by simp [zeros, marks]; omega)⟩
        obtain ⟨z, hcz⟩ := hcz
        have hfz : wr.frozen? ⟨w.heap.size, i, none⟩ = false := frozen_of_row _ _ _ _ 5 hrow
        have hwu := wrapU8 hlt
        have HNX : Hid (HInv w (wr.setCell ⟨w.heap.size, i, none⟩ (.int .u8 ((200 + i : Nat) : Int))) l (i + 1)) := hide
          ⟨by omega, HI.out.be.setCell (p := ⟨w.heap.size, i, none⟩) (Nat.le_refl _) _, by rw [← handStep l hlt, hl0, Nat.zero_add]; exact Go.heap_setCell_same wr w.heap.size i _ 5 _ hrow⟩
        clear hrow
        generalize ((200 + i : Nat) : Int) = mkv at *
        go_wp2
        go_roundw
        case rel => exact ⟨i + 1, by go_num, HNX.out⟩
        case measure => simp [intOf]; omega
      · have e : i = 6 := by omega
        subst e
        go_wp2
        go_ret
        exact ⟨by rw [hl0]; rfl, HFIN.out _ HI.out, HI.out.be⟩
  · obtain ⟨b, off, rfl, hc⟩ := h5 (by omega)
    have hnews := (HV.out.below hbz).news
    have hone := byteV_oneCell l
    have hlen : (l.map byteV).length = l.length := by simp
    have HROW : Hid ((w.alloc (.cells Z 5)).setRow w.heap.size (Z.toList.take 0 ++ (l.map byteV ++ Z.toList.drop (0 + (l.map byteV).length))).toArray = w.alloc (.cells ((l ++ zeros 6).map byteV).toArray 5)) := hide (by
      rw [World.setRow_alloc_new]
      congr 2
      rw [← hZ, hlen]
      simp [zeros])
    have hb0 := (Below.refl w.heap.size w).alloc (Nat.le_refl _) (.cells ((l ++ zeros 6).map byteV).toArray 5)
    have START := hide (HEND.out _ (Go.heap_alloc_new w _) hb0)
    have hmn : (l.map byteV).length = Nat.min l.length (l.length + 6) := by rw [hlen]; exact (Nat.min_eq_left (by omega)).symm
    clear hc h5 hZ
    generalize l.map byteV = X at *
    go_enter Tryz.func13, Tryz.ntmps13
    go_wp2_with (first
      | (at_make; refine wpList_zeros rfl _ _ rfl _ (l.length + 6) rfl rfl (by omega) (by omega) Z HZ ?_)
      | (refine wpList_copy_own rfl (.tmp 9) (.tmp 10) 22 22 rfl 5 Tryz.underlying22 size_u8 w.heap.size 0 (l.length + 6) (l.length + 6) _ l.length cap rfl rfl Z 5 (Go.heap_alloc_new w _) X hmn hnews (by omega) hone ?_; rw [HROW.out]))
    go_loopw [4] (fun x wr => ∃ i : Nat, x = .int .i64 (i : Int) ∧ HInv w wr l i) (fun x _ => 6 - (intOf x).toNat)
    case atStart => exact ⟨0, rfl, by have h := START.out; rw [List.map_append] at h; exact h⟩
    case round =>
      clear START
      obtain ⟨i, rfl, hI⟩ := hrel
      have HI := hide hI
      have hin := hI.hi
      clear hI
      by_cases hlt : i < 6
      · have hrow := HI.out.row
        have hcz : ∃ z, wr.cell? ⟨w.heap.size, l.length + i, none⟩ = some z := by
          rw [cell_of_row _ _ _ _ _ _ hrow]
          refine ⟨_, Array.getElem?_eq_getElem (by simp [zeros, marks]; omega)⟩
        obtain ⟨z, hcz⟩ := hcz
        have hfz : wr.frozen? ⟨w.heap.size, l.length + i, none⟩ = false := frozen_of_row _ _ _ _ 5 hrow
        have hwu := wrapU8 hlt
        have HNX : Hid (HInv w (wr.setCell ⟨w.heap.size, l.length + i, none⟩ (.int .u8 ((200 + i : Nat) : Int))) l (i + 1)) := hide
          ⟨by omega, HI.out.be.setCell (p := ⟨w.heap.size, l.length + i, none⟩) (Nat.le_refl _) _, by rw [← handStep l hlt]; exact Go.heap_setCell_same wr w.heap.size (l.length + i) _ 5 _ hrow⟩
        clear hrow
        generalize ((200 + i : Nat) : Int) = mkv at *
        go_wp2
        go_roundw
        case rel => exact ⟨i + 1, by go_num, HNX.out⟩
        case measure => simp [intOf]; omega
      · have e : i = 6 := by omega
        subst e
        go_wp2
        go_ret
        exact ⟨rfl, HFIN.out _ HI.out, HI.out.be⟩

theorem nilBytesEq (a : Option Addr) (n c : Nat) (W : World) : (binOp .eql 22 (.slice a n c) (.slice none 0 0)).run Tryz.prog W = .ok (.bool a.isNone) W := by
  have := Lib.run_eql_slice_nil (P := Tryz.prog) W 22 5 a n c 0 0 Tryz.underlying22
  exact this
/-- as much of what is handed in as was given -/
theorem arg_any {w : World} {g : Nat} {v : Value} {l : List Nat} (hv : BSl w v l) (hp : PieceAt w g (l ++ marks)) (hl : l.length ≤ 140737488355320) :
    Calls Tryz.prog 15 #[sl g (l.length + 6), v] w fun e w' => ∃ u, e = .returned u ∧ w' = w ∧ BSl w u l ∧ (∀ x, blockOf u = some x → x = g) := by
  have HP := hide hp
  obtain ⟨a, cap, rfl, h1, h2, h3, h4, h5⟩ := hv
  have H4 := hide h4
  unfold maxLen at h2
  have q := nilBytesEq
  clear h5
  cases a with
  | none =>
    have hl0 : l.length = 0 := by have := h3 rfl; omega
    have el : l = [] := List.eq_nil_of_length_eq_zero hl0
    clear hp h4
    go_enter Tryz.func15, Tryz.ntmps15
    go_wp2
    go_ret
    refine ⟨.slice none 0 0, rfl, rfl, ?_, fun x hx => by simp [blockOf] at hx⟩
    try rw [el]
    exact ⟨none, 0, rfl, Nat.le_refl _, by unfold maxLen; omega, fun _ => rfl, by simp, by simp⟩
  | some ad =>
    have hn6 : ¬ l.length + 6 = 0 := by omega
    clear hp h4
    go_enter Tryz.func15, Tryz.ntmps15
    go_wp2
    go_ret
    refine ⟨.slice (some ⟨g, 0, none⟩) l.length (l.length + 6), rfl, rfl, ?_, fun x hx => by simp [blockOf] at hx; exact hx.symm⟩
    refine ⟨some ⟨g, 0, none⟩, l.length + 6, rfl, by omega, by unfold maxLen; omega, by simp, H4.out, fun h0 => ⟨g, 0, rfl, fun i hi => ?_⟩⟩
    rw [cell_of_row _ _ _ _ _ _ HP.out.1, Nat.zero_add, List.getElem?_toArray, List.map_append, List.getElem?_append_left (by simpa using hi)]
    exact map_byteV_getD hi

set_option maxHeartbeats 1000000 in
theorem untouched_any {w : World} {g : Nat} {v : Value} {l : List Nat} (hv : BSl w v l) (hp : PieceAt w g (l ++ marks)) (hl : l.length ≤ 140737488355320) :
    Calls Tryz.prog 17 #[sl g (l.length + 6), v] w fun e w' => e = .returned (.bool true) ∧ ∃ n, w' = w.drewN n := by
  have HP := hide hp
  have HV := hide hv
  obtain ⟨a, cap, rfl, h1, h2, h3, h4, h5⟩ := hv
  unfold maxLen at h2
  have HB : Hid (∀ n, BSl (w.drewN n) (.slice (some ⟨g, 0, none⟩) l.length (l.length + 6)) l) := hide fun n => by
    refine ⟨some ⟨g, 0, none⟩, l.length + 6, rfl, by omega, by unfold maxLen; omega, by simp, h4, fun h0 => ⟨g, 0, rfl, fun i hi => ?_⟩⟩
    show w.cell? _ = _
    rw [cell_of_row _ _ _ _ _ _ HP.out.1, Nat.zero_add, List.getElem?_toArray, List.map_append, List.getElem?_append_left (by simpa using hi)]
    exact map_byteV_getD hi
  have HBV : Hid (∀ n, BSl (w.drewN n) (.slice a l.length cap) l) := hide fun n => HV.out
  have HC : Hid (∀ i, i < 6 → w.cell? ⟨g, l.length + i, none⟩ = some (.int .u8 ((200 + i : Nat) : Int))) := hide fun i hi => by
    rw [cell_of_row _ _ _ _ _ _ HP.out.1, List.getElem?_toArray, List.map_append, List.getElem?_append_right (by simp), List.length_map, Nat.add_sub_cancel_left]
    rw [map_byteV_getD (show i < marks.length from hi), marks_at hi]
  clear h3 h4 h5 hp
  go_enter Tryz.func17, Tryz.ntmps17
  go_wp2
  go_loopw [5] (fun x wr => ∃ i n : Nat, i ≤ 6 ∧ x = .int .i64 (i : Int) ∧ wr = w.drewN n) (fun x _ => 6 - (intOf x).toNat)
  case atStart => exact ⟨0, 0, Nat.zero_le _, rfl, rfl⟩
  case round =>
    obtain ⟨i, n, hin, rfl, rfl⟩ := hrel
    by_cases hlt : i < 6
    · have hc := HC.out i hlt
      have hwu := wrapU8 hlt
      generalize ((200 + i : Nat) : Int) = mkv at *
      go_wp2
      go_roundw
      case rel => exact ⟨i + 1, n, by omega, by go_num, rfl⟩
      case measure => simp [intOf]; omega
    · have e : i = 6 := by omega
      subst e
      have HSA := hide (same_any _ _ _ _ (w.drewN n) (HB.out n) (HBV.out n))
      have hn6 : ¬ l.length + 6 = 0 := by omega
      go_wp2_with (go_at_call 26; refine HSA.out.mono ?_; rintro e w' ⟨rfl, k, rfl⟩)
      go_ret
      exact ⟨by simp, n + k, rfl⟩
end Go.Proofs.YtlpmpicmpklaoacGreat
