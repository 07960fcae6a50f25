import Derived.Test.YtlpmpicmpklaoacGreatERef1
namespace Go.Proofs.YtlpmpicmpklaoacGreat
open Go.RowKit Go.Maps
set_option linter.unusedVariables false
set_option linter.unusedSimpArgs false
set_option maxRecDepth 20000

/-- the document's copy -/
structure CInv (w wr : World) (l : List Nat) (i : Nat) : Prop where
  hi : i ≤ l.length
  row : wr.heap[w.heap.size]? = some (.cells ((l.take i ++ zeros (l.length - i)).map byteV).toArray 5 (0, 0))
  be : Below w.heap.size w wr
  size : wr.heap.size = w.heap.size + 1
theorem copyStep {t : List Nat} {sz i : Nat} (hi : i < sz) (ht : i < t.length) : (((t.take i ++ zeros (sz - i)).map byteV).toArray).setIfInBounds i (.int .u8 (t.getD i 0 : Nat)) = ((t.take (i + 1) ++ zeros (sz - (i + 1))).map byteV).toArray := by
  have e1 : sz - i = (sz - (i + 1)) + 1 := by omega
  have e2 : zeros (sz - i) = 0 :: zeros (sz - (i + 1)) := by rw [e1]; rfl
  have e3 : t.take (i + 1) = t.take i ++ [t.getD i 0] := by rw [List.take_add_one, getD_get 0 ht]; rfl
  rw [e2, e3]
  simp only [List.map_append, List.map_cons, List.map_nil, List.setIfInBounds_toArray]
  congr 1
  have hl : ((t.take i).map byteV).length = i := by simp; omega
  rw [List.set_append_right _ _ (by omega), hl, Nat.sub_self, List.set_cons_zero, List.append_assoc]
  rfl
theorem rCopy_any (v : Value) (l : List Nat) (w : World) (h : BSl w v l) (hr : l.length ≤ 140737488355328) (h0 : 0 < l.length) :
    Calls Tryz.prog 41 #[v] w fun e w' => e = .returned (sl w.heap.size l.length) ∧ PieceAt w' w.heap.size l ∧ Below w.heap.size w w' ∧ w'.heap.size = w.heap.size + 1 := by
  have HB := hide h
  obtain ⟨Z, hZ⟩ : ∃ Z, ((zeros l.length).map byteV).toArray = Z := ⟨_, rfl⟩
  have START : Hid (CInv w (w.alloc (.cells Z 5)) l 0) := hide
    ⟨Nat.zero_le _, by simp only [List.take_zero, List.nil_append, Nat.sub_zero]; rw [hZ]; exact Go.heap_alloc_new w _, (Below.refl _ _).alloc (Nat.le_refl _) _, by simp⟩
  have HZ := hide hZ
  clear hZ
  obtain ⟨a, cap, rfl, hl, hm, -⟩ := h
  unfold maxLen at hm
  go_enter Tryz.func41, Tryz.ntmps41
  go_wp2_with (at_make; refine wpList_zeros rfl _ _ rfl _ l.length rfl rfl rfl (by omega) Z HZ ?_)
  go_loopw [4] (fun i wr => ∃ n : Nat, i = .int .i64 (n : Int) ∧ CInv w wr l n) (fun i _ => l.length - (intOf i).toNat)
  case atStart => exact ⟨0, rfl, START.out⟩
  case round =>
    clear START
    obtain ⟨n, rfl, hI⟩ := hrel
    have hn := hI.hi
    have HI := hide hI
    clear hI
    by_cases hlt : n < l.length
    · have hbw := HB.out.below HI.out.be
      obtain ⟨a', cap', e', x1, x2, x3, x4, x5⟩ := hbw
      simp only [Value.slice.injEq] at e'
      obtain ⟨rfl, _, rfl⟩ := e'
      obtain ⟨tb, toff, rfl, hc⟩ := x5 (by omega)
      have hck := hc n hlt
      have hx : l.getD n 0 < 256 := x4 _ (mem_getD hlt)
      have hrow := HI.out.row
      have hcz : ∃ z, wr.cell? ⟨w.heap.size, n, none⟩ = some z := by
        rw [cell_of_row _ _ _ _ _ _ hrow]
        refine ⟨_, Array.getElem?_eq_getElem (by simp [zeros]; omega)⟩
      obtain ⟨z, hcz⟩ := hcz
      have hfz : wr.frozen? ⟨w.heap.size, n, none⟩ = false := frozen_of_row _ _ _ _ 5 hrow
      have HNX : Hid (CInv w (wr.setCell ⟨w.heap.size, n, none⟩ (.int .u8 (l.getD n 0 : Nat))) l (n + 1)) := hide
        ⟨by omega, by rw [← copyStep hlt hlt]; exact Go.heap_setCell_same wr w.heap.size n _ 5 _ HI.out.row, HI.out.be.setCell (p := ⟨w.heap.size, n, none⟩) (Nat.le_refl _) _, by simp [World.setCell]; exact HI.out.size⟩
      clear hc x1 x2 x3 x4 x5 hrow
      generalize l.getD n 0 = x at *
      go_wp2
      go_roundw
      case rel => exact ⟨n + 1, by go_num, HNX.out⟩
      case measure => simp [intOf]; omega
    · have e : n = l.length := by omega
      subst e
      go_wp2
      go_ret
      have hr' := HI.out.row
      rw [List.take_length, Nat.sub_self] at hr'
      simp only [zeros, List.replicate_zero, List.append_nil] at hr'
      exact ⟨rfl, ⟨hr', HB.out.lt256, by unfold maxLen; omega, h0⟩, HI.out.be, HI.out.size⟩

theorem info_item : (Tryz.prog.info? 114).map (fun i => (i.zero, i.size, i.bytes)) = some (some (.agg #[.int .i64 0, .slice none 0 0]), 2, 32) := by kernel_rfl
def RSt.of (R : RSt) (b : Int) : List (Nat × Pc) := R.items.filter fun x => decide ((x.1 : Int) = b)
def slOf (sz : Nat) (xs : List (Nat × Pc)) : List Value := xs.map fun x => sl x.2.g sz
theorem filter_snoc {α : Type} (p : α → Bool) (xs : List α) {i : Nat} (h : i < xs.length) : (xs.take (i + 1)).filter p = (xs.take i).filter p ++ if p xs[i] then [xs[i]] else [] := by
  rw [List.take_add_one, List.getElem?_eq_getElem h]
  simp only [Option.toList_some, List.filter_append]
  congr 1
  by_cases hp : p xs[i] = true
  · rw [if_pos hp]; simp [hp]
  · rw [if_neg hp]; simp [hp]

set_option maxHeartbeats 1000000 in
theorem rcached {w : World} {L : RLay} {R : RSt} (h : RRep w L R) (b : Int) (hb : -9223372036854775808 ≤ b ∧ b ≤ 9223372036854775807) (hlen : R.items.length + 1 ≤ 4398046511104) :
    Calls Tryz.prog 70 #[PR L, .int .i64 b] w fun e w' => ∃ v, e = .returned v ∧ w'.ownsRow w.heap.size 22 1 v (R.of b).length (slOf R.sz (R.of b)) ∧ Below w.heap.size w w' := by
  obtain ⟨i0, hi, hz0, hz1, hz2⟩ := info_parts info_bytes
  have H := hide h
  obtain ⟨b1, b2⟩ := hb
  have hnb := h.nb2
  obtain ⟨ac, cc, ec, hc1, hc2⟩ := rowForm h.hc
  unfold maxLen at hc2
  clear h
  unfold PR
  go_enter Tryz.func70, Tryz.ntmps70
  go_wp2
  go_loopw [5, 6] (fun lv x wr => ∃ i : Nat, i ≤ R.items.length ∧ x = .int .i64 (i : Int) ∧ Below w.heap.size w wr ∧ wr.ownsRow w.heap.size 22 1 lv ((R.items.take i).filter fun x => decide ((x.1 : Int) = b)).length (slOf R.sz ((R.items.take i).filter fun x => decide ((x.1 : Int) = b)))) (fun _ x _ => R.items.length - (intOf x).toNat)
  case atStart => exact ⟨0, Nat.zero_le _, rfl, Below.refl _ _, World.ownsRow_nil _ _ _ _⟩
  case round =>
    obtain ⟨i, hi', rfl, hbr, hown⟩ := hrel
    have HOW := hide hown
    clear hown
    have HRr := hide (H.out.below hbr)
    have c4 : wr.cell? ⟨L.p, 4, none⟩ = some (.slice ac R.items.length cc) := by rw [← ec]; exact HRr.out.cell 4
    by_cases hlt : i < R.items.length
    · obtain ⟨g, cap, eg, -, -, k0, k1⟩ := HRr.out.itemAt hlt
      rw [ec] at eg
      simp only [Value.slice.injEq] at eg
      obtain ⟨rfl, -, rfl⟩ := eg
      have HSN := hide (filter_snoc (fun x : Nat × Pc => decide ((x.1 : Int) = b)) R.items hlt)
      have hml : ((R.items.take i).filter fun x => decide ((x.1 : Int) = b)).length ≤ i := by
        have := List.length_filter_le (fun x : Nat × Pc => decide ((x.1 : Int) = b)) (R.items.take i)
        simp only [List.length_take] at this
        omega
      have hxb := (H.out.pi _ (List.getElem_mem hlt)).1
      generalize R.items[i] = X at *
      obtain ⟨k, pc⟩ := X
      generalize (R.items.take i).filter (fun x => decide ((x.1 : Int) = b)) = F at *
      simp only at k0 k1 hxb
      by_cases heq : (k : Int) = b
      · have r3a := HOW.out.alloc (.cells #[sl pc.g R.sz] 22)
        have HSN2 : Hid ((R.items.take (i + 1)).filter (fun x => decide ((x.1 : Int) = b)) = F ++ [(k, pc)]) := hide (by rw [HSN.out]; simp [heq])
        have hsz := hbr.size
        subst heq
        go_wp2_with (at_builtin; refine wpList_append_own_at _ rfl (.tmp 26) (.tmp 35) 33 rfl w.heap.size 22 i0 (.slice none 0 0) 1 24 Tryz.underlying33 hi hz0 hz1 hz2 rfl (by decide) _ _ _ rfl r3a ⟨wr.heap.size, 0, none⟩ 1 1 [sl pc.g R.sz] rfl rfl (cell_one_new _ _ _) (by simp [Value.oneCell']) (by unfold maxLen; omega) (by omega) (by simp; omega) ?_)
        intro lv' w4 ho4 hg4 _ hloc4
        have hb4 : Below w.heap.size w w4 := (hbr.alloc hbr.size _).grown hg4 (by simp; omega) (fun g hg => (r3a.lt g hg).1)
        go_wp2
        go_roundw
        case rel => exact ⟨i + 1, by omega, by go_num, hb4, by rw [HSN2.out, slOf, List.map_append, List.length_append]; exact ho4⟩
        case measure => simp [intOf]; omega
      · have HSN2 : Hid ((R.items.take (i + 1)).filter (fun x => decide ((x.1 : Int) = b)) = F) := hide (by rw [HSN.out]; simp [heq])
        go_wp2
        go_roundw
        case rel => exact ⟨i + 1, by omega, by go_num, hbr, by rw [HSN2.out]; exact HOW.out⟩
        case measure => simp [intOf]; omega
    · have e : R.items.take i = R.items := List.take_of_length_le (by omega)
      rw [e] at HOW
      go_wp2
      go_ret
      exact ⟨_, rfl, HOW.out, hbr⟩
end Go.Proofs.YtlpmpicmpklaoacGreat
