import Derived.Test.YtlpmpicmpklaoacGreatERef9
namespace Go.Proofs.YtlpmpicmpklaoacGreat
open Go.RowKit Go.Maps Go.Sort
set_option linter.unusedVariables false
set_option linter.unusedSimpArgs false
set_option maxRecDepth 20000

/-- a list of bools, one a block -/
def BoolsAt (w : World) (g n : Nat) (f : Nat → Bool) : Prop := ∃ cs : Array Value, w.heap[g]? = some (.cells cs 4 (0, 0)) ∧ cs.size = n ∧ ∀ k, k < n → cs[k]? = some (.bool (f k))
theorem BoolsAt.kept {w w' : World} {g n : Nat} {f : Nat → Bool} (h : BoolsAt w g n f) (hk : w'.heap[g]? = w.heap[g]?) : BoolsAt w' g n f := by
  obtain ⟨cs, h1, h2⟩ := h
  exact ⟨cs, hk.trans h1, h2⟩
theorem BoolsAt.cell {w : World} {g n : Nat} {f : Nat → Bool} (h : BoolsAt w g n f) {k : Nat} (hk : k < n) : w.cell? ⟨g, k, none⟩ = some (.bool (f k)) ∧ w.frozen? ⟨g, k, none⟩ = false := by
  obtain ⟨cs, h1, h2, h3⟩ := h
  exact ⟨by rw [cell_of_row _ _ _ _ _ _ h1]; exact h3 k hk, frozen_of_row _ _ _ _ 4 h1⟩
theorem BoolsAt.set {w : World} {g n : Nat} {f : Nat → Bool} (h : BoolsAt w g n f) {k : Nat} (hk : k < n) (x : Bool) {f' : Nat → Bool} (hf : ∀ j, f' j = if j = k then x else f j) : BoolsAt (w.setCell ⟨g, k, none⟩ (.bool x)) g n f' := by
  obtain ⟨cs, h1, h2, h3⟩ := h
  refine ⟨_, Go.heap_setCell_same w g k _ 4 _ h1, by simpa using h2, fun j hj => ?_⟩
  rw [hf j]
  by_cases e : j = k
  · rw [if_pos e, e, Array.getElem?_setIfInBounds_self_of_lt (by omega)]
  · rw [if_neg e, Array.getElem?_setIfInBounds_ne (by omega)]; exact h3 j hj
theorem info_bool : (Tryz.prog.info? 4).map (fun i => (i.zero, i.size, i.bytes)) = some (some (.bool false), 1, 1) := by kernel_rfl
theorem run_bools (n : Nat) (hn : n ≤ 8192) : ∃ Z : Array Value, (∀ w : World, (Instr.makeSlice 67 (.int .i64 (n : Int)) (.int .i64 (n : Int))).run Tryz.prog w = .ok (sl w.heap.size n) (w.alloc (.cells Z 4))) ∧ ∀ w : World, BoolsAt (w.alloc (.cells Z 4)) w.heap.size n fun _ => false := by
  obtain ⟨i0, hi, hz0, hz1, hz2⟩ := info_parts info_bool
  obtain ⟨Z, z1, z2, z3⟩ : ∃ Z : Array Value, madeCells (Value.bool false).cells (n * 1) = Z ∧ Z.size = n ∧ ∀ k, k < n → Z[k]? = some (.bool false) := by
    refine ⟨_, rfl, by simp [madeCells, Value.cells], fun k hk => ?_⟩
    simp [madeCells, Value.cells, hk, Nat.mod_one]
  refine ⟨Z, fun w => ?_, fun w => ⟨Z, Go.heap_alloc_new w _, z2, z3⟩⟩
  have hr := run_make (P := Tryz.prog) w 67 4 i0 (.bool false) Tryz.underlying67 hi hz0 .i64 .i64 (n : Int) (n : Int) (by omega) (Int.le_refl _) (by rw [hz2]; omega) (by omega)
  simp only [Int.toNat_natCast] at hr
  rw [hz1, z1] at hr
  exact hr

def hasF (its : List (Nat × Pc)) (i : Nat) : Nat → Bool := fun k => decide (0 < cntOf its i k)
theorem hasF_succ (its : List (Nat × Pc)) {i : Nat} (h : i < its.length) (k : Nat) : hasF its (i + 1) k = if k = its[i].1 then true else hasF its i k := by
  unfold hasF
  rw [cnt_succ _ h]
  by_cases e : k = its[i].1
  · rw [if_pos e.symm, if_pos e]; simp
  · rw [if_neg (fun h => e h.symm), if_neg e]; rfl
def keysTo (S : St) (n : Nat) : List Int := ((List.range n).filter fun k => !(S.cache k).isEmpty).map fun (k : Nat) => (k : Int)
theorem keysTo_succ (S : St) (n : Nat) : keysTo S (n + 1) = keysTo S n ++ if (S.cache n).isEmpty then [] else [(n : Int)] := by
  unfold keysTo
  rw [List.range_succ, List.filter_append, List.map_append]
  congr 1
  cases h : (S.cache n).isEmpty <;> simp [h]
theorem keysTo_len (S : St) (n : Nat) : (keysTo S n).length ≤ n := by
  unfold keysTo
  have := List.length_filter_le (fun k => !(S.cache k).isEmpty) (List.range n)
  simpa using this

set_option maxHeartbeats 1000000 in
theorem rCached {w : World} {L : RLay} {S : St} {wh : Int} (h : RD w L S wh) (hb : ∀ k, (S.cache k).length + 1 ≤ 268435456) :
    Calls Tryz.prog 34 #[PR L] w fun e w' => ∃ lv, e = .returned lv ∧ w'.ownsRow w.heap.size 3 1 lv S.keysI.length (S.keysI.map encZ) ∧ (lv = .slice none 0 0 ↔ S.keysI = []) ∧ Below w.heap.size w w' := by
  obtain ⟨i0, hi, hz0, hz1, hz2⟩ := info_parts info_int
  obtain ⟨R, r1, r2, r3⟩ := h
  have hil := items_lt r1 r2 hb
  obtain ⟨ac, cc, ec, hc1, hc2⟩ := rowForm r1.hc
  unfold maxLen at hc2
  have hnb := r1.nb2
  have HR := hide r1
  have HSM := hide r2
  have HCE : Hid (∀ w', RRep w' L R → w'.cell? ⟨L.p, 4, none⟩ = some (.slice ac R.items.length cc) ∧ w'.cell? ⟨L.p, 0, none⟩ = some (.int .i64 (R.nb : Int))) := hide fun w' h' => ⟨by rw [← ec]; exact h'.cell 4, h'.cell 0⟩
  have HEC := hide ec
  obtain ⟨c4w, c0⟩ := HCE.out _ r1
  obtain ⟨Z, hmk, hZi⟩ := run_bools R.nb hnb
  have START : Hid (Below w.heap.size w (w.alloc (.cells Z 4)) ∧ BoolsAt (w.alloc (.cells Z 4)) w.heap.size R.nb (hasF R.items 0)) := hide ⟨(Below.refl _ _).alloc (Nat.le_refl _) _, by
    have e : hasF R.items 0 = fun _ => false := funext fun k => by unfold hasF; rw [cnt_zero]; rfl
    rw [e]; exact hZi w⟩
  have HKI : Hid (S.keysI = keysTo S R.nb) := hide (by unfold St.keysI St.keysL keysTo; rw [HSM.out.nb])
  rw [HKI.out]
  clear r1 r2 r3 hb ec hZi
  unfold PR
  go_enter Tryz.func34, Tryz.ntmps34
  go_wp2
  go_loopw [4] (fun x wr => ∃ (i : Nat), i ≤ R.items.length ∧ x = .int .i64 (i : Int) ∧ Below w.heap.size w wr ∧ BoolsAt wr w.heap.size R.nb (hasF R.items i)) (fun x _ => R.items.length - (intOf x).toNat)
  case atStart => exact ⟨0, Nat.zero_le _, rfl, START.out.1, START.out.2⟩
  case round =>
    clear START
    obtain ⟨i, hi', rfl, hbr, hin⟩ := hrel
    have HRr := hide (HR.out.below hbr)
    have HIN := hide hin
    clear hin
    obtain ⟨c4, c0r⟩ := HCE.out _ HRr.out
    by_cases hlt : i < R.items.length
    · obtain ⟨g, cap, eg, -, -, k0, k1⟩ := HRr.out.itemAt hlt
      rw [HEC.out] at eg
      simp only [Value.slice.injEq] at eg
      obtain ⟨rfl, -, rfl⟩ := eg
      have hbk := (HR.out.pi _ (List.getElem_mem hlt)).1
      obtain ⟨n1, n2⟩ := HIN.out.cell hbk
      have HNX : Hid (Below w.heap.size w (wr.setCell ⟨w.heap.size, R.items[i].1, none⟩ (.bool true)) ∧ BoolsAt (wr.setCell ⟨w.heap.size, R.items[i].1, none⟩ (.bool true)) w.heap.size R.nb (hasF R.items (i + 1))) := hide
        ⟨hbr.setCell (p := ⟨w.heap.size, R.items[i].1, none⟩) (Nat.le_refl _) _, HIN.out.set hbk true fun j => hasF_succ _ hlt j⟩
      have HNX2 : Hid (Below w.heap.size w (wr.setCell ⟨w.heap.size, R.items[i].1, none⟩ (.bool true)).drew ∧ BoolsAt (wr.setCell ⟨w.heap.size, R.items[i].1, none⟩ (.bool true)).drew w.heap.size R.nb (hasF R.items (i + 1))) := hide ⟨Below.drew HNX.out.1, HNX.out.2⟩
      generalize R.items[i] = X at *
      obtain ⟨b, pc⟩ := X
      simp only at *
      go_wp2
      go_roundw
      case rel => exact ⟨i + 1, by omega, by go_num, HNX.out.1, HNX.out.2⟩
      case measure => simp [intOf]; omega
    · have ei : i = R.items.length := by omega
      have HHF : Hid (∀ k, hasF R.items i k = !(S.cache k).isEmpty) := hide fun k => by
        unfold hasF
        have e : cntOf R.items i k = (S.cache k).length := by rw [ei, cnt_all, HSM.out.cache k]; simp
        rw [e]
        cases S.cache k <;> simp
      have HBT := hide HIN.out
      have htl : w.heap.size < wr.heap.size := by
        obtain ⟨cs, h1, _⟩ := HIN.out
        exact (Array.getElem?_eq_some_iff.1 h1).1
      have HB1 := hide hbr
      obtain ⟨w1, hw1⟩ : ∃ w1, w1 = wr := ⟨_, rfl⟩
      subst hw1
      clear hbr HIN ei
      go_wp2
      go_loopw [5, 6] (fun lv x wr => ∃ (b : Nat), b ≤ R.nb ∧ x = .int .i64 (b : Int) ∧ Below w1.heap.size w1 wr ∧ wr.ownsRow w1.heap.size 3 1 lv (keysTo S b).length ((keysTo S b).map encZ) ∧ (lv = .slice none 0 0 ↔ keysTo S b = [])) (fun _ x _ => R.nb - (intOf x).toNat)
      case atStart => exact ⟨0, Nat.zero_le _, rfl, Below.refl _ _, World.ownsRow_nil _ _ _ _, by simp [keysTo]⟩
      case round =>
        obtain ⟨b, hb', rfl, hbr, hown, hnil⟩ := hrel
        have HOW := hide hown
        have HNL := hide hnil
        clear hown hnil
        have HRw := hide (HRr.out.below hbr)
        obtain ⟨c4r, c0s⟩ := HCE.out _ HRw.out
        by_cases hlt : b < R.nb
        · obtain ⟨n1, -⟩ := (HBT.out.kept (hbr.block _ htl)).cell hlt
          rw [HHF.out b] at n1
          have hkl := keysTo_len S b
          have HSU := hide (keysTo_succ S b)
          cases hem : (S.cache b).isEmpty with
          | true =>
            rw [hem] at n1 HSU
            go_wp2
            go_roundw
            case rel => exact ⟨b + 1, by omega, by go_num, hbr, by rw [HSU.out]; simpa using HOW.out, by rw [HSU.out]; simpa using HNL.out⟩
            case measure => simp [intOf]; omega
          | false =>
            rw [hem] at n1 HSU
            have r3a := HOW.out.alloc (.cells #[.int .i64 (b : Int)] 3)
            have hsz := hbr.size
            go_wp2_with (at_builtin; refine wpList_append_own_at _ rfl (.tmp 43) (.tmp 45) 36 rfl w1.heap.size 3 i0 (.int .i64 0) 1 8 Tryz.underlying36 hi hz0 hz1 hz2 rfl (by decide) _ _ _ rfl r3a ⟨wr.heap.size, 0, none⟩ 1 1 [.int .i64 (b : Int)] rfl rfl (cell_one_new _ _ _) (by simp [Value.oneCell']) (by unfold maxLen; omega) (by omega) (by simp; omega) ?_)
            intro lv' w4 ho4 hg4 hn4 hloc4
            have HN4 : Hid (¬ lv' = .slice none 0 0) := hide hn4
            clear hn4
            have hb4 : Below w1.heap.size w1 w4 := (hbr.alloc hbr.size _).grown hg4 (by simp; omega) (fun g hg => (r3a.lt g hg).1)
            go_wp2
            go_roundw
            case rel => exact ⟨b + 1, by omega, by go_num, hb4, by rw [HSU.out]; simpa [encZ] using ho4, by rw [HSU.out]; simp only [Bool.false_eq_true, if_false, List.append_eq_nil_iff, List.cons_ne_nil, and_false, iff_false]; exact HN4.out⟩
            case measure => simp [intOf]; omega
        · have eb : b = R.nb := by omega
          subst eb
          go_wp2
          go_ret
          have hsz1 := HB1.out.size
          refine ⟨_, rfl, ?_, HNL.out, HB1.out.trans (hbr.mono hsz1)⟩
          refine ⟨HOW.out.1, ?_⟩
          rcases HOW.out.2 with h0 | ⟨g, cap, cur, h1, h2, r⟩
          · exact .inl h0
          · exact .inr ⟨g, cap, cur, h1, Nat.le_trans hsz1 h2, r⟩
end Go.Proofs.YtlpmpicmpklaoacGreat
