import Derived.Test.YtedhohamdbplhaaDoorWSum
namespace Go.Proofs.YtedhohamdbplhaaDoor
open Go.RowKit
set_option linter.unusedVariables false
set_option linter.unusedSimpArgs false
set_option maxRecDepth 20000

theorem SpL.below {w x : World} {v : Value} {L : List (Nat × Nat)} (h : SpL w v L) (hb : Below w.heap.size w x) : SpL x v L := by
  obtain ⟨b, off, cap, rfl, h1, h2, h3, h4⟩ := h
  refine ⟨b, off, cap, rfl, h1, h2, h3, fun i hi => ?_⟩
  obtain ⟨c0, c1⟩ := h4 i hi
  have hl := World.block_lt_of_cell? w _ c0
  exact ⟨(World.cell?_of_block (hb.block b hl)).trans c0, (World.cell?_of_block (hb.block b hl)).trans c1⟩
theorem u8L_get {s : List Nat} {j : Nat} (h : j < s.length) : (u8L s)[j]? = some (.int .u8 ((s.getD j 0 : Nat) : Int)) := by
  unfold u8L
  rw [List.getElem?_map, List.getElem?_eq_getElem h, List.getD_eq_getElem?_getD, List.getElem?_eq_getElem h]
  rfl
theorem idx32 {s : List Nat} (h : s.length = 32) (j : Nat) (hj : j < 32) (w : World) : (Instr.index 33 (.agg (u8L s).toArray) (.int .i64 (j : Int))).run Tryd.prog w = .ok (.int .u8 ((s.getD j 0 : Nat) : Int)) w := by
  obtain ⟨i, hi, _, hz, _⟩ := info_parts Tryd.infoU8
  have hg := u8L_get (s := s) (j := j) (by omega)
  have hl : (u8L s).length = 32 := (u8L_len s).trans h
  generalize u8L s = SL at *
  have hjj : (j : Int) < 32 := by omega
  simp [Instr.index, run_underlying Tryd.underlying33, asIntOf, go_sem, sizeOf, typeInfo, hi, hz, hg, hjj]
  intro hh
  omega
/-- is each byte as it may be? -/
theorem all_take {s : List Nat} {f : Nat → Bool} {k : Nat} (h : k < s.length) : (s.take (k + 1)).all f = ((s.take k).all f && f (s.getD k 0)) := by
  rw [List.take_add_one, List.all_append, List.getElem?_eq_getElem h, List.getD_eq_getElem?_getD, List.getElem?_eq_getElem h]
  simp
theorem all_stop {s : List Nat} {f : Nat → Bool} {k : Nat} (h : k < s.length) (hf : f (s.getD k 0) = false) : s.all f = false := by
  rw [List.all_eq_false]
  refine ⟨s.getD k 0, ?_, by simpa using hf⟩
  rw [List.getD_eq_getElem?_getD, List.getElem?_eq_getElem h]
  exact List.getElem_mem h

set_option maxHeartbeats 2000000 in
theorem sfits_any (w : World) (tied : Bool) (pb : Nat) (p : PV) (v : Value) (h : PM w pb p v) :
    Calls Tryd.prog 102 #[.agg #[.bool tied], .pointer (some ⟨pb, 0, none⟩)] w fun e' w' => e' = .returned (.bool (fitF p (.sum tied))) ∧ Below w.heap.size w w' := by
  have HM := hide fun y => smay_any y tied p.a p.b p.c p.d p.e
  have HH := hide fun (y : World) (v : Value) (x : Nat) (h : SpL y v (smayL tied p.e)) (hx : x < 256) => have_any y v (smayL tied p.e) x h (by omega)
  have HF : Hid (fitF p (.sum tied) = p.s.all fun x => meets (smayL tied p.e) x x) := hide rfl
  have HN := hide h.ok.n
  have HS8 := hide h.ok.s
  have HI : Hid ((Tryd.prog.info? 33).map (·.size) = some (u8L p.s).length) := hide (by rw [u8L_len, h.ok.n]; exact infoS)
  have hidx := fun j hj => idx32 h.ok.n j hj
  generalize fitF p (.sum tied) = r at *
  unfold aheadV at HM
  have HZ := hide ((Below.refl w.heap.size w).alloc (Nat.le_refl _) (.cells #[.bool tied] 96))
  have HPM := hide h
  have HSS : Hid (∀ y, Below (w.heap.size + 1) (w.alloc (.cells #[.bool tied] 96)) y → y.cell? ⟨pb, 0, none⟩ = some (.int .u32 (p.a : Int)) ∧ y.cell? ⟨pb, 1, none⟩ = some (.int .u32 (p.b : Int)) ∧ y.cell? ⟨pb, 2, none⟩ = some (.int .u32 (p.c : Int)) ∧ y.cell? ⟨pb, 3, none⟩ = some (.int .u32 (p.d : Int)) ∧ y.cell? ⟨pb, 4, none⟩ = some (.int .u32 (p.e : Int)) ∧ y.cell? ⟨w.heap.size, 0, none⟩ = some (.bool tied)) := hide fun y hb => by
    have hbw : Below w.heap.size w y := HZ.out.trans (hb.mono (by omega))
    obtain ⟨h0, h1, h2, h3, h4⟩ := (HPM.out.below hbw).five
    have hr : y.heap[w.heap.size]? = some (.cells #[.bool tied] 96 (0, 0)) := by rw [hb.block _ (by omega)]; exact Go.heap_alloc_new w _
    exact ⟨h0, h1, h2, h3, h4, by rw [cell_of_row _ _ _ _ _ _ hr]; rfl⟩
  have HSZE := hide (show ((w.alloc (.cells #[.bool tied] 96)).drewN 1).heap.size = w.heap.size + 1 by show (w.alloc _).heap.size = _; simp)
  obtain ⟨h0, h1, h2, h3, h4, h5⟩ := HSS.out _ (Below.refl _ _)
  clear h
  generalize p.a = a at *
  generalize p.b = b at *
  generalize p.c = c at *
  generalize p.d = d at *
  generalize p.e = e at *
  go_enter Tryd.func102, Tryd.ntmps102
  go_wp2_with fail
  go_region_held3 (fun y => y.cell? ⟨pb, 0, none⟩ = some (.int .u32 (a : Int)) ∧ y.cell? ⟨pb, 1, none⟩ = some (.int .u32 (b : Int)) ∧ y.cell? ⟨pb, 2, none⟩ = some (.int .u32 (c : Int)) ∧ y.cell? ⟨pb, 3, none⟩ = some (.int .u32 (d : Int)) ∧ y.cell? ⟨pb, 4, none⟩ = some (.int .u32 (e : Int)) ∧ y.cell? ⟨w.heap.size, 0, none⟩ = some (.bool tied)) (first | exact ⟨h0, h1, h2, h3, h4, h5⟩ | exact HSY.out)
    ((go_at_call 42; refine (HM.out ((w.alloc (.cells #[.bool tied] 96)).drewN 1)).mono ?_; rintro e' y ⟨v, rfl, hs, hb2⟩; have HSP := hide hs; have HBY : Hid (Below (w.heap.size + 1) (w.alloc (.cells #[.bool tied] 96)) y) := hide ((bel_drewN (Below.refl _ _) 1).trans (by have := hb2; rw [HSZE.out] at this; exact this)); have HSY := hide (HSS.out y HBY.out); obtain ⟨g0, g1, g2, g3, g4, g5⟩ := HSY.out; clear hs hb2 HM))
  all_goals
    clear HSS HSZE h0 h1 h2 h3 h4 h5 g0 g1 g2 g3 g4 g5 HSY
    have HBW : Hid (Below w.heap.size w y) := hide (HZ.out.trans (HBY.out.mono (by omega)))
    have HPY := hide (HPM.out.below HBW.out)
    have HRN := hide HPY.out.rng
    obtain ⟨sb, soff, scap, hv, _, _, _, _⟩ := id HSP.out
    subst hv
    clear HPM HBY HZ
    go_wp2_with (refine wpList_load_mid rfl 33 _ rfl pb 9 (by first | rfl | simp [Act.eval, Act.put]) (u8L p.s) _ HRN.out Tryd.underlying33 rfl HI.out ?_)
    go_loopw [18] (fun i wr => ∃ k : Nat, k ≤ 32 ∧ i = .int .i64 k ∧ Hid ((p.s.take k).all (fun x => meets (smayL tied e) x x) = true) ∧ Below y.heap.size y wr) (fun i _ => 32 - (intOf i).toNat)
    case atStart => exact ⟨0, by decide, rfl, hide rfl, by first | exact Below.refl _ _ | exact ⟨rfl, rfl, rfl, Nat.le_refl _, fun _ _ => rfl⟩⟩
    case round =>
      obtain ⟨k, hk, rfl, hall, hbel⟩ := hrel
      have HBE := hide hbel
      clear hbel
      by_cases hlt : k < 32
      · have hx : p.s.getD k 0 < 256 := HS8.out _ (by have := HN.out; simp [List.getD, show k < p.s.length by omega])
        have hix := hidx k hlt
        have HAT := hide (all_take (s := p.s) (f := fun x => meets (smayL tied e) x x) (k := k) (by rw [HN.out]; exact hlt))
        have HST := hide (all_stop (s := p.s) (f := fun x => meets (smayL tied e) x x) (k := k) (by rw [HN.out]; exact hlt))
        generalize p.s.getD k 0 = x at *
        have hwx : IntKind.u64.wrap (x : Int) = (x : Int) := wrap_u64 (by omega)
        have HHV := hide fun y1 (hb : Below y.heap.size y y1) => HH.out y1 _ x (SpL.below HSP.out hb) hx
        cases hm : meets (smayL tied e) x x with
        | true =>
          have HA2 : Hid ((p.s.take (k + 1)).all (fun x => meets (smayL tied e) x x) = true) := hide (by rw [HAT.out, hall.out, hm]; rfl)
          rw [hm] at HHV
          clear hm HST HAT hall hidx
          go_wp2_with (go_at_call 96; refine (HHV.out _ HBE.out).mono ?_; rintro e' z ⟨rfl, hb3⟩; have HB3 := hide (HBE.out.trans (hb3.mono HBE.out.size)); clear hb3)
          go_roundw
          case rel => exact ⟨k + 1, by omega, by go_num, HA2, HB3.out⟩
          case measure => simp [intOf]; omega
        | false =>
          have HA2 : Hid (r = false) := hide (by rw [HF.out]; exact HST.out hm)
          rw [hm] at HHV
          clear hm HST HAT hall hidx HF
          go_wp2_with (go_at_call 96; refine (HHV.out _ HBE.out).mono ?_; rintro e' z ⟨rfl, hb3⟩; have HB3 := hide (HBE.out.trans (hb3.mono HBE.out.size)); clear hb3)
          go_ret
          exact ⟨by rw [HA2.out]; rfl, HBW.out.trans (HB3.out.mono HBW.out.size)⟩
      · obtain rfl : k = 32 := by omega
        have HA2 : Hid (r = true) := hide (by rw [HF.out]; have := hall.out; rwa [List.take_of_length_le (Nat.le_of_eq HN.out)] at this)
        clear hall hidx HF
        go_wp2_with fail
        go_ret
        exact ⟨by rw [HA2.out]; rfl, HBW.out.trans (HBE.out.mono HBW.out.size)⟩
end Go.Proofs.YtedhohamdbplhaaDoor
