import Derived.Test.YtedhohamdbplhaaDoorWAf
namespace Go.Proofs.YtedhohamdbplhaaDoor
open Go.RowKit
set_option linter.unusedVariables false
set_option linter.unusedSimpArgs false
set_option maxRecDepth 20000

theorem Tryd.infoU64 : (Tryd.prog.info? 30).map (fun i => (i.zero, i.size, i.bytes)) = some (some (.int .u64 0), 1, 8) := by kernel_rfl
theorem idx4w (a b c d : Int) (j : Nat) (hj : j < 4) (w : World) : (Instr.index 104 (.agg #[.int .u64 a, .int .u64 b, .int .u64 c, .int .u64 d]) (.int .i64 (j : Int))).run Tryd.prog w = .ok (.int .u64 ([a, b, c, d].getD j 0)) w := by
  obtain ⟨i, hi, _, hz, _⟩ := info_parts Tryd.infoU64
  obtain rfl | rfl | rfl | rfl : j = 0 ∨ j = 1 ∨ j = 2 ∨ j = 3 := by omega
  all_goals simp [Instr.index, run_underlying Tryd.underlying104, asIntOf, go_sem, sizeOf, typeInfo, hi, hz]
def gsL (g0 g1 g2 g3 : Nat) (k : Nat) : List Nat := ([g0, g1, g2, g3].take k).flatMap fun g => be g 8
theorem gsL_succ (g0 g1 g2 g3 k : Nat) (hk : k < 4) : gsL g0 g1 g2 g3 (k + 1) = gsL g0 g1 g2 g3 k ++ be ([g0, g1, g2, g3].getD k 0) 8 := by
  obtain rfl | rfl | rfl | rfl : k = 0 ∨ k = 1 ∨ k = 2 ∨ k = 3 := by omega
  all_goals simp [gsL]
theorem gsL_len (g0 g1 g2 g3 k : Nat) (hk : k ≤ 4) : (gsL g0 g1 g2 g3 k).length = 8 * k := by
  obtain rfl | rfl | rfl | rfl | rfl : k = 0 ∨ k = 1 ∨ k = 2 ∨ k = 3 ∨ k = 4 := by omega
  all_goals simp [gsL, be_len]
theorem getD_cast (g0 g1 g2 g3 k : Nat) : ([(g0 : Int), (g1 : Int), (g2 : Int), (g3 : Int)].getD k 0) = (([g0, g1, g2, g3].getD k 0 : Nat) : Int) := by
  match k with
  | 0 => rfl
  | 1 => rfl
  | 2 => rfl
  | 3 => rfl
  | n + 4 => simp [List.getD]

set_option maxHeartbeats 2000000 in
theorem af_ids (w : World) (base : Nat) (ov : Value) (l : List Nat) (pb : Nat) (p : PV) (v : Value) (ho : Own w base ov l) (hbase : base ≤ w.heap.size) (hl : l.length + 100 ≤ 140737488355328) (h : PM w pb p v) :
    Calls Tryd.prog 24 #[ov, Fd.ids.val, .pointer (some ⟨pb, 0, none⟩)] w fun e' w' => AF w base (l ++ encF p .ids) e' w' := by
  have hb := (Below.refl w.heap.size w).alloc (Nat.le_refl _) (.cells #[] 98)
  have HB := hide hb
  obtain ⟨k5, k6, k7, k8⟩ := (h.below hb).gens
  have HOW := hide (ho.kept hb)
  have HE : Hid (encF p .ids = gsL p.g0 p.g1 p.g2 p.g3 4) := hide (by simp [encF, gsL])
  have hix := fun j hj => idx4w (p.g0 : Int) (p.g1 : Int) (p.g2 : Int) (p.g3 : Int) j hj
  simp only [getD_cast] at hix
  have HG : Hid (∀ k, [p.g0, p.g1, p.g2, p.g3].getD k 0 < 18446744073709551616) := hide fun k => by
    match k with
    | 0 => exact h.ok.g0
    | 1 => exact h.ok.g1
    | 2 => exact h.ok.g2
    | 3 => exact h.ok.g3
    | n + 4 => simp [List.getD]
  have HSC := hide (gsL_succ p.g0 p.g1 p.g2 p.g3)
  have HLN := hide (gsL_len p.g0 p.g1 p.g2 p.g3)
  have m1 := as_idents_number
  have m2 := as_idents_idents
  unfold Fd.val
  have HSZ : Hid ((w.alloc (.cells #[] 98)).heap.size = w.heap.size + 1) := hide (by simp)
  generalize encF p .ids = ea at *
  generalize p.g0 = g0 at *
  generalize p.g1 = g1 at *
  generalize p.g2 = g2 at *
  generalize p.g3 = g3 at *
  clear h ho hb
  go_enter Tryd.func24, Tryd.ntmps24
  go_wp2_with fail
  go_quiet (fail)
  go_wp2_with fail
  go_loopw [0, 53] (fun ovr i wr => ∃ (k : Nat), k ≤ 4 ∧ i = .int .i64 k ∧ Own wr base ovr (l ++ gsL g0 g1 g2 g3 k) ∧ Below base w wr ∧ base ≤ wr.heap.size) (fun _ i _ => 4 - (intOf i).toNat)
  case atStart => exact ⟨0, by decide, rfl, by rw [show gsL g0 g1 g2 g3 0 = [] from rfl, List.append_nil]; exact HOW.out.keptIf fun _ _ => rfl, (HB.out.mono hbase).trans ⟨rfl, rfl, rfl, Nat.le_refl _, fun _ _ => rfl⟩, by show base ≤ (w.alloc _).heap.size; rw [HSZ.out]; omega⟩
  case round =>
    obtain ⟨k, hk, rfl, how, hbe, hsz⟩ := hrel
    by_cases hlt : k < 4
    · have hi := hix k hlt
      have HA := hide (appendNumber_any wr base _ _ ([g0, g1, g2, g3].getD k 0) 8 (HG.out k) (by decide) how hsz (by rw [List.length_append, HLN.out k hk]; omega))
      have HS1 := hide (HSC.out k hlt)
      have HBE := hide hbe
      clear hix hbe how
      generalize [g0, g1, g2, g3].getD k 0 = x at *
      go_wp2_with (go_at_call 31; refine HA.out.mono ?_; rintro e' y ⟨v', rfl, ho', hb', hs'⟩; have HO2 := hide ho'; have HB2 := hide (HBE.out.trans hb'); have HS2 := hide hs'; clear ho' hb' hs' HA)
      go_roundw
      case rel => exact ⟨k + 1, by omega, by go_num, by rw [HS1.out, ← List.append_assoc]; exact HO2.out, HB2.out, HS2.out⟩
      case measure => simp [intOf]; omega
    · obtain rfl : k = 4 := by omega
      have HO2 := hide how
      have HBE := hide hbe
      clear hix hbe how
      go_wp2_with fail
      go_ret
      exact ⟨_, rfl, by rw [HE.out]; exact HO2.out, HBE.out, hsz⟩

set_option maxHeartbeats 2000000 in
theorem af_sum (w : World) (base : Nat) (ov : Value) (l : List Nat) (pb : Nat) (t : Bool) (p : PV) (v : Value) (ho : Own w base ov l) (hbase : base ≤ w.heap.size) (hl : l.length + 100 ≤ 140737488355328) (h : PM w pb p v) :
    Calls Tryd.prog 24 #[ov, (Fd.sum t).val, .pointer (some ⟨pb, 0, none⟩)] w fun e' w' => AF w base (l ++ encF p (.sum t)) e' w' := by
  have hb := (Below.refl w.heap.size w).alloc (Nat.le_refl _) (.cells #[.bool t] 96)
  have HB := hide hb
  have HOW := hide (ho.kept hb)
  have HE : Hid (encF p (.sum t) = p.s) := hide rfl
  have HBS : Hid (BSl (w.alloc (.cells #[.bool t] 96)) (.slice (some ⟨pb, 9, none⟩) 32 32) p.s) := hide (by
    refine ⟨some ⟨pb, 9, none⟩, 32, by rw [h.ok.n], by rw [h.ok.n]; exact Nat.le_refl _, by unfold maxLen; omega, (fun e => by cases e), h.ok.s, fun _ => ⟨pb, 9, rfl, fun i hi => ?_⟩⟩
    exact (h.below hb).rng i _ (u8L_get hi))
  have HL : Hid (l.length + p.s.length ≤ 140737488355328) := hide (by rw [h.ok.n]; omega)
  have m1 := as_sumt_number
  have m2 := as_sumt_idents
  have m3 := as_sumt_sumt
  unfold Fd.val
  have HSZ : Hid (base ≤ (w.alloc (.cells #[.bool t] 96)).heap.size) := hide (by simp; omega)
  generalize encF p (.sum t) = ea at *
  clear h ho hb
  go_enter Tryd.func24, Tryd.ntmps24
  go_wp2_with (at_builtin; refine wpList_app rfl (.tmp 63) (.tmp 67) rfl base _ _ l p.s rfl rfl HOW.out HBS.out HL.out HSZ.out ?_; intro v' w' ho' hb' hs' _; have HO2 := hide ho'; have HB2 := hide ((HB.out.mono hbase).trans hb'); have HS2 := hide hs'; clear ho' hb' hs')
  go_ret
  exact ⟨_, rfl, by rw [HE.out]; exact HO2.out, HB2.out, HS2.out⟩

set_option maxHeartbeats 2000000 in
theorem af_dat (w : World) (base : Nat) (ov : Value) (l : List Nat) (pb lo hi : Nat) (t : Bool) (p : PV) (v : Value) (ho : Own w base ov l) (hbase : base ≤ w.heap.size) (hl : l.length + 100000 ≤ 140737488355328) (hdl : p.dl.length < 65536) (h : PM w pb p v) (hpb : pb < base) (hv : ∀ g, v.ownBlock = some g → g < base) :
    Calls Tryd.prog 24 #[ov, (Fd.dat lo hi t).val, .pointer (some ⟨pb, 0, none⟩)] w fun e' w' => AF w base (l ++ encF p (.dat lo hi t)) e' w' := by
  have hb := (Below.refl w.heap.size w).alloc (Nat.le_refl _) (.cells #[.int .u64 (lo : Int), .int .u64 (hi : Int), .bool t] 94)
  have HB := hide hb
  have HOW := hide (ho.kept hb)
  have HE : Hid (encF p (.dat lo hi t) = be p.dl.length 2 ++ p.dl) := hide rfl
  have HD : Hid (∀ y, Below base w y → BSl y v p.dl ∧ y.cell? ⟨pb, 41, none⟩ = some v) := hide fun y hy => ⟨h.dat.stay fun g hg => hy.block g (hv g hg), (hy.cell (p := ⟨pb, 41, none⟩) hpb).trans h.dcell⟩
  have c0 := (h.below hb).dcell
  obtain ⟨da, dc, rfl, q1, q2, _, _, _⟩ := id h.dat
  unfold maxLen at q2
  have hwx : IntKind.u64.wrap (p.dl.length : Int) = (p.dl.length : Int) := wrap_u64 (by omega)
  have HSZ : Hid (base ≤ (w.alloc (.cells #[.int .u64 (lo : Int), .int .u64 (hi : Int), .bool t] 94)).heap.size) := hide (by simp; omega)
  have HA := hide (appendNumber_any _ base ov l p.dl.length 2 (by omega) (by decide) HOW.out HSZ.out (by omega))
  have m1 := as_data_number
  have m2 := as_data_idents
  have m3 := as_data_sumt
  have m4 := as_data_data
  unfold Fd.val
  generalize encF p (.dat lo hi t) = ea at *
  generalize hdd : p.dl = dl at *
  generalize hdn : dl.length = dn at *
  have HL : Hid ((l ++ be dn 2).length + dl.length ≤ 140737488355328) := hide (by rw [List.length_append, be_len]; omega)
  rename_i dd1 dd2 dd3
  clear h ho hb dd1 dd2 dd3 hdn hdd
  go_enter Tryd.func24, Tryd.ntmps24
  go_wp2_with (first
    | (go_at_call 31; refine HA.out.mono ?_; rintro e' y ⟨v', rfl, ho', hb', hs'⟩; have HO2 := hide ho'; have HB2 := hide ((HB.out.mono hbase).trans hb'); have HS2 := hide hs'; have HD2 := hide (HD.out y HB2.out).1; have c1 := (HD.out y HB2.out).2; clear ho' hb' hs' HA HD)
    | (at_builtin; refine wpList_app rfl (.tmp 80) (.tmp 84) rfl base _ _ _ dl rfl rfl HO2.out HD2.out HL.out HS2.out ?_; intro v2 w2 ho' hb' hs' _; have HO3 := hide ho'; have HB3 := hide (HB2.out.trans hb'); have HS3 := hide hs'; clear ho' hb' hs'))
  go_ret
  exact ⟨_, rfl, by rw [HE.out, ← List.append_assoc]; exact HO3.out, HB3.out, HS3.out⟩
end Go.Proofs.YtedhohamdbplhaaDoor
