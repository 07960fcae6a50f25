import Derived.Test.YtlpmpicmpklaoacGreatELawC
import Derived.Laws.BitsAllLaws
namespace Go.Proofs.YtlpmpicmpklaoacGreat
open Go.RowKit Go.Maps Go.Sort
set_option linter.unusedVariables false
set_option linter.unusedSimpArgs false
set_option maxRecDepth 20000

theorem FInv2.xor {w wr : World} {pp g n i : Nat} (h : FInv2 w wr pp g n) (hi : i < n) : ∃ x : Nat, x < 256 ∧ wr.cell? ⟨g, i, none⟩ = some (.int .u8 (x : Int)) ∧ wr.frozen? ⟨g, i, none⟩ = false ∧ FInv2 w (wr.setCell ⟨g, i, none⟩ (.int .u8 ((x ^^^ 255 : Nat) : Int))) pp g n := by
  obtain ⟨l, hl, hp⟩ := h.pc
  refine ⟨l[i]'(by omega), hp.2.1 _ (List.getElem_mem _), ?_, frozen_of_row _ _ _ _ 5 hp.1, h.set hi (Nat.xor_lt_two_pow (n := 8) (hp.2.1 _ (List.getElem_mem _)) (by decide))⟩
  rw [cell_of_row _ _ _ _ _ _ hp.1]
  simp [byteV, List.getElem?_eq_getElem (show i < l.length by omega)]
set_option maxHeartbeats 2000000 in
theorem made_load_bad (w : World) (n s : Int) (iv : Value) (l : List Nat) (hn : i64ok n) (hs : i64ok s) (hv : BSl w iv l) (hl : l.length ≤ 140737488355000) (hg : goodGeo n s = false) :
    Calls Tryz.prog 8 #[.agg #[.bool true, .int .i64 n, .int .i64 s, iv]] w fun e w' => MadePost w e w' := by
  have M0 := hide (MkAt.start w true n s iv)
  have HV := hide hv
  have HL := hide hl
  have HG := hide hg
  have HN := hide hn
  have HS := hide hs
  clear hv hl hg hn hs
  go_enter Tryz.func8, Tryz.ntmps8
  go_wp2_with fail
  have HV1 := hide (HV.out.below M0.out.be)
  refine (hand_any _ iv l HV1.out (by have := HL.out; omega)).mono ?_
  rintro e w1 ⟨rfl, hp1, hb1⟩
  have M1 := hide (M0.out.kept hb1)
  have HV2 := hide (HV1.out.below hb1)
  generalize hW : ((w.alloc (.cells #[.bool true, .int .i64 n, .int .i64 s, iv] 24)).alloc _) = wA at *
  clear hW
  have HP1 := hide hp1
  have HB1 := hide hb1
  have HW1 : Hid (w.heap.size + 1 < wA.heap.size) := hide (Array.getElem?_eq_some_iff.1 M0.out.row).1
  clear hp1 hb1
  have bd : Below w1.heap.size w1 w1.drew := Below.drew (Below.refl _ _)
  have M2 := hide (M1.out.kept bd)
  have HP2 := hide (HP1.out.kept (w' := w1.drew) rfl)
  have HV3 := hide (HV2.out.below bd)
  have HA := hide (arg_any HV3.out HP2.out (by have := HL.out; omega))
  have HK := hide (fun u hu => kLoad w1.drew n s u l hu)
  clear bd
  have M3 := hide ((M1.out.setD (.pointer none)).kept (Below.drew (Below.refl _ _)))
  obtain ⟨e00, e01, e02, e03, e04, e05, e06, e07⟩ := M3.out.cells
  obtain ⟨c00, c01, c02, c03, c04, c05, c06, c07⟩ := M1.out.cells
  obtain ⟨d00, d01, d02, d03, d04, d05, d06, d07⟩ := M2.out.cells
  unfold sl at *
  go_wp2_with fail
  go_region_held3 (fun w' => w'.cell? ⟨w.heap.size, 1, none⟩ = some (.int .i64 n) ∧ w'.cell? ⟨w.heap.size, 2, none⟩ = some (.int .i64 s) ∧ w'.cell? ⟨w.heap.size, 3, none⟩ = some iv) (first | exact ⟨c01, c02, c03⟩ | exact ⟨d01, d02, d03⟩ | exact ⟨e01, e02, e03⟩ | exact ⟨g01, g02, g03⟩ | assumption)
    (first
      | (go_at_call 15; refine HA.out.mono ?_; rintro e w2 ⟨u, rfl, rfl, hu, hg⟩; have HU := hide hu; clear hu hg)
      | (go_at_call 14; refine (HK.out _ HU.out).mono ?_; rintro e w2 ⟨h1, -, -⟩; obtain ⟨rfl, rfl⟩ := h1 HG.out; clear h1))
  have HP3 : Hid (PieceAt ((w1.setCell ⟨w.heap.size + 1, 0, none⟩ (.pointer none)).drew) wA.heap.size (l ++ marks)) := hide (HP1.out.kept (Go.heap_setCell_other _ _ _ _ (show wA.heap.size ≠ w.heap.size + 1 by have := HW1.out; omega)))
  generalize hWB : (w1.setCell ⟨w.heap.size + 1, 0, none⟩ (.pointer none)).drew = wB at *
  clear hWB c00 c01 c02 c03 c04 c05 c06 c07 d00 d01 d02 d03 d04 d05 d06 d07
  have HR := hide (rLoad wB n s HN.out HS.out iv l (HV.out.below M3.out.be))
  go_wp2_with fail
  refine HR.out.mono ?_
  rintro e w3 ⟨h1, -, -⟩
  obtain ⟨rfl, rfl⟩ := h1 HG.out
  clear h1 HR e00 e01 e02 e03 e04 e05 e06 e07
  have M4 := hide (M3.out.setR (.pointer none))
  have HP4 : Hid (PieceAt (w3.setCell ⟨w.heap.size + 1, 1, none⟩ (.pointer none)) wA.heap.size (l ++ marks)) := hide (HP3.out.kept (Go.heap_setCell_other _ _ _ _ (show wA.heap.size ≠ w.heap.size + 1 by have := HW1.out; omega)))
  obtain ⟨e00, e01, e02, e03, e04, e05, e06, e07⟩ := M3.out.cells
  obtain ⟨f00, f01, f02, f03, f04, f05, f06, f07⟩ := M4.out.cells
  have HUN := hide (untouched_any (HV.out.below M4.out.be) HP4.out (by have := HL.out; omega))
  unfold sl at HUN
  go_wp2_with (go_at_call 17; refine HUN.out.mono ?_; rintro e w5 ⟨rfl, k5, hw5⟩; have HW5 := hide hw5; clear hw5)
  have hb5 : Below (w3.setCell ⟨w.heap.size + 1, 1, none⟩ (.pointer none)).heap.size (w3.setCell ⟨w.heap.size + 1, 1, none⟩ (.pointer none)) w5 := by rw [HW5.out]; exact below_drewN (Below.refl _ _) k5
  have M5 := hide (M4.out.kept hb5)
  have HP5 := hide (HP4.out.kept (hb5.block _ HP4.out.lt))
  clear hb5 e00 e01 e02 e03 e04 e05 e06 e07 f00 f01 f02 f03 f04 f05 f06 f07 HUN HA HK
  have hsz : (l ++ marks).length = l.length + 6 := by simp [marks]
  have ST : Hid (FInv2 w5 w5 0 wA.heap.size (l.length + 6)) := hide ⟨rfl, rfl, rfl, rfl, fun _ _ => rfl, _, hsz, HP5.out⟩
  clear hsz
  have HLL : Hid (l.length + 6 ≤ 140737488355006) := hide (by have := HL.out; omega)
  generalize l.length + 6 = ln at *
  go_loopw [8] (fun x wr => ∃ i : Nat, i ≤ ln ∧ x = .int .i64 (i : Int) ∧ FInv2 w5 wr 0 wA.heap.size ln) (fun x _ => ln - (intOf x).toNat)
  case atStart => exact ⟨0, Nat.zero_le _, rfl, ST.out⟩
  case round =>
    clear ST
    obtain ⟨i, hin, rfl, hF⟩ := hrel
    have HF := hide hF
    clear hF
    have hll := HLL.out
    by_cases hlt : i < ln
    · obtain ⟨x, hx, hcx, hfx, hN⟩ := HF.out.xor hlt
      have HNX := hide hN
      clear hN
      have hxo := u8_xor_nat x 255 hx (by decide)
      rw [show ((255 : Nat) : Int) = 255 from rfl] at hxo
      go_wp2
      go_roundw
      case rel => exact ⟨i + 1, by omega, by go_num, HNX.out⟩
      case measure => simp [intOf]; omega
    · have hkp : ∀ b, b ≠ wA.heap.size → wr.heap[b]? = w5.heap[b]? := HF.out.keep
      have M6 : Hid (MkAt w wr true n s iv (.pointer none) (.pointer none)) := hide ⟨(hkp _ (by have := HW1.out; omega)).trans M5.out.box, (hkp _ (by have := HW1.out; omega)).trans M5.out.row, ⟨HF.out.os.trans M5.out.be.os, HF.out.tape.trans M5.out.be.tape, HF.out.output.trans M5.out.be.output, by rw [HF.out.size]; exact M5.out.be.size, fun b hb => (hkp b (by have := HW1.out; omega)).trans (M5.out.be.block b hb)⟩⟩
      obtain ⟨-, -, -, -, c24, c25, -, -⟩ := M6.out.cells
      clear hkp
      go_wp2_with fail
      go_region_held3 (fun w' => w'.cell? ⟨w.heap.size + 1, 0, none⟩ = some (.pointer none) ∧ w'.cell? ⟨w.heap.size + 1, 1, none⟩ = some (.pointer none)) (first | exact ⟨c24, c25⟩ | assumption) (fail)
      go_wp2
      go_ret2
      have M7 := M6.out.kept (Below.drew (Below.refl _ _))
      exact ⟨w.heap.size + 1, rfl, M7.be, by omega, .inl M7.cells.2.2.2.2.1⟩
set_option maxHeartbeats 2000000 in
theorem made_load_size (w : World) (n s : Int) (iv : Value) (l : List Nat) (hn : i64ok n) (hs : i64ok s) (hv : BSl w iv l) (hl : l.length ≤ 140737488355000) (hg : goodGeo n s = true) (hm : ¬ l.length = n.toNat * s.toNat) :
    Calls Tryz.prog 8 #[.agg #[.bool true, .int .i64 n, .int .i64 s, iv]] w fun e w' => MadePost w e w' := by
  have M0 := hide (MkAt.start w true n s iv)
  have HV := hide hv
  have HL := hide hl
  have HG := hide hg
  have HM := hide hm
  clear hm
  have HN := hide hn
  have HS := hide hs
  clear hv hl hg hn hs
  go_enter Tryz.func8, Tryz.ntmps8
  go_wp2_with fail
  have HV1 := hide (HV.out.below M0.out.be)
  refine (hand_any _ iv l HV1.out (by have := HL.out; omega)).mono ?_
  rintro e w1 ⟨rfl, hp1, hb1⟩
  have M1 := hide (M0.out.kept hb1)
  have HV2 := hide (HV1.out.below hb1)
  generalize hW : ((w.alloc (.cells #[.bool true, .int .i64 n, .int .i64 s, iv] 24)).alloc _) = wA at *
  clear hW
  have HP1 := hide hp1
  have HB1 := hide hb1
  have HW1 : Hid (w.heap.size + 1 < wA.heap.size) := hide (Array.getElem?_eq_some_iff.1 M0.out.row).1
  clear hp1 hb1
  have bd : Below w1.heap.size w1 w1.drew := Below.drew (Below.refl _ _)
  have M2 := hide (M1.out.kept bd)
  have HP2 := hide (HP1.out.kept (w' := w1.drew) rfl)
  have HV3 := hide (HV2.out.below bd)
  have HA := hide (arg_any HV3.out HP2.out (by have := HL.out; omega))
  have HK := hide (fun u hu => kLoad w1.drew n s u l hu)
  clear bd
  have M3 := hide ((M1.out.setD (.pointer none)).kept (Below.drew (Below.refl _ _)))
  obtain ⟨e00, e01, e02, e03, e04, e05, e06, e07⟩ := M3.out.cells
  obtain ⟨c00, c01, c02, c03, c04, c05, c06, c07⟩ := M1.out.cells
  obtain ⟨d00, d01, d02, d03, d04, d05, d06, d07⟩ := M2.out.cells
  unfold sl at *
  go_wp2_with fail
  go_region_held3 (fun w' => w'.cell? ⟨w.heap.size, 1, none⟩ = some (.int .i64 n) ∧ w'.cell? ⟨w.heap.size, 2, none⟩ = some (.int .i64 s) ∧ w'.cell? ⟨w.heap.size, 3, none⟩ = some iv) (first | exact ⟨c01, c02, c03⟩ | exact ⟨d01, d02, d03⟩ | exact ⟨e01, e02, e03⟩ | exact ⟨g01, g02, g03⟩ | assumption)
    (first
      | (go_at_call 15; refine HA.out.mono ?_; rintro e w2 ⟨u, rfl, rfl, hu, hg⟩; have HU := hide hu; clear hu hg)
      | (go_at_call 14; refine (HK.out _ HU.out).mono ?_; rintro e w2 ⟨-, h1, -⟩; obtain ⟨rfl, rfl⟩ := h1 HG.out HM.out; clear h1))
  have HP3 : Hid (PieceAt ((w1.setCell ⟨w.heap.size + 1, 0, none⟩ (.pointer none)).drew) wA.heap.size (l ++ marks)) := hide (HP1.out.kept (Go.heap_setCell_other _ _ _ _ (show wA.heap.size ≠ w.heap.size + 1 by have := HW1.out; omega)))
  generalize hWB : (w1.setCell ⟨w.heap.size + 1, 0, none⟩ (.pointer none)).drew = wB at *
  clear hWB c00 c01 c02 c03 c04 c05 c06 c07 d00 d01 d02 d03 d04 d05 d06 d07
  have HR := hide (rLoad wB n s HN.out HS.out iv l (HV.out.below M3.out.be))
  go_wp2_with fail
  refine HR.out.mono ?_
  rintro e w3 ⟨-, h1, -⟩
  obtain ⟨rfl, rfl⟩ := h1 HG.out HM.out
  clear h1 HR e00 e01 e02 e03 e04 e05 e06 e07
  have M4 := hide (M3.out.setR (.pointer none))
  have HP4 : Hid (PieceAt (w3.setCell ⟨w.heap.size + 1, 1, none⟩ (.pointer none)) wA.heap.size (l ++ marks)) := hide (HP3.out.kept (Go.heap_setCell_other _ _ _ _ (show wA.heap.size ≠ w.heap.size + 1 by have := HW1.out; omega)))
  obtain ⟨e00, e01, e02, e03, e04, e05, e06, e07⟩ := M3.out.cells
  obtain ⟨f00, f01, f02, f03, f04, f05, f06, f07⟩ := M4.out.cells
  have HUN := hide (untouched_any (HV.out.below M4.out.be) HP4.out (by have := HL.out; omega))
  unfold sl at HUN
  go_wp2_with (go_at_call 17; refine HUN.out.mono ?_; rintro e w5 ⟨rfl, k5, hw5⟩; have HW5 := hide hw5; clear hw5)
  have hb5 : Below (w3.setCell ⟨w.heap.size + 1, 1, none⟩ (.pointer none)).heap.size (w3.setCell ⟨w.heap.size + 1, 1, none⟩ (.pointer none)) w5 := by rw [HW5.out]; exact below_drewN (Below.refl _ _) k5
  have M5 := hide (M4.out.kept hb5)
  have HP5 := hide (HP4.out.kept (hb5.block _ HP4.out.lt))
  clear hb5 e00 e01 e02 e03 e04 e05 e06 e07 f00 f01 f02 f03 f04 f05 f06 f07 HUN HA HK
  have hsz : (l ++ marks).length = l.length + 6 := by simp [marks]
  have ST : Hid (FInv2 w5 w5 0 wA.heap.size (l.length + 6)) := hide ⟨rfl, rfl, rfl, rfl, fun _ _ => rfl, _, hsz, HP5.out⟩
  clear hsz
  have HLL : Hid (l.length + 6 ≤ 140737488355006) := hide (by have := HL.out; omega)
  generalize l.length + 6 = ln at *
  go_loopw [8] (fun x wr => ∃ i : Nat, i ≤ ln ∧ x = .int .i64 (i : Int) ∧ FInv2 w5 wr 0 wA.heap.size ln) (fun x _ => ln - (intOf x).toNat)
  case atStart => exact ⟨0, Nat.zero_le _, rfl, ST.out⟩
  case round =>
    clear ST
    obtain ⟨i, hin, rfl, hF⟩ := hrel
    have HF := hide hF
    clear hF
    have hll := HLL.out
    by_cases hlt : i < ln
    · obtain ⟨x, hx, hcx, hfx, hN⟩ := HF.out.xor hlt
      have HNX := hide hN
      clear hN
      have hxo := u8_xor_nat x 255 hx (by decide)
      rw [show ((255 : Nat) : Int) = 255 from rfl] at hxo
      go_wp2
      go_roundw
      case rel => exact ⟨i + 1, by omega, by go_num, HNX.out⟩
      case measure => simp [intOf]; omega
    · have hkp : ∀ b, b ≠ wA.heap.size → wr.heap[b]? = w5.heap[b]? := HF.out.keep
      have M6 : Hid (MkAt w wr true n s iv (.pointer none) (.pointer none)) := hide ⟨(hkp _ (by have := HW1.out; omega)).trans M5.out.box, (hkp _ (by have := HW1.out; omega)).trans M5.out.row, ⟨HF.out.os.trans M5.out.be.os, HF.out.tape.trans M5.out.be.tape, HF.out.output.trans M5.out.be.output, by rw [HF.out.size]; exact M5.out.be.size, fun b hb => (hkp b (by have := HW1.out; omega)).trans (M5.out.be.block b hb)⟩⟩
      obtain ⟨-, -, -, -, c24, c25, -, -⟩ := M6.out.cells
      clear hkp
      go_wp2_with fail
      go_region_held3 (fun w' => w'.cell? ⟨w.heap.size + 1, 0, none⟩ = some (.pointer none) ∧ w'.cell? ⟨w.heap.size + 1, 1, none⟩ = some (.pointer none)) (first | exact ⟨c24, c25⟩ | assumption) (fail)
      go_wp2
      go_ret2
      have M7 := M6.out.kept (Below.drew (Below.refl _ _))
      exact ⟨w.heap.size + 1, rfl, M7.be, by omega, .inl M7.cells.2.2.2.2.1⟩
set_option maxHeartbeats 2000000 in
theorem made_load_good (w : World) (n s : Int) (iv : Value) (l : List Nat) (hn : i64ok n) (hs : i64ok s) (hv : BSl w iv l) (hl : l.length ≤ 140737488355000) (hg : goodGeo n s = true) (hm : l.length = n.toNat * s.toNat) :
    Calls Tryz.prog 8 #[.agg #[.bool true, .int .i64 n, .int .i64 s, iv]] w fun e w' => MadePost w e w' := by
  have M0 := hide (MkAt.start w true n s iv)
  have HV := hide hv
  have HL := hide hl
  have HG := hide hg
  have HM := hide hm
  clear hm
  have HN := hide hn
  have HS := hide hs
  clear hv hl hg hn hs
  go_enter Tryz.func8, Tryz.ntmps8
  go_wp2_with fail
  have HV1 := hide (HV.out.below M0.out.be)
  refine (hand_any _ iv l HV1.out (by have := HL.out; omega)).mono ?_
  rintro e w1 ⟨rfl, hp1, hb1⟩
  have M1 := hide (M0.out.kept hb1)
  have HV2 := hide (HV1.out.below hb1)
  generalize hW : ((w.alloc (.cells #[.bool true, .int .i64 n, .int .i64 s, iv] 24)).alloc _) = wA at *
  clear hW
  have HP1 := hide hp1
  have HB1 := hide hb1
  have HW1 : Hid (w.heap.size + 1 < wA.heap.size) := hide (Array.getElem?_eq_some_iff.1 M0.out.row).1
  clear hp1 hb1
  have bd : Below w1.heap.size w1 w1.drew := Below.drew (Below.refl _ _)
  have M2 := hide (M1.out.kept bd)
  have HP2 := hide (HP1.out.kept (w' := w1.drew) rfl)
  have HV3 := hide (HV2.out.below bd)
  have HA := hide (arg_any HV3.out HP2.out (by have := HL.out; omega))
  have HK := hide (fun u hu => kLoad w1.drew n s u l hu)
  clear bd
  obtain ⟨c00, c01, c02, c03, c04, c05, c06, c07⟩ := M1.out.cells
  obtain ⟨d00, d01, d02, d03, d04, d05, d06, d07⟩ := M2.out.cells
  unfold sl at *
  go_wp2_with fail
  go_region_held3 (fun w' => w'.cell? ⟨w.heap.size, 1, none⟩ = some (.int .i64 n) ∧ w'.cell? ⟨w.heap.size, 2, none⟩ = some (.int .i64 s) ∧ w'.cell? ⟨w.heap.size, 3, none⟩ = some iv) (first | exact ⟨c01, c02, c03⟩ | exact ⟨d01, d02, d03⟩ | exact ⟨e01, e02, e03⟩ | exact ⟨g01, g02, g03⟩ | assumption)
    (first
      | (go_at_call 15; refine HA.out.mono ?_; rintro e w2 ⟨u, rfl, rfl, hu, hg⟩; have HU := hide hu; clear hu hg)
      | (go_at_call 14; refine (HK.out _ HU.out).mono ?_; rintro e w2 ⟨-, -, h1⟩; obtain ⟨L, he, hD1, hB2, hU1⟩ := h1 HG.out HM.out; clear h1; unfold PD at he; subst he; have M2' := hide (M2.out.kept hB2); have M3 := hide (M2'.out.setD (.pointer (some ⟨L.p, 0, none⟩))); have HD1 := hide hD1; have HB2 := hide hB2; have HU1 := hide hU1; clear hD1 hB2 hU1; obtain ⟨g00, g01, g02, g03, g04, g05, g06, g07⟩ := M2'.out.cells; obtain ⟨e00, e01, e02, e03, e04, e05, e06, e07⟩ := M3.out.cells))
  have HP2' := hide (HP2.out.kept (HB2.out.block _ HP2.out.lt))
  have HP3 : Hid (PieceAt (w2.setCell ⟨w.heap.size + 1, 0, none⟩ (.pointer (some ⟨L.p, 0, none⟩))) wA.heap.size (l ++ marks)) := hide (HP2'.out.kept (Go.heap_setCell_other _ _ _ _ (show wA.heap.size ≠ w.heap.size + 1 by have := HW1.out; omega)))
  have nD : Hid (¬ L.U (w.heap.size + 1) ∧ ¬ L.U wA.heap.size) := hide ⟨fun hu => by have := HU1.out _ hu; have := HP2.out.lt; have := HW1.out; omega, fun hu => by have := HU1.out _ hu; have := HP2.out.lt; omega⟩
  have HDB : Hid (Rep (w2.setCell ⟨w.heap.size + 1, 0, none⟩ (.pointer (some ⟨L.p, 0, none⟩))) L (St.fresh n.toNat s.toNat (cutOf l s.toNat))) := hide (HD1.out.kept (fun x hx => Go.heap_setCell_other _ _ _ _ fun e : x = w.heap.size + 1 => nD.out.1 (e ▸ hx)) (by simp [World.setCell]))
  generalize hWB : w2.setCell ⟨w.heap.size + 1, 0, none⟩ (.pointer (some ⟨L.p, 0, none⟩)) = wB at *
  clear hWB c00 c01 c02 c03 c04 c05 c06 c07 d00 d01 d02 d03 d04 d05 d06 d07
  clear g00 g01 g02 g03 g04 g05 g06 g07
  have HR := hide (rLoad wB n s HN.out HS.out iv l (HV.out.below M3.out.be))
  go_wp2_with fail
  refine HR.out.mono ?_
  rintro e w3 ⟨-, -, h1⟩
  obtain ⟨RL, he, hD3, hB3, hU3⟩ := h1 HG.out HM.out
  unfold PR at he
  subst he
  have HB3 := hide hB3
  have HD3 := hide hD3
  have HU3 := hide hU3
  clear hB3 hD3 hU3
  have lB : w.heap.size + 1 < wB.heap.size := (Array.getElem?_eq_some_iff.1 M3.out.row).1
  have nR : Hid (¬ RL.U (w.heap.size + 1) ∧ ¬ RL.U wA.heap.size) := hide ⟨fun hu => by have := HU3.out _ hu; omega, fun hu => by have := HU3.out _ hu; have := HP3.out.lt; omega⟩
  have AP : Hid (∀ x, L.U x → ¬ RL.U x) := hide fun x h1 h2 => by have := HDB.out.uLt x h1; have := HU3.out x h2; omega
  have UD : Hid (∀ x, L.U x → w.heap.size ≤ x) := hide fun x h1 => by have := HU1.out x h1; have := HP2.out.lt; have := HW1.out; omega
  have UR : Hid (∀ x, RL.U x → w.heap.size ≤ x) := hide fun x h1 => by have := HU3.out x h1; omega
  clear lB
  clear h1 HR e00 e01 e02 e03 e04 e05 e06 e07
  have M3b := hide (M3.out.kept HB3.out)
  have HP3b := hide (HP3.out.kept (HB3.out.block _ HP3.out.lt))
  have HDC : Hid (Rep (w3.setCell ⟨w.heap.size + 1, 1, none⟩ (.pointer (some ⟨RL.p, 0, none⟩))) L (St.fresh n.toNat s.toNat (cutOf l s.toNat))) := hide ((HDB.out.below HB3.out).kept (fun x hx => Go.heap_setCell_other _ _ _ _ fun e : x = w.heap.size + 1 => nD.out.1 (e ▸ hx)) (by simp [World.setCell]))
  have HRC : Hid (RD (w3.setCell ⟨w.heap.size + 1, 1, none⟩ (.pointer (some ⟨RL.p, 0, none⟩))) RL (St.fresh n.toNat s.toNat (cutOf l s.toNat)) (-1)) := hide (HD3.out.kept (fun x hx => Go.heap_setCell_other _ _ _ _ fun e : x = w.heap.size + 1 => nR.out.1 (e ▸ hx)) (by simp [World.setCell]))
  have M4 := hide (M3b.out.setR (.pointer (some ⟨RL.p, 0, none⟩)))
  have HP4 : Hid (PieceAt (w3.setCell ⟨w.heap.size + 1, 1, none⟩ (.pointer (some ⟨RL.p, 0, none⟩))) wA.heap.size (l ++ marks)) := hide (HP3b.out.kept (Go.heap_setCell_other _ _ _ _ (show wA.heap.size ≠ w.heap.size + 1 by have := HW1.out; omega)))
  obtain ⟨e00, e01, e02, e03, e04, e05, e06, e07⟩ := M3b.out.cells
  obtain ⟨f00, f01, f02, f03, f04, f05, f06, f07⟩ := M4.out.cells
  have HUN := hide (untouched_any (HV.out.below M4.out.be) HP4.out (by have := HL.out; omega))
  unfold sl at HUN
  go_wp2_with (go_at_call 17; refine HUN.out.mono ?_; rintro e w5 ⟨rfl, k5, hw5⟩; have HW5 := hide hw5; clear hw5)
  have hb5 : Below (w3.setCell ⟨w.heap.size + 1, 1, none⟩ (.pointer (some ⟨RL.p, 0, none⟩))).heap.size (w3.setCell ⟨w.heap.size + 1, 1, none⟩ (.pointer (some ⟨RL.p, 0, none⟩))) w5 := by rw [HW5.out]; exact below_drewN (Below.refl _ _) k5
  have M5 := hide (M4.out.kept hb5)
  have HP5 := hide (HP4.out.kept (hb5.block _ HP4.out.lt))
  have HD5 := hide (HDC.out.below hb5)
  have HR5 := hide (HRC.out.below hb5)
  clear hb5 e00 e01 e02 e03 e04 e05 e06 e07 f00 f01 f02 f03 f04 f05 f06 f07 HUN HA HK
  have hsz : (l ++ marks).length = l.length + 6 := by simp [marks]
  have ST : Hid (FInv2 w5 w5 0 wA.heap.size (l.length + 6)) := hide ⟨rfl, rfl, rfl, rfl, fun _ _ => rfl, _, hsz, HP5.out⟩
  clear hsz
  have HLL : Hid (l.length + 6 ≤ 140737488355006) := hide (by have := HL.out; omega)
  generalize l.length + 6 = ln at *
  go_loopw [8] (fun x wr => ∃ i : Nat, i ≤ ln ∧ x = .int .i64 (i : Int) ∧ FInv2 w5 wr 0 wA.heap.size ln) (fun x _ => ln - (intOf x).toNat)
  case atStart => exact ⟨0, Nat.zero_le _, rfl, ST.out⟩
  case round =>
    clear ST
    obtain ⟨i, hin, rfl, hF⟩ := hrel
    have HF := hide hF
    clear hF
    have hll := HLL.out
    by_cases hlt : i < ln
    · obtain ⟨x, hx, hcx, hfx, hN⟩ := HF.out.xor hlt
      have HNX := hide hN
      clear hN
      have hxo := u8_xor_nat x 255 hx (by decide)
      rw [show ((255 : Nat) : Int) = 255 from rfl] at hxo
      go_wp2
      go_roundw
      case rel => exact ⟨i + 1, by omega, by go_num, HNX.out⟩
      case measure => simp [intOf]; omega
    · have hkp : ∀ b, b ≠ wA.heap.size → wr.heap[b]? = w5.heap[b]? := HF.out.keep
      have M6 : Hid (MkAt w wr true n s iv (.pointer (some ⟨L.p, 0, none⟩)) (.pointer (some ⟨RL.p, 0, none⟩))) := hide ⟨(hkp _ (by have := HW1.out; omega)).trans M5.out.box, (hkp _ (by have := HW1.out; omega)).trans M5.out.row, ⟨HF.out.os.trans M5.out.be.os, HF.out.tape.trans M5.out.be.tape, HF.out.output.trans M5.out.be.output, by rw [HF.out.size]; exact M5.out.be.size, fun b hb => (hkp b (by have := HW1.out; omega)).trans (M5.out.be.block b hb)⟩⟩
      have HD6 := hide (HD5.out.kept (w' := wr.drew) (fun x hx => hkp x fun e => nD.out.2 (e ▸ hx)) (Nat.le_of_eq HF.out.size.symm))
      have HR6 := hide (HR5.out.kept (w' := wr.drew) (fun x hx => hkp x fun e => nR.out.2 (e ▸ hx)) (Nat.le_of_eq HF.out.size.symm))
      obtain ⟨-, -, -, -, c24, c25, -, -⟩ := M6.out.cells
      clear hkp
      go_wp2_with fail
      go_region_held3 (fun w' => w'.cell? ⟨w.heap.size + 1, 0, none⟩ = some (.pointer (some ⟨L.p, 0, none⟩)) ∧ w'.cell? ⟨w.heap.size + 1, 1, none⟩ = some (.pointer (some ⟨RL.p, 0, none⟩))) (first | exact ⟨c24, c25⟩ | assumption) (fail)
      go_wp2
      go_ret2
      have M7 := M6.out.kept (Below.drew (Below.refl _ _))
      exact ⟨w.heap.size + 1, rfl, M7.be, by omega, .inr ⟨_, PAll.new (L := L) (RL := RL) HD6.out HR6.out M7.row M7.be UD.out UR.out (by omega) AP.out nD.out.1 nR.out.1, fun k => rfl⟩⟩
end Go.Proofs.YtlpmpicmpklaoacGreat
