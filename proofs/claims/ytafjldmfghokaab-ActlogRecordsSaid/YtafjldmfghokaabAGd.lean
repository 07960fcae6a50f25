import Derived.Test.YtafjldmfghokaabAGc
namespace Go.Proofs.Ytafjldmfghokaab
open Go.RowKit Go.Sort
open Num
set_option linter.unusedVariables false
set_option linter.unusedSimpArgs false
set_option maxRecDepth 20000

theorem conv_const (w : World) (C : Array Value) (n c g : Nat) (hg : g = w.heap.size) : (convert 39 39 (.slice (some ⟨g, 0, none⟩) n c)).run Try.prog (w.alloc (.cells C 5)) = .ok (.slice (some ⟨g, 0, none⟩) n c) (w.alloc (.cells C 5 (C.size, C.size + 1))) :=
  Joins.run_convert_bytes_const_at w 39 5 C n c g hg Try.underlying39 (by kernel_rfl)
def slN : Value → Nat
  | .slice _ n _ => n
  | _ => 0
theorem u32N_nat (n : Nat) (h : n < 4294967296) : u32N (n : Int) = n := by unfold u32N; omega
theorem GBy.low {w w1 wr : World} {v : Value} {bs : List Nat} (h : GBy w1 wr v bs) (hb : Below w.heap.size w w1) : GBy w wr v bs :=
  ⟨h.st, hb.trans (h.be.mono hb.size), fun b e => Nat.le_trans hb.size (h.nw b e), h.by'⟩
theorem ctx_at (zs : List Int) (start j : Nat) (hj : j < 4) : (ctxL zs start).getD j 0 = zs.getD ((start + j) % zs.length) 0 := by
  unfold ctxL
  simp [List.getD, hj]
set_option maxHeartbeats 4000000 in
theorem rRecord_any {w : World} {sv : Value} {zs : List Int} (size num age c0 c1 : Nat) (c2 : Int) (start : Nat) (hs : w.ownsRow 0 3 1 sv zs.length (zs.map iV)) (h1 : 1 ≤ zs.length) (h2 : zs.length ≤ 16) (hz : ∀ z ∈ zs, z = -1 ∨ (0 ≤ z ∧ z < 4294967296)) (hsz : 128 ≤ size ∧ size ≤ 1024) (hn : num < 4294967296) (ha : age < 65536) (hc0 : c0 < 4294967296) (hc1 : c1 < 4294967296) (hc2 : c2 = -1 ∨ (0 ≤ c2 ∧ c2 < 4294967296)) (hst : start < zs.length) :
    Calls Try.prog 106 #[.int .i64 (size : Int), .int .u32 (num : Int), .int .i64 (age : Int), sv, .agg #[.int .i64 (c0 : Int), .int .i64 (c1 : Int), .int .i64 c2], .int .i64 (start : Int)] w fun e w' => ∃ v, e = .returned v ∧ GBy w w' v (recB size num age zs.length (c0 : Int) (c1 : Int) c2 start (ctxL zs start)) := by
  obtain ⟨hsz1, hsz2⟩ := hsz
  have hs' : w.ownsRow 0 3 1 sv (zs.map iV).length (zs.map iV) := by rw [List.length_map]; exact hs
  obtain ⟨g, cap, esv, -⟩ := rowCell hs' (j := 0) (x := iV (zs.getD 0 0)) (by rw [List.getElem?_map, List.getElem?_eq_getElem (by omega)]; simp [List.getD, show 0 < zs.length by omega])
  rw [List.length_map] at esv
  subst esv
  obtain ⟨a', cap', e', hl1, hl2⟩ := rowForm hs
  simp only [Value.slice.injEq] at e'
  obtain ⟨-, -, rfl⟩ := e'
  unfold maxLen at hl2
  have HCELL : Hid (∀ x, Below w.heap.size w x → ∀ j, j < zs.length → x.cell? ⟨g, j, none⟩ = some (.int .i64 (zs.getD j 0))) := hide fun x hx j hj => by
    have h5 := (rowKept (w' := x) hs fun b e => hx.block b (hs.lt b e).2).cellAt (g := g) j (by omega)
    rw [h5, List.getElem?_map, List.getElem?_eq_getElem hj]
    simp [iV, List.getD, hj]
  have HZ := hide hz
  clear hs hs' hz
  have HBW : Hid (Below w.heap.size w (w.alloc (.cells #[.int .i64 (c0 : Int), .int .i64 (c1 : Int), .int .i64 c2] 38))) := hide ((Below.refl _ _).alloc (Nat.le_refl _) _)
  have HP : Hid (∀ x v bs n k, GBy (w.alloc (.cells #[.int .i64 (c0 : Int), .int .i64 (c1 : Int), .int .i64 c2] 38)) x v bs → n < 18446744073709551616 → k ≤ 8 → bs.length ≤ 5000 → _) := hide fun x v bs n k (h : GBy (w.alloc (.cells #[.int .i64 (c0 : Int), .int .i64 (c1 : Int), .int .i64 c2] 38)) x v bs) (hx : n < 18446744073709551616) (hk : k ≤ 8) (hl : bs.length ≤ 5000) => rput_any n k hx hk h hl
  have HBX : Hid (∀ x v bs, GBy (w.alloc (.cells #[.int .i64 (c0 : Int), .int .i64 (c1 : Int), .int .i64 c2] 38)) x v bs → ∀ i, x.cell? ⟨w.heap.size, i, none⟩ = (#[.int .i64 (c0 : Int), .int .i64 (c1 : Int), .int .i64 c2] : Array Value)[i]?) := hide fun x v bs h i => by
    refine cell_of_row _ _ _ _ _ _ ((h.be.block w.heap.size (by simp)).trans (Go.heap_alloc_new _ _))
  have hcv : (convert 39 39 (.slice (some ⟨w.heap.size + 1, 0, none⟩) 4 4)).run Try.prog ((w.alloc (.cells #[.int .i64 (c0 : Int), .int .i64 (c1 : Int), .int .i64 c2] 38)).alloc (.cells #[.int .u8 97, .int .u8 99, .int .u8 116, .int .u8 108] 5)) = .ok (.slice (some ⟨w.heap.size + 1, 0, none⟩) 4 4) ((w.alloc (.cells #[.int .i64 (c0 : Int), .int .i64 (c1 : Int), .int .i64 c2] 38)).alloc (.cells #[.int .u8 97, .int .u8 99, .int .u8 116, .int .u8 108] 5 (4, 5))) := conv_const _ _ 4 4 _ (by simp)
  have H0 : Hid (GBy (w.alloc (.cells #[.int .i64 (c0 : Int), .int .i64 (c1 : Int), .int .i64 c2] 38)) ((w.alloc (.cells #[.int .i64 (c0 : Int), .int .i64 (c1 : Int), .int .i64 c2] 38)).alloc (.cells #[.int .u8 97, .int .u8 99, .int .u8 116, .int .u8 108] 5 (4, 5))) (.slice (some ⟨w.heap.size + 1, 0, none⟩) 4 4) [97, 99, 116, 108]) := hide (by
    refine ⟨.inr ⟨w.heap.size + 1, rfl, by simp, fun j u hu => ?_⟩, (Below.refl _ _).alloc (Nat.le_refl _) _, fun b e => by simp [Value.ownBlock] at e; simp; omega, by simp⟩
    have := Go.heap_alloc_new (w.alloc (.cells #[.int .i64 (c0 : Int), .int .i64 (c1 : Int), .int .i64 c2] 38)) (.cells #[.int .u8 97, .int .u8 99, .int .u8 116, .int .u8 108] 5 (4, 5))
    rw [World.size_alloc] at this
    rw [cell_of_row _ _ _ _ _ _ this]
    simpa [byV] using hu)
  have HT2 := hide fun x => told_any x c2 hc2
  have hnx : IntKind.i64.wrap (num : Int) = (num : Int) := by simp [IntKind.wrap, IntKind.bits, IntKind.signed]; omega
  have hu0 := u32N_nat c0 hc0
  have hu1 := u32N_nat c1 hc1
  have HU := hide (And.intro hu0 hu1)
  clear hu0 hu1 hc2
  go_enter Try.func106, Try.ntmps106
  go_wp2_with (first
    | (go_at_call 128; refine (HP.out _ _ _ num 4 H0.out (by omega) (by omega) (by simp)).mono ?_; rintro e x1 ⟨v1, rfl, q⟩; have H1 := hide q; clear q H0)
    | (go_at_call 128; refine (HP.out _ _ _ age 2 H1.out (by omega) (by omega) (by simp [be_len])).mono ?_; rintro e x2 ⟨v2, rfl, q⟩; have H2 := hide q; clear q H1)
    | (go_at_call 128; refine (HP.out _ _ _ zs.length 2 H2.out (by omega) (by omega) (by simp [be_len])).mono ?_; rintro e x3 ⟨v3, rfl, q⟩; have H3 := hide q; have d0 : x3.cell? ⟨w.heap.size, 0, none⟩ = some (.int .i64 (c0 : Int)) := HBX.out _ _ _ q 0; clear q H2)
    | (go_at_call 128; refine (HP.out _ _ _ c0 4 H3.out (by omega) (by omega) (by simp [be_len])).mono ?_; rintro e x4 ⟨v4, rfl, q⟩; have H4 := hide q; have d1 : x4.cell? ⟨w.heap.size, 1, none⟩ = some (.int .i64 (c1 : Int)) := HBX.out _ _ _ q 1; clear q H3 d0)
    | (go_at_call 128; refine (HP.out _ _ _ c1 4 H4.out (by omega) (by omega) (by simp [be_len])).mono ?_; rintro e x5 ⟨v5, rfl, q⟩; have H5 := hide q; have d2 : x5.cell? ⟨w.heap.size, 2, none⟩ = some (.int .i64 c2) := HBX.out _ _ _ q 2; clear q H4 d1)
    | (go_at_call 129; refine (HT2.out _).mono ?_; rintro e y ⟨rfl, rfl⟩; clear HT2)
    | (go_at_call 128; refine (HP.out _ _ _ (u32N c2) 4 H5.out (by have := u32N_lt c2; omega) (by omega) (by simp [be_len])).mono ?_; rintro e x6 ⟨v6, rfl, q⟩; have H6 := hide q; clear q H5 d2)
    | (go_at_call 128; refine (HP.out _ _ _ start 4 H6.out (by omega) (by omega) (by simp [be_len])).mono ?_; rintro e x7 ⟨v7, rfl, q⟩; have H7 := hide q; clear q H6))
  clear hcv hnx
  obtain ⟨PRE, hP1, hP2⟩ : ∃ PRE : List Nat, PRE = [97, 99, 116, 108] ++ be num 4 ++ be age 2 ++ be zs.length 2 ++ be c0 4 ++ be c1 4 ++ be (u32N c2) 4 ++ be start 4 ∧ PRE.length = 28 := ⟨_, rfl, by simp [be_len]⟩
  rw [← hP1] at H7
  have HP1 := hide hP1
  have HP2 := hide hP2
  clear hP1 hP2
  go_loopw [13, 14] (fun lv x wr => ∃ j : Nat, j ≤ 4 ∧ x = .int .i64 (j : Int) ∧ GBy (w.alloc (.cells #[.int .i64 (c0 : Int), .int .i64 (c1 : Int), .int .i64 c2] 38)) wr lv (PRE ++ preC (ctxL zs start) j)) (fun _ x _ => 4 - (intOf x).toNat)
  case atStart => exact ⟨0, by omega, rfl, by simpa [preC] using H7.out⟩
  case round =>
    clear H7
    obtain ⟨j, hj, rfl, hg⟩ := hrel
    have HG := hide hg
    clear hg
    by_cases hlt : j < 4
    · have hidx : ((start : Int) + (j : Int)) % (zs.length : Int) = (((start + j) % zs.length : Nat) : Int) := by simp
      have hil : (start + j) % zs.length < zs.length := Nat.mod_lt _ (by omega)
      have hcell := HCELL.out wr (HBW.out.trans (HG.out.be.mono HBW.out.size)) _ hil
      have HTO := hide fun x => told_any x (zs.getD ((start + j) % zs.length) 0) (HZ.out _ (by simp [List.getD, hil]))
      have HNX : Hid (PRE ++ preC (ctxL zs start) (j + 1) = (PRE ++ preC (ctxL zs start) j) ++ be (u32N (zs.getD ((start + j) % zs.length) 0)) 4) := hide (by rw [preC_succ, ctx_at zs start j hlt, List.append_assoc])
      have HLN : Hid ((PRE ++ preC (ctxL zs start) j).length ≤ 5000) := hide (by rw [List.length_append, preC_len, HP2.out]; omega)
      have hnz : ¬ (zs.length : Int) = 0 := by omega
      have hil2 : (((start + j) % zs.length : Nat) : Int) < (zs.length : Int) := by omega
      generalize zs.getD ((start + j) % zs.length) 0 = z at *
      generalize (start + j) % zs.length = k at *
      go_wp2_with (first
        | (go_at_call 129; refine (HTO.out _).mono ?_; rintro e y ⟨rfl, rfl⟩; clear HTO)
        | (go_at_call 128; refine (HP.out _ _ _ (u32N z) 4 HG.out (by have := u32N_lt z; omega) (by omega) HLN.out).mono ?_; rintro e y ⟨v', rfl, q⟩; have HG2 := hide q; clear q HG))
      go_roundw
      case rel => exact ⟨j + 1, by omega, by go_num, by rw [HNX.out]; exact HG2.out⟩
      case measure => simp [intOf]; omega
    · have e4 : j = 4 := by omega
      have HE : Hid (∀ k, PRE ++ preC (ctxL zs start) j ++ List.replicate k 0 = [97, 99, 116, 108] ++ be num 4 ++ be age 2 ++ be zs.length 2 ++ be (u32N (c0 : Int)) 4 ++ be (u32N (c1 : Int)) 4 ++ be (u32N c2) 4 ++ be start 4 ++ be (u32N ((ctxL zs start).getD 0 0)) 4 ++ be (u32N ((ctxL zs start).getD 1 0)) 4 ++ be (u32N ((ctxL zs start).getD 2 0)) 4 ++ be (u32N ((ctxL zs start).getD 3 0)) 4 ++ List.replicate k 0) := hide fun k => by
        rw [HU.out.1, HU.out.2, HP1.out, e4]
        simp [preC, List.range_succ]
      have HL : Hid ((PRE ++ preC (ctxL zs start) j).length = 44) := hide (by rw [List.length_append, preC_len, HP2.out, e4])
      have HFIN : Hid (recH size num age zs.length (c0 : Int) (c1 : Int) c2 start (ctxL zs start) = PRE ++ preC (ctxL zs start) j ++ List.replicate (size - 48) 0) := hide (HE.out _).symm
      have HRB : Hid (recB size num age zs.length (c0 : Int) (c1 : Int) c2 start (ctxL zs start) = recH size num age zs.length (c0 : Int) (c1 : Int) c2 start (ctxL zs start) ++ be (crcM 0 (recH size num age zs.length (c0 : Int) (c1 : Int) c2 start (ctxL zs start))) 4) := hide rfl
      rw [HFIN.out] at HRB
      clear HE HFIN HP1 HP2 HU HCELL HZ HBX
      generalize PRE ++ preC (ctxL zs start) j = B44 at *
      have hj4 : ¬ (j : Int) < 4 := by omega
      clear e4 hlt hj
      go_wp2_with fail
      go_loopw [13] (fun lv wr => ∃ k : Nat, k + 48 ≤ size ∧ GBy (w.alloc (.cells #[.int .i64 (c0 : Int), .int .i64 (c1 : Int), .int .i64 c2] 38)) wr lv (B44 ++ List.replicate k 0)) (fun lv _ => size - slN lv)
      case atStart => exact ⟨0, by omega, by simpa using HG.out⟩
      case round =>
        clear HG
        obtain ⟨k, hk, hg⟩ := hrel
        have hlen : (B44 ++ List.replicate k 0).length = 44 + k := by rw [List.length_append, HL.out]; simp
        obtain ⟨a1, cp1, e1, q1, q2⟩ := hg.form (by rw [hlen]; unfold maxLen; omega)
        rw [hlen] at e1
        subst e1
        have HG := hide hg
        clear hg
        rw [hlen] at q1
        unfold maxLen at q2
        by_cases hlt : 44 + k < size - 4
        · have HNX : Hid (∀ v' w', GBy (w.alloc (.cells #[.int .i64 (c0 : Int), .int .i64 (c1 : Int), .int .i64 c2] 38)) w' v' (B44 ++ List.replicate k 0 ++ [0]) → GBy (w.alloc (.cells #[.int .i64 (c0 : Int), .int .i64 (c1 : Int), .int .i64 c2] 38)) w' v' (B44 ++ List.replicate (k + 1) 0)) := hide fun v' w' h => by
            rw [List.replicate_succ', ← List.append_assoc]; exact h
          have hl5 : (B44 ++ List.replicate k 0).length ≤ 100000 := by omega
          have HLE := hide hlen
          clear hlen
          generalize B44 ++ List.replicate k 0 = BK at *
          go_wp2_with (at_builtin; refine wpList_appY rfl (.tmp 65) (.tmp 66) rfl 0 rfl rfl HG.out (by omega) hl5 ?_)
          intro v' w1 h1
          have R := hide (HNX.out _ _ h1)
          obtain ⟨a2, cp2, e2, -, -⟩ := h1.form (by simp; unfold maxLen; omega)
          rw [List.length_append, HLE.out] at e2
          subst e2
          clear h1 HNX HG HLE
          go_wp2_with fail
          go_roundw
          case rel => exact ⟨k + 1, by omega, R.out⟩
          case measure => simp [slN]; omega
        · have ek : k = size - 48 := by omega
          have HRR : Hid (∀ v' w', GBy (w.alloc (.cells #[.int .i64 (c0 : Int), .int .i64 (c1 : Int), .int .i64 c2] 38)) w' v' (B44 ++ List.replicate k 0 ++ be (crcM 0 (B44 ++ List.replicate k 0)) 4) → GBy w w' v' (recB size num age zs.length (c0 : Int) (c1 : Int) c2 start (ctxL zs start))) := hide fun v' w' h => by
            rw [HRB.out, ← ek]; exact h.low HBW.out
          have HCR := hide (refCrc_any _ _ wr (HG.out.sl (by rw [hlen]; unfold maxLen; omega)))
          have HCL := hide (crcM_lt (c := 0) (B44 ++ List.replicate k 0) (by omega) HG.out.by')
          have HLE : Hid ((B44 ++ List.replicate k 0).length ≤ 5000) := hide (by omega)
          clear hlen HRB ek
          generalize B44 ++ List.replicate k 0 = BK at *
          generalize crcM 0 BK = cr at *
          have hcr : IntKind.i64.wrap (cr : Int) = (cr : Int) := by have := HCL.out; simp [IntKind.wrap, IntKind.bits, IntKind.signed]; omega
          go_wp2_with (first
            | (go_at_call 130; refine HCR.out.mono ?_; rintro e y ⟨rfl, rfl⟩; clear HCR)
            | (go_at_call 128; refine (HP.out _ _ _ cr 4 HG.out (by have := HCL.out; omega) (by omega) HLE.out).mono ?_; rintro e y ⟨v', rfl, q⟩; have HG2 := hide (HRR.out _ _ q); clear q HG))
          go_ret
          exact ⟨_, rfl, HG2.out⟩
end Go.Proofs.Ytafjldmfghokaab
