import Derived.Test.YtdjdcpldofmdjaaCRp
namespace Go.Proofs.Ytdjdcpldofmdjaa
open Go.RowKit
set_option linter.unusedVariables false
set_option linter.unusedSimpArgs false
set_option maxRecDepth 20000

set_option maxHeartbeats 4000000 in
theorem parts_any (w : World) : Calls Try.prog 20 #[] w fun e w' => ∃ v, e = .returned v ∧ RPs w' v ∧ Below w.heap.size w w' := by
  obtain ⟨i0, hi0, hz0, hz1, hz2⟩ := infoPs
  go_enter Try.func20, Try.ntmps20
  go_wp2_with fail
  generalize hw0 : World.alloc _ _ = w0
  have hf : List.foldl World.alloc w [_, _, _, _, _, _, _, _] = w0 := hw0
  clear hw0
  obtain ⟨hsz, hbl, hat⟩ := blk_of hf (by simp)
  have f0 := hat 0 _ rfl
  have f1 := hat 1 _ rfl
  have f2 := hat 2 _ rfl
  have f3 := hat 3 _ rfl
  have f4 := hat 4 _ rfl
  have f5 := hat 5 _ rfl
  have f6 := hat 6 _ rfl
  have f7 := hat 7 _ rfl
  clear hf hat
  replace hsz : w0.heap.size = w.heap.size + 8 := hsz
  have HBL := hide hbl
  clear hbl
  generalize hN : w.heap.size = N at *
  have HNN := hide hN
  clear hN
  have c0 : WdL w0 (.slice (some ⟨N, 0, none⟩) 8 8) connsN := wdl_new f0 rfl (by decide) (by
    intro i hi
    have hc : i = 0 ∨ i = 1 ∨ i = 2 ∨ i = 3 ∨ i = 4 ∨ i = 5 ∨ i = 6 ∨ i = 7 := by omega
    rcases hc with rfl | rfl | rfl | rfl | rfl | rfl | rfl | rfl <;> rfl)
  have c1 : WdL w0 (.slice (some ⟨N + 1, 0, none⟩) 2 2) rolesN := wdl_new f1 rfl (by decide) (by
    intro i hi
    have hc : i = 0 ∨ i = 1 := by omega
    rcases hc with rfl | rfl <;> rfl)
  have c2 : WdL w0 (.slice (some ⟨N + 2, 0, none⟩) 3 3) peersN := wdl_new f2 rfl (by decide) (by
    intro i hi
    have hc : i = 0 ∨ i = 1 ∨ i = 2 := by omega
    rcases hc with rfl | rfl | rfl <;> rfl)
  have c3 : WdL w0 (.slice (some ⟨N + 3, 0, none⟩) 3 3) disksN := wdl_new f3 rfl (by decide) (by
    intro i hi
    have hc : i = 0 ∨ i = 1 ∨ i = 2 := by omega
    rcases hc with rfl | rfl | rfl <;> rfl)
  have c4 : WdL w0 (.slice (some ⟨N + 4, 0, none⟩) 4 4) pdsksN := wdl_new f4 rfl (by decide) (by
    intro i hi
    have hc : i = 0 ∨ i = 1 ∨ i = 2 ∨ i = 3 := by omega
    rcases hc with rfl | rfl | rfl | rfl <;> rfl)
  have c5 : WdL w0 (.slice (some ⟨N + 5, 0, none⟩) 3 3) protsN := wdl_new f5 rfl (by decide) (by
    intro i hi
    have hc : i = 0 ∨ i = 1 ∨ i = 2 := by omega
    rcases hc with rfl | rfl | rfl <;> rfl)
  have HRP : Hid (∀ wr v, PB N w0 wr v 30 (fstL N ++ numL 9) → RPs wr v) := hide fun wr v h => rps_of h hsz c0 c1 c2 c3 c4 c5
  have HS : Hid (PB N w0 w0 (.slice (some ⟨N + 6, 0, none⟩) 12 12) 12 (fstL N ++ numL 0)) := hide ⟨by
    refine ⟨rfl, .inr ⟨N + 6, 12, _, rfl, Nat.zero_le _, f6, Nat.le_refl _, by decide, rfl, ?_⟩⟩
    rfl, Chg.refl _ _, fun b e => by simp [Value.ownBlock] at e; exact .inl e.symm⟩
  have HNM : Hid (∀ wr, Chg (fun b => b = N + 6) w0 wr → ∀ i, i < 9 → wr.cell? ⟨N + 7, i, none⟩ = some (.string (nmsL.getD i ⟨#[]⟩))) := hide fun wr hc i hi => by
    rw [World.cell?_of_block (hc.keep (N + 7) (by omega) (by omega)), cell_of_row _ _ _ _ _ _ f7]
    have hc : i = 0 ∨ i = 1 ∨ i = 2 ∨ i = 3 ∨ i = 4 ∨ i = 5 ∨ i = 6 ∨ i = 7 ∨ i = 8 := by omega
    rcases hc with rfl | rfl | rfl | rfl | rfl | rfl | rfl | rfl | rfl <;> rfl
  have HSZ := hide hsz
  clear c0 c1 c2 c3 c4 c5 f0 f1 f2 f3 f4 f5 f6 f7 hsz
  go_loopw [6, 8] (fun lv y wr => ∃ i : Nat, i ≤ 9 ∧ y = .int .i64 (i : Int) ∧ PB N w0 wr lv (12 + 2 * i) (fstL N ++ numL i)) (fun _ y _ => 9 - (intOf y).toNat)
  case atStart => exact ⟨0, by omega, rfl, HS.out⟩
  case round =>
    obtain ⟨i, hi, rfl, hP⟩ := hrel
    obtain ⟨al, cl, rfl, hl1, hl2⟩ := rowForm hP.own
    have HP := hide hP
    by_cases hlt : i < 9
    · have c1 : wr.cell? ⟨N + 1 + 1 + 1 + 1 + 1 + 1 + 1, i, none⟩ = some (.string (nmsL.getD i ⟨#[]⟩)) := HNM.out wr hP.chg i hlt
      obtain ⟨hld, hsm⟩ := nms_lead i hlt
      have hii : 0 ≤ (i : Int) ∧ (i : Int) < 9 := ⟨by omega, by omega⟩
      have hil : (i : Int) < 9 := by omega
      have HLD := hide hld
      generalize nmsL.getD i ⟨#[]⟩ = s at *
      clear hP hld HS HRP
      have HPA := hide (HP.out.alloc (.cells #[.string ((⟨#[32]⟩ : ByteArray) ++ s ++ ⟨#[58]⟩), .slice none 0 0, .bool false] 56))
      have o3 := HPA.out.own
      go_wp2_with (at_builtin; refine wpList_appendC _ rfl (.tmp 38) (.tmp 45) 49 rfl 56 i0 _ 3 48 Try.underlying49 hi0 hz0 hz1 hz2 rfl (by decide) _ _ _ rfl o3 ⟨wr.heap.size, 0, none⟩ 1 1 [.string ((⟨#[32]⟩ : ByteArray) ++ s ++ ⟨#[58]⟩), .slice none 0 0, .bool false] rfl rfl (by decide) (cells_new _ _ _ _ rfl) (by simp [Value.oneCell']) (by unfold maxLen; omega) (by omega) ?_)
      intro v4 w4 ho4 hup4
      have HP4 := hide (HPA.out.upon HSZ.out hup4 ho4)
      clear ho4 hup4 o3 HPA c1
      obtain ⟨al4, cl4, rfl, hl41, hl42⟩ := rowForm HP4.out.own
      have HP5 := hide (HP4.out.alloc (.cells #[.string ⟨#[]⟩, .slice none 0 0, .bool true] 56))
      have o5 := HP5.out.own
      go_wp2_with (at_builtin; refine wpList_appendC _ rfl (.tmp 47) (.tmp 49) 49 rfl 56 i0 _ 3 48 Try.underlying49 hi0 hz0 hz1 hz2 rfl (by decide) _ _ _ rfl o5 ⟨w4.heap.size, 0, none⟩ 1 1 [.string ⟨#[]⟩, .slice none 0 0, .bool true] rfl rfl (by decide) (cells_new _ _ _ _ rfl) (by simp [Value.oneCell']) (by unfold maxLen; omega) (by omega) ?_)
      intro v6 w6 ho6 hup6
      have HP6 := hide (HP5.out.upon HSZ.out hup6 ho6)
      clear ho6 hup6 o5 HP5 HP4
      obtain ⟨al6, cl6, rfl, hl61, hl62⟩ := rowForm HP6.out.own
      go_wp2_with fail
      go_roundw
      case rel =>
        refine ⟨i + 1, by omega, by go_num, ?_⟩
        have := HP6.out
        rw [HLD.out] at this
        have e : fstL N ++ numL (i + 1) = fstL N ++ (numL i ++ [Value.string (leadsL.getD (6 + i) ⟨#[]⟩), Value.slice none 0 0, Value.bool false, Value.string ⟨#[]⟩, Value.slice none 0 0, Value.bool true]) := by simp [numL]
        rw [e, show 12 + 2 * (i + 1) = 12 + 2 * i + 1 + 1 by omega]
        exact this
      case measure => simp [intOf]; omega
    · have hnl : ¬ (i : Int) < 9 := by omega
      obtain rfl : i = 9 := by omega
      have H2 := hide (HRP.out _ _ hP)
      have H3 : Hid (Below N w wr) := hide (HBL.out.trans (hP.chg.below (by have := HSZ.out; omega) fun b e => by omega))
      clear hP HP HRP HS HNM
      go_wp2_with fail
      go_ret
      exact ⟨_, rfl, H2.out, by rw [HNN.out]; exact H3.out⟩
end Go.Proofs.Ytdjdcpldofmdjaa
