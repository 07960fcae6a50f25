import Derived.Test.YtglajdmkbckjjabDoorBNu
import Derived.Test.YtglajdmkbckjjabDoorBAppend
namespace Go.Proofs.YtglajdmkbckjjabDoor
open Go.RowKit
set_option linter.unusedVariables false
set_option linter.unusedSimpArgs false
set_option maxRecDepth 20000

set_option maxHeartbeats 2000000 in
theorem rdigits_any {w : World} {v : Value} {D : List Bool} (h : w.ownsRow 0 4 1 v D.length (D.map Value.bool)) (hD : D.length ≤ 1000000) (x : Nat) (h1 : 1 ≤ x) (h2 : x ≤ 65536) :
    Calls Tryd.prog 50 #[v, .int .i64 (x : Int)] w fun e w' => ∃ v', e = .returned v' ∧ BS w w' v v' (D ++ gam x) := by
  have HS := hide (BS.start h)
  obtain ⟨E, hE⟩ : ∃ E, D ++ gam x = E := ⟨_, rfl⟩
  have HGE : Hid (∀ k, 2 ^ k ≤ x → x < 2 ^ (k + 1) → D ++ List.replicate k false ++ gamL (k + 1) x = E) := hide fun k hk1 hk2 => by rw [← hE, gam_alt hk1 hk2, List.append_assoc]
  rw [hE]
  have HDL := hide hD
  obtain ⟨i0, hi0, hz0, hz1, hz2⟩ := infoBl
  clear h hE hD
  go_enter Tryd.func50, Tryd.ntmps50
  go_wp2_with fail
  go_loopw [5] (fun z wr => ∃ k : Nat, z = .int .i64 (k : Int) ∧ Hid (2 ^ k ≤ x) ∧ wr = w) (fun z _ => 20 - (intOf z).toNat)
  case atStart => exact ⟨0, rfl, hide h1, rfl⟩
  case round =>
    obtain ⟨k, rfl, HK, hwr⟩ := hrel
    have hwr2 := hwr.symm
    clear hwr
    subst hwr2
    have hk : k ≤ 16 := pow_small HK.out h2
    have hZ : ((x : Int) / 2 ^ (k + 1)) = ((x / 2 ^ (k + 1) : Nat) : Int) := by simp
    obtain ⟨Z, hZZ⟩ : ∃ Z, x / 2 ^ (k + 1) = Z := ⟨_, rfl⟩
    rw [hZZ] at hZ
    have htn : ((k : Int) + 1).toNat = k + 1 := by clear hZ; omega
    have hk0 : (0 : Int) ≤ (k : Int) + 1 := by clear hZ; omega
    by_cases hpos : 0 < Z
    · have hpi : (0 : Int) < (Z : Int) := by clear hZ; omega
      have HK2 : Hid (2 ^ (k + 1) ≤ x) := hide (by
        rw [← hZZ] at hpos
        exact (Nat.one_le_div_iff (Nat.two_pow_pos _)).1 hpos)
      clear hZZ hpos HS
      go_wp2_with fail
      go_roundw
      case rel => exact ⟨k + 1, by go_num, HK2, trivial⟩
      case measure => clear hZ; simp [intOf]; omega
    · have hz0 : Z = 0 := by clear hZ; omega
      subst hz0
      have HLT : Hid (x < 2 ^ (k + 1)) := hide ((Nat.div_eq_zero_iff_lt (Nat.two_pow_pos _)).1 hZZ)
      clear hZZ hpos
      go_wp2_with fail
      have HG := hide (HGE.out k HK.out HLT.out)
      clear HLT HK hZ htn hk0 HGE
      go_loopw [0, 6] (fun dv y w2 => ∃ j : Nat, j ≤ k ∧ y = .int .i64 (j : Int) ∧ Hid (BS w w2 v dv (D ++ List.replicate j false))) (fun _ y _ => k - (intOf y).toNat)
      case atStart => exact ⟨0, Nat.zero_le _, rfl, hide (by rw [List.replicate_zero, List.append_nil]; exact HS.out)⟩
      case round =>
        clear HS
        obtain ⟨j, hj, rfl, HB⟩ := hrel
        obtain ⟨w2, hw2⟩ : ∃ w2, wr = w2 := ⟨_, rfl⟩
        rw [hw2] at HB ⊢
        obtain ⟨F, hF⟩ : ∃ F, D ++ List.replicate j false = F := ⟨_, rfl⟩
        have HF := hide hF
        have HLN : Hid (F.length ≤ 1000020) := hide (by have := HDL.out; rw [← hF]; simp; omega)
        rw [hF] at HB
        clear hF
        by_cases hlt : j < k
        · have hli : (j : Int) < (k : Int) := by omega
          have o3 := HB.out.own.alloc (.cells #[.bool false] 4)
          have HM := hide fun (w4 : World) (v4 : Value) ho hu => HB.out.more (d := false) (w4 := w4) (v4 := v4) ho hu
          clear HB
          go_wp2_with (at_builtin; refine wpList_app8 _ rfl (.tmp 21) (.tmp 22) 93 rfl 4 i0 (.bool false) 1 Tryd.underlying93 hi0 hz0 hz1 hz2 rfl _ _ _ rfl o3 ⟨w2.heap.size, 0, none⟩ 1 (.bool false) rfl (new_bool w2 _) rfl (by have := HLN.out; unfold maxLen; omega) (by have := HLN.out; omega) ?_)
          intro v4 w4 ho4 hup4
          have H4 := hide (HM.out w4 v4 ho4 (by unfold Upn; rw [World.size_alloc]; exact hup4))
          clear ho4 hup4 HM o3
          go_wp2_with fail
          go_roundw
          case rel => exact ⟨j + 1, by omega, by go_num, hide (by have := H4.out; rwa [← HF.out, List.append_assoc, ← List.replicate_succ'] at this)⟩
          case measure => simp [intOf]; omega
        · have ej : j = k := by omega
          subst ej
          have hli : ¬ (j : Int) < (j : Int) := by omega
          have HG2 : Hid (F ++ gamL (j + 1) x = E) := hide (by rw [← HF.out]; exact HG.out)
          clear HG HF
          go_wp2_with fail
          go_loopw [0, 7] (fun dv y w5 => ∃ (t : Nat) (F : List Bool), t ≤ j + 1 ∧ y = .int .i64 ((t : Int) - 1) ∧ Hid (F.length + t ≤ 1000040) ∧ Hid (BS w w5 v dv F) ∧ Hid (F ++ gamL t x = E)) (fun _ y _ => (intOf y + 1).toNat)
          case atStart => exact ⟨j + 1, F, Nat.le_refl _, by simp, hide (by have := HLN.out; omega), HB, HG2⟩
          case round =>
            clear HB HG2 HLN
            obtain ⟨t, F2, ht, rfl, HLN, HB, HG⟩ := hrel
            obtain ⟨w6, hw6⟩ : ∃ w6, wr = w6 := ⟨_, rfl⟩
            rw [hw6] at HB ⊢
            cases t with
            | zero =>
              have hge : ¬ (0 : Int) ≤ ((0 : Nat) : Int) - 1 := by omega
              have HE : Hid (F2 = E) := hide (by have := HG.out; rwa [gamL, List.append_nil] at this)
              clear HG
              go_wp2_with fail
              go_ret
              exact ⟨_, rfl, by rw [← HE.out]; exact HB.out⟩
            | succ t =>
              have ej : (((t + 1 : Nat) : Int) - 1) = (t : Int) := by omega
              rw [ej]
              have hbt : (bits .and .i64 ((x : Int) / 2 ^ t) 1 == 1) = x.testBit t := by
                have e : ((x : Int) / 2 ^ t) = ((x / 2 ^ t : Nat) : Int) := by simp
                have e2 : (((x / 2 ^ t : Nat) : Int) % 2) = (((x.testBit t).toNat : Nat) : Int) := by rw [Nat.toNat_testBit]; rfl
                rw [e, and_1, e2]
                cases x.testBit t <;> rfl
              have HGS : Hid (F2 ++ [x.testBit t] ++ gamL t x = E) := hide (by have := HG.out; rw [gamL] at this; rw [List.append_assoc]; exact this)
              obtain ⟨d, hd⟩ : ∃ d, x.testBit t = d := ⟨_, rfl⟩
              rw [hd] at hbt HGS
              have o3 := HB.out.own.alloc (.cells #[.bool d] 4)
              have HM := hide fun (w4 : World) (v4 : Value) ho hu => HB.out.more (d := d) (w4 := w4) (v4 := v4) ho hu
              clear HB hd HG
              go_wp2_with (at_builtin; refine wpList_app8 _ rfl (.tmp 29) (.tmp 36) 93 rfl 4 i0 (.bool false) 1 Tryd.underlying93 hi0 hz0 hz1 hz2 rfl _ _ _ rfl o3 ⟨w6.heap.size, 0, none⟩ 1 (.bool d) rfl (new_bool w6 _) rfl (by have := HLN.out; unfold maxLen; omega) (by have := HLN.out; omega) ?_)
              intro v4 w4 ho4 hup4
              have H4 := hide (HM.out w4 v4 ho4 (by unfold Upn; rw [World.size_alloc]; exact hup4))
              clear ho4 hup4 HM o3
              go_wp2_with fail
              go_roundw
              case rel => exact ⟨t, _, by omega, rfl, hide (by have := HLN.out; simp; omega), H4, HGS⟩
              case measure => simp [intOf] <;> omega
end Go.Proofs.YtglajdmkbckjjabDoor
