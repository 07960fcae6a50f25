import Derived.Test.YtdjdcpldofmdjaaCCom
namespace Go.Proofs.Ytdjdcpldofmdjaa
open Go.RowKit
set_option linter.unusedVariables false
set_option linter.unusedSimpArgs false
set_option maxRecDepth 20000

set_option maxHeartbeats 2000000 in
theorem number_any {w : World} (t : ByteArray) (i : Nat) (ht : t.size ≤ maxLen) (hi : i ≤ t.size) :
    Calls Try.prog 39 #[.string t, .int .i64 (i : Int)] w fun e w' => e = .returned (.tuple #[.int .i64 ((rdN ((tx t).drop i) 0 0).1 : Nat), .int .i64 ((rdN ((tx t).drop i) 0 0).2 : Nat)]) ∧ ∃ m, w' = w.drewN m := by
  unfold maxLen at ht
  obtain ⟨R, hR⟩ : ∃ R, rdN ((tx t).drop i) 0 0 = R := ⟨_, rfl⟩
  rw [hR]
  have HR := hide hR
  clear hR
  go_enter Try.func39, Try.ntmps39
  go_wp2_with fail
  go_loopw [6, 7] (fun z y wr => ∃ k n m : Nat, i + k ≤ t.size ∧ z = .int .i64 (n : Int) ∧ y = .int .i64 (k : Int) ∧ (n ≤ 9223372036854775807 ∧ (k = 0 → n = 0)) ∧ Hid (R = rdN (((tx t).drop i).drop k) k n) ∧ wr = w.drewN m) (fun _ y _ => t.size - (intOf y).toNat)
  case atStart => exact ⟨0, 0, 0, by omega, rfl, rfl, ⟨by omega, fun _ => rfl⟩, hide (by rw [← HR.out]; simp), rfl⟩
  case round =>
    obtain ⟨k, n, m, hk, rfl, rfl, ⟨hn, hkn⟩, H, hwr⟩ := hrel
    have HWR := hide hwr
    clear hwr HR
    by_cases hlt : i + k < t.size
    · have hx := tx_drop t hlt
      have l1i : 0 ≤ (i : Int) + (k : Int) ∧ (i : Int) + (k : Int) < (t.size : Int) := ⟨by omega, by omega⟩
      have HGO := hide fun h => rdN_go (k := k) (n := n) hx h
      have HNO := hide fun h => rdN_no (k := k) (n := n) hx h
      clear hx
      by_cases hdg : isDg t[i + k] = true
      · obtain ⟨D, hD, hD9⟩ : ∃ D, t[i + k].toNat = 48 + D ∧ D ≤ 9 := by
          unfold isDg at hdg
          simp at hdg
          exact ⟨t[i + k].toNat - 48, by omega, by omega⟩
        rw [hdg] at HGO HNO
        have eD : t[i + k].toNat - 48 = D := by omega
        rw [eD] at HGO HNO
        have hge : 48 ≤ (t[i + k].toNat : Int) := by omega
        have hle : (t[i + k].toNat : Int) ≤ 57 := by omega
        have hw8 : IntKind.u8.wrap ((t[i + k].toNat : Int) - 48) = (D : Int) := by
          rw [show ((t[i + k].toNat : Int) - 48) = (D : Int) by omega]
          simp [IntKind.wrap, IntKind.bits, IntKind.signed]
          omega
        clear hD eD hdg
        by_cases hgo : goesOn k n D = true
        · have HLE := hide (goesOn_le hgo hD9)
          have H2 : Hid (R = rdN (((tx t).drop i).drop (k + 1)) (k + 1) (10 * n + D)) := hide (by rw [H.out]; exact HGO.out (by simp [hgo]))
          unfold goesOn at hgo
          clear H HGO HNO
          have hgo2 : ¬ (0 < k ∧ n = 0) ∧ ¬ (9223372036854775807 - (D : Int)) / 10 < (n : Int) := by
            simp at hgo
            refine ⟨fun h => ?_, ?_⟩
            · rcases hgo.1 with h3 | h3
              · omega
              · exact h3 h.2
            · omega
          obtain ⟨g1, g2⟩ := hgo2
          have hgq : ¬ ((9223372036854775807 - (D : Int)).tdiv 10) < (n : Int) := by rw [Int.tdiv_eq_ediv_of_nonneg (by omega)]; exact g2
          clear hgo
          by_cases hk0 : 0 < k
          · have hn0 : ¬ n = 0 := fun h => g1 ⟨hk0, h⟩
            have hn0' : ((n : Int) == 0) = false := by simpa using hn0
            clear g1 hkn
            go_wp2_with fail
            go_roundw
            case rel => exact ⟨k + 1, 10 * n + D, m, by omega, by go_num, by go_num, ⟨HLE.out, by omega⟩, H2, HWR.out⟩
            case measure => simp [intOf]; omega
          · clear g1 hkn
            go_wp2_with fail
            go_roundw
            case rel => exact ⟨k + 1, 10 * n + D, m, by omega, by go_num, by go_num, ⟨HLE.out, by omega⟩, H2, HWR.out⟩
            case measure => simp [intOf]; omega
        · have hgf : goesOn k n D = false := by simpa using hgo
          have H2 : Hid (R = (k, n)) := hide (by rw [H.out]; exact HNO.out (by simp [hgf]))
          have hor : (0 < k ∧ n = 0) ∨ (0 < k ∧ ¬ n = 0 ∧ (9223372036854775807 - (D : Int)) / 10 < (n : Int)) := by
            unfold goesOn at hgf
            simp at hgf
            by_cases h3 : 0 < k ∧ n = 0
            · exact .inl h3
            · have h4 := hgf (by omega)
              have : 0 < k := by
                rcases Nat.eq_zero_or_pos k with h5 | h5
                · have := hkn h5; omega
                · exact h5
              exact .inr ⟨this, fun h => h3 ⟨this, h⟩, by omega⟩
          clear H HGO HNO hgo hgf hkn
          rcases hor with ⟨hk0, hn0⟩ | ⟨hk0, hn0, g2⟩
          · have hn0' : ((n : Int) == 0) = true := by simpa using hn0
            have HN0 := hide hn0
            clear hn0
            go_wp2_with fail
            refine bodyPost_ret (results_tmp2 rfl _ _ _) rfl ?_
            rw [H2.out]
            exact ⟨rfl, _, HWR.out⟩
          · have hgq : ((9223372036854775807 - (D : Int)).tdiv 10) < (n : Int) := by rw [Int.tdiv_eq_ediv_of_nonneg (by omega)]; exact g2
            have hn0' : ((n : Int) == 0) = false := by simpa using hn0
            go_wp2_with fail
            refine bodyPost_ret (results_tmp2 rfl _ _ _) rfl ?_
            rw [H2.out]
            exact ⟨rfl, _, HWR.out⟩
      · have hdf : isDg t[i + k] = false := by simpa using hdg
        have H2 : Hid (R = (k, n)) := hide (by rw [H.out]; exact HNO.out (by simp [hdf]))
        have hor : (t[i + k].toNat : Int) < 48 ∨ (48 ≤ (t[i + k].toNat : Int) ∧ ¬ (t[i + k].toNat : Int) ≤ 57) := by
          unfold isDg at hdf
          simp at hdf
          omega
        clear H HGO HNO hdg hdf hkn
        rcases hor with h | ⟨h, h'⟩
        · have hng : ¬ 48 ≤ (t[i + k].toNat : Int) := by omega
          go_wp2_with fail
          refine bodyPost_ret (results_tmp2 rfl _ _ _) rfl ?_
          rw [H2.out]
          exact ⟨rfl, _, HWR.out⟩
        · go_wp2_with fail
          refine bodyPost_ret (results_tmp2 rfl _ _ _) rfl ?_
          rw [H2.out]
          exact ⟨rfl, _, HWR.out⟩
    · have H2 : Hid (R = (k, n)) := hide (by rw [H.out]; exact rdN_end (by rw [List.length_drop, tx_len]; omega))
      have hnl : ¬ (i : Int) + (k : Int) < (t.size : Int) := by omega
      have hwr : IntKind.i64.wrap ((i : Int) + (k : Int)) = (i : Int) + (k : Int) := by simp [IntKind.wrap, IntKind.bits, IntKind.signed]; omega
      have hdec : decide ((i : Int) + (k : Int) < (t.size : Int)) = false := by simpa using hnl
      clear H hkn
      go_wp2_with fail
      refine bodyPost_ret (results_tmp2 rfl _ _ _) rfl ?_
      rw [H2.out]
      exact ⟨rfl, _, HWR.out⟩
end Go.Proofs.Ytdjdcpldofmdjaa
