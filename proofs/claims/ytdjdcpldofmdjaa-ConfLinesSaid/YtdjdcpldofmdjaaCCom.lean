import Derived.Test.YtdjdcpldofmdjaaCPy
namespace Go.Proofs.Ytdjdcpldofmdjaa
open Go.RowKit
set_option linter.unusedVariables false
set_option linter.unusedSimpArgs false
set_option maxRecDepth 20000

theorem tx_drop (s : ByteArray) {i k : Nat} (h : i + k < s.size) : ((tx s).drop i)[k]? = some s[i + k] := by
  rw [List.getElem?_drop]
  exact tx_at s h
set_option maxHeartbeats 1000000 in
theorem common_any (a b : ByteArray) (i : Nat) (w : World) (ha : a.size ≤ maxLen) (hb : b.size ≤ maxLen) (hi : i ≤ a.size) :
    Calls Try.prog 38 #[.string a, .int .i64 (i : Int), .string b] w fun e w' => e = .returned (.int .i64 (cp ((tx a).drop i) (tx b) : Nat)) ∧ ∃ m, w' = w.drewN m := by
  unfold maxLen at ha hb
  have hdl : ((tx a).drop i).length = a.size - i := by rw [List.length_drop, tx_len]
  have HDL := hide hdl
  clear hdl
  go_enter Try.func38, Try.ntmps38
  go_wp2
  go_loopw [7] (fun y wr => ∃ k m : Nat, i + k ≤ a.size ∧ k ≤ b.size ∧ y = .int .i64 k ∧ wr = w.drewN m ∧ Hid (∀ j, j < k → ((tx a).drop i)[j]? = (tx b)[j]?)) (fun y _ => b.size - (intOf y).toNat)
  case atStart => exact ⟨0, 0, by omega, Nat.zero_le _, rfl, rfl, hide fun j hj => by omega⟩
  case round =>
    obtain ⟨k, m, h1, h2, rfl, hwr, H⟩ := hrel
    have HWR := hide hwr
    clear hwr
    by_cases hlb : k < b.size
    · by_cases hla : i + k < a.size
      · have l1 : (i : Int) + (k : Int) < (a.size : Int) := by omega
        have l1i : 0 ≤ (i : Int) + (k : Int) ∧ (i : Int) + (k : Int) < (a.size : Int) := ⟨by omega, by omega⟩
        have l2i : 0 ≤ (k : Int) ∧ (k : Int) < (b.size : Int) := ⟨by omega, by omega⟩
        by_cases he : a[i + k] = b[k]
        · have heb : ((a[i + k].toNat : Int) == (b[k].toNat : Int)) = true := by rw [byte_eq]; simpa using he
          have H2 : Hid (∀ j, j < k + 1 → ((tx a).drop i)[j]? = (tx b)[j]?) := hide fun j hj => by
            by_cases hj' : j < k
            · exact H.out j hj'
            · obtain rfl : j = k := by omega
              rw [tx_drop a hla, tx_at b hlb, he]
          clear he H
          go_wp2_with fail
          go_quiet (fail)
          go_wp2_with fail
          go_roundw
          case rel => exact ⟨k + 1, _, by omega, by omega, by go_num, by rw [HWR.out]; exact World.drewN_drewN .., H2⟩
          case measure => simp [intOf]; omega
        · have heb : ((a[i + k].toNat : Int) == (b[k].toNat : Int)) = false := by rw [byte_eq]; simpa using he
          have H2 : Hid (cp ((tx a).drop i) (tx b) = k) := hide (cp_of k _ _ (by rw [HDL.out]; omega) (by rw [tx_len]; exact h2) H.out (.inr (.inr (by rw [tx_drop a hla, tx_at b hlb]; simpa using he))))
          clear he H
          go_wp2_with fail
          go_quiet (fail)
          go_wp2_with fail
          go_ret
          exact ⟨by rw [H2.out]; rfl, _, by rw [HWR.out]; exact World.drewN_drewN ..⟩
      · have hnl : ¬ (i : Int) + (k : Int) < (a.size : Int) := by omega
        have hwr : IntKind.i64.wrap ((i : Int) + (k : Int)) = (i : Int) + (k : Int) := by simp [IntKind.wrap, IntKind.bits, IntKind.signed]; omega
        have hdec : decide ((i : Int) + (k : Int) < (a.size : Int)) = false := by simpa using hnl
        have hle : 0 ≤ (i : Int) + (k : Int) ∧ (i : Int) + (k : Int) ≤ (a.size : Int) := ⟨by omega, by omega⟩
        have H2 : Hid (cp ((tx a).drop i) (tx b) = k) := hide (cp_of k _ _ (by rw [HDL.out]; omega) (by rw [tx_len]; exact h2) H.out (.inl (by rw [HDL.out]; omega)))
        clear H
        go_wp2_with fail
        go_quiet (fail)
        go_wp2_with fail
        go_ret
        exact ⟨by rw [H2.out]; rfl, _, by rw [HWR.out]; exact World.drewN_drewN ..⟩
    · have H2 : Hid (cp ((tx a).drop i) (tx b) = k) := hide (cp_of k _ _ (by rw [HDL.out]; omega) (by rw [tx_len]; exact h2) H.out (.inr (.inl (by rw [tx_len]; omega))))
      clear H
      go_wp2_with fail
      go_quiet (fail)
      go_wp2_with fail
      go_ret
      exact ⟨by rw [H2.out]; rfl, _, by rw [HWR.out]; exact World.drewN_drewN ..⟩
end Go.Proofs.Ytdjdcpldofmdjaa
