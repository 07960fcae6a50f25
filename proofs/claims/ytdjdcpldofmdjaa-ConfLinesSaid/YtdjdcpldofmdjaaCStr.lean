import Derived.Test.YtdjdcpldofmdjaaABase
namespace Go.Proofs.Ytdjdcpldofmdjaa
open Go.RowKit
set_option linter.unusedVariables false
set_option linter.unusedSimpArgs false
set_option maxRecDepth 20000

/-- how many bytes two texts have in common from their beginnings on -/
def cp : List UInt8 → List UInt8 → Nat
  | a :: l, b :: m => if a = b then cp l m + 1 else 0
  | _, _ => 0
theorem cp_of : ∀ (k : Nat) (l m : List UInt8), k ≤ l.length → k ≤ m.length → (∀ j, j < k → l[j]? = m[j]?) → (k = l.length ∨ k = m.length ∨ l[k]? ≠ m[k]?) → cp l m = k
  | 0, l, m, _, _, _, h => by
    cases l with
    | nil => simp [cp]
    | cons a l =>
      cases m with
      | nil => simp [cp]
      | cons b m =>
        have : a ≠ b := by
          rcases h with h | h | h
          · simp at h
          · simp at h
          · simpa using h
        simp [cp, this]
  | k + 1, l, m, h1, h2, h3, h4 => by
    cases l with
    | nil => simp at h1
    | cons a l =>
      cases m with
      | nil => simp at h2
      | cons b m =>
        have e : a = b := by simpa using h3 0 (by omega)
        have ih := cp_of k l m (by simpa using h1) (by simpa using h2) (fun j hj => by simpa using h3 (j + 1) (by omega)) (by simpa using h4)
        simp [cp, e, ih]
theorem cp_le_l : ∀ (l m : List UInt8), cp l m ≤ l.length
  | a :: l, b :: m => by
    have := cp_le_l l m
    unfold cp
    split <;> simp <;> omega
  | [], _ => by simp [cp]
  | _ :: _, [] => by simp [cp]
theorem cp_le_r : ∀ (l m : List UInt8), cp l m ≤ m.length
  | a :: l, b :: m => by
    have := cp_le_r l m
    unfold cp
    split <;> simp <;> omega
  | [], _ => by simp [cp]
  | _ :: _, [] => by simp [cp]
/-- a text's bytes -/
abbrev tx (s : ByteArray) : List UInt8 := s.data.toList
theorem tx_len (s : ByteArray) : (tx s).length = s.size := by simp [tx]
theorem tx_at (s : ByteArray) {k : Nat} (h : k < s.size) : (tx s)[k]? = some s[k] := by
  have h' : k < s.data.size := h
  rw [tx, Array.getElem?_toList, Array.getElem?_eq_getElem h']
  rfl
theorem byte_eq (x y : UInt8) : ((x.toNat : Int) == (y.toNat : Int)) = decide (x = y) := by
  rw [Bool.eq_iff_iff]
  simp only [beq_iff_eq, decide_eq_true_eq, Int.natCast_inj]
  exact UInt8.toNat_inj
set_option maxHeartbeats 400000 in
theorem alike_any (a b : ByteArray) (w : World) (ha : a.size ≤ maxLen) (hb : b.size ≤ maxLen) :
    Calls Try.prog 37 #[.string a, .string b] w fun e w' => e = .returned (.int .i64 (cp (tx a) (tx b) : Nat)) ∧ ∃ m, w' = w.drewN m := by
  unfold maxLen at ha hb
  go_enter Try.func37, Try.ntmps37
  go_wp2
  go_loopw [5] (fun i wr => ∃ k m : Nat, k ≤ a.size ∧ k ≤ b.size ∧ i = .int .i64 k ∧ wr = w.drewN m ∧ Hid (∀ j, j < k → (tx a)[j]? = (tx b)[j]?)) (fun i _ => a.size - (intOf i).toNat)
  case atStart => exact ⟨0, 0, Nat.zero_le _, Nat.zero_le _, rfl, rfl, hide fun j hj => by omega⟩
  case round =>
    obtain ⟨k, m, h1, h2, rfl, hwr, H⟩ := hrel
    have HWR := hide hwr
    clear hwr
    by_cases hba : b.size < a.size
    · by_cases hlt : k < a.size ∧ k < b.size
      · obtain ⟨l1, l2⟩ := hlt
        have hmin : (k : Int) < (b.size : Int) := by omega
        have l1i : 0 ≤ (k : Int) ∧ (k : Int) < (a.size : Int) := ⟨by omega, by omega⟩
        have l2i : 0 ≤ (k : Int) ∧ (k : Int) < (b.size : Int) := ⟨by omega, by omega⟩
        by_cases he : a[k] = b[k]
        · have heb : ((a[k].toNat : Int) == (b[k].toNat : Int)) = true := by rw [byte_eq]; simpa using he
          have H2 : Hid (∀ j, j < k + 1 → (tx a)[j]? = (tx b)[j]?) := hide fun j hj => by
            by_cases hj' : j < k
            · exact H.out j hj'
            · obtain rfl : j = k := by omega
              rw [tx_at a l1, tx_at b l2, he]
          clear he H
          go_wp2_with fail
          go_quiet (fail)
          go_wp2_with fail
          go_roundw
          case rel => exact ⟨k + 1, _, by omega, by omega, by go_num, by rw [HWR.out]; exact World.drewN_drewN .., H2⟩
          case measure => simp [intOf]; omega
        · have heb : ((a[k].toNat : Int) == (b[k].toNat : Int)) = false := by rw [byte_eq]; simpa using he
          have H2 : Hid (cp (tx a) (tx b) = k) := hide (cp_of k _ _ (by rw [tx_len]; exact h1) (by rw [tx_len]; exact h2) H.out (.inr (.inr (by rw [tx_at a l1, tx_at b l2]; simpa using he))))
          clear he H
          go_wp2_with fail
          go_quiet (fail)
          go_wp2_with fail
          go_ret
          exact ⟨by rw [H2.out]; rfl, _, by rw [HWR.out]; exact World.drewN_drewN ..⟩
      · have hmin : ¬ k < b.size := by omega
        have H2 : Hid (cp (tx a) (tx b) = k) := hide (cp_of k _ _ (by rw [tx_len]; exact h1) (by rw [tx_len]; exact h2) H.out (by rw [tx_len, tx_len]; omega))
        clear H
        go_wp2_with fail
        go_quiet (fail)
        go_wp2_with fail
        go_ret
        exact ⟨by rw [H2.out]; rfl, _, by rw [HWR.out]; exact World.drewN_drewN ..⟩
    · by_cases hlt : k < a.size ∧ k < b.size
      · obtain ⟨l1, l2⟩ := hlt
        have hmin : (k : Int) < (a.size : Int) := by omega
        have l1i : 0 ≤ (k : Int) ∧ (k : Int) < (a.size : Int) := ⟨by omega, by omega⟩
        have l2i : 0 ≤ (k : Int) ∧ (k : Int) < (b.size : Int) := ⟨by omega, by omega⟩
        by_cases he : a[k] = b[k]
        · have heb : ((a[k].toNat : Int) == (b[k].toNat : Int)) = true := by rw [byte_eq]; simpa using he
          have H2 : Hid (∀ j, j < k + 1 → (tx a)[j]? = (tx b)[j]?) := hide fun j hj => by
            by_cases hj' : j < k
            · exact H.out j hj'
            · obtain rfl : j = k := by omega
              rw [tx_at a l1, tx_at b l2, he]
          clear he H
          go_wp2_with fail
          go_quiet (fail)
          go_wp2_with fail
          go_roundw
          case rel => exact ⟨k + 1, _, by omega, by omega, by go_num, by rw [HWR.out]; exact World.drewN_drewN .., H2⟩
          case measure => simp [intOf]; omega
        · have heb : ((a[k].toNat : Int) == (b[k].toNat : Int)) = false := by rw [byte_eq]; simpa using he
          have H2 : Hid (cp (tx a) (tx b) = k) := hide (cp_of k _ _ (by rw [tx_len]; exact h1) (by rw [tx_len]; exact h2) H.out (.inr (.inr (by rw [tx_at a l1, tx_at b l2]; simpa using he))))
          clear he H
          go_wp2_with fail
          go_quiet (fail)
          go_wp2_with fail
          go_ret
          exact ⟨by rw [H2.out]; rfl, _, by rw [HWR.out]; exact World.drewN_drewN ..⟩
      · have hmin : ¬ k < a.size := by omega
        have H2 : Hid (cp (tx a) (tx b) = k) := hide (cp_of k _ _ (by rw [tx_len]; exact h1) (by rw [tx_len]; exact h2) H.out (by rw [tx_len, tx_len]; omega))
        clear H
        go_wp2_with fail
        go_quiet (fail)
        go_wp2_with fail
        go_ret
        exact ⟨by rw [H2.out]; rfl, _, by rw [HWR.out]; exact World.drewN_drewN ..⟩
end Go.Proofs.Ytdjdcpldofmdjaa
