import Derived.Test.YtdjdcpldofmdjaaCTak
namespace Go.Proofs.Ytdjdcpldofmdjaa
open Go.RowKit
set_option linter.unusedVariables false
set_option linter.unusedSimpArgs false
set_option maxRecDepth 20000

def isDg (c : UInt8) : Bool := decide (48 ≤ c.toNat) && decide (c.toNat ≤ 57)
/-- may the digit d stand behind k digits whose number is n? -/
def goesOn (k n d : Nat) : Bool := !((decide (0 < k) && decide (n = 0)) || decide ((9223372036854775807 - d) / 10 < n))
/-- the number that stands at the front: how many digits, and which -/
def rdN : List UInt8 → Nat → Nat → Nat × Nat
  | [], k, n => (k, n)
  | c :: l, k, n => if isDg c && goesOn k n (c.toNat - 48) then rdN l (k + 1) (10 * n + (c.toNat - 48)) else (k, n)
theorem rdN_go {l : List UInt8} {c : UInt8} {k n i : Nat} (hi : l[i]? = some c) (h : (isDg c && goesOn k n (c.toNat - 48)) = true) : rdN (l.drop i) k n = rdN (l.drop (i + 1)) (k + 1) (10 * n + (c.toNat - 48)) := by
  obtain ⟨hlt, e⟩ := List.getElem?_eq_some_iff.1 hi
  rw [List.drop_eq_getElem_cons hlt, e, rdN, if_pos h]
theorem rdN_no {l : List UInt8} {c : UInt8} {k n i : Nat} (hi : l[i]? = some c) (h : (isDg c && goesOn k n (c.toNat - 48)) = false) : rdN (l.drop i) k n = (k, n) := by
  obtain ⟨hlt, e⟩ := List.getElem?_eq_some_iff.1 hi
  rw [List.drop_eq_getElem_cons hlt, e, rdN, if_neg (by simp [h])]
theorem rdN_end {l : List UInt8} {k n i : Nat} (hi : l.length ≤ i) : rdN (l.drop i) k n = (k, n) := by
  rw [List.drop_eq_nil_of_le hi, rdN]
theorem goesOn_le {k n d : Nat} (h : goesOn k n d = true) (hd : d ≤ 9) : 10 * n + d ≤ 9223372036854775807 := by
  unfold goesOn at h
  simp at h
  omega
theorem isDigit_any (c : UInt8) (w : World) : Calls Try.prog 46 #[.int .u8 (c.toNat : Int)] w fun e w' => e = .returned (.bool (isDg c)) ∧ w' = w := by
  have hc : (c.toNat : Int) < 256 := by have := c.toNat_lt; omega
  have h0 : (0 : Int) ≤ (c.toNat : Int) := by omega
  have hE : isDg c = (decide (48 ≤ (c.toNat : Int)) && decide ((c.toNat : Int) ≤ 57)) := by
    unfold isDg
    rw [Bool.eq_iff_iff]
    simp
    omega
  have HE := hide hE
  clear hE
  generalize (c.toNat : Int) = x at *
  go_enter Try.func46, Try.ntmps46
  go_wp2_with fail
  · go_ret
    refine ⟨?_, rfl⟩
    rw [HE.out]
    rename_i h
    simp [h]
  · go_ret
    refine ⟨?_, rfl⟩
    rw [HE.out]
    rename_i h
    have h' : decide (48 ≤ x) = false := by simp; omega
    rw [h']
    rfl
set_option maxHeartbeats 2000000 in
theorem ntake_any {w : World} {f o : Nat} {x0 : Int} (t : ByteArray) (ht : t.size ≤ maxLen) (hf : w.cell? ⟨f, o, none⟩ = some (.int .i64 x0)) (hz : ∀ W, Below w.heap.size w W → W.frozen? ⟨f, o, none⟩ = false) :
    Calls Try.prog 73 #[.agg #[.pointer (some ⟨f, o, none⟩)], .string t] w fun e w' => e = .returned (.tuple #[.int .i64 ((rdN (tx t) 0 0).1 : Nat), .bool (decide (0 < (rdN (tx t) 0 0).1))]) ∧ Took w w' f o ((rdN (tx t) 0 0).2 : Nat) := by
  unfold maxLen at ht
  have HB0 : Hid (Below w.heap.size w (w.alloc (.cells #[.pointer (some ⟨f, o, none⟩)] 88))) := hide ((Below.refl _ _).alloc (Nat.le_refl _) _)
  have HAL : Hid ((w.alloc (.cells #[.pointer (some ⟨f, o, none⟩)] 88)).heap.size = w.heap.size + 1) := hide (World.size_alloc ..)
  have HCF : Hid (∀ W, Below (w.alloc (.cells #[.pointer (some ⟨f, o, none⟩)] 88)).heap.size (w.alloc (.cells #[.pointer (some ⟨f, o, none⟩)] 88)) W → W.cell? ⟨f, o, none⟩ = some (.int .i64 x0) ∧ W.frozen? ⟨f, o, none⟩ = false ∧ W.cell? ⟨w.heap.size, 0, none⟩ = some (.pointer (some ⟨f, o, none⟩))) := hide fun W hW =>
    ⟨cell_bel hW (cell_bel HB0.out hf), hz W (HB0.out.trans (hW.mono (by rw [HAL.out]; omega))), cell_bel hW (cell_of_row _ _ _ _ _ _ (Go.heap_alloc_new w _))⟩
  clear hf hz
  obtain ⟨R, hR⟩ : ∃ R, rdN (tx t) 0 0 = R := ⟨_, rfl⟩
  rw [hR]
  have HR := hide hR
  clear hR
  go_enter Try.func73, Try.ntmps73
  go_wp2_with fail
  generalize w.alloc (.cells #[.pointer (some ⟨f, o, none⟩)] 88) = w1 at *
  go_loopw [6, 7] (fun z y wr => ∃ k n : Nat, k ≤ t.size ∧ z = .int .i64 (n : Int) ∧ y = .int .i64 (k : Int) ∧ n ≤ 9223372036854775807 ∧ Hid (R = rdN ((tx t).drop k) k n) ∧ Below w1.heap.size w1 wr) (fun _ y _ => t.size - (intOf y).toNat)
  case atStart => exact ⟨0, 0, Nat.zero_le _, rfl, rfl, by omega, hide (by rw [← HR.out]; simp), Below.refl _ _⟩
  case round =>
    obtain ⟨k, n, hk, rfl, rfl, hn, H, hB⟩ := hrel
    have HB := hide hB
    clear hB HR
    by_cases hlt : k < t.size
    · have hx := tx_at t hlt
      have hlt' : (k : Int) < (t.size : Int) := by omega
      have hii : 0 ≤ (k : Int) ∧ (k : Int) < (t.size : Int) := ⟨by omega, by omega⟩
      have HGO := hide fun h => rdN_go (k := k) (n := n) hx h
      have HNO := hide fun h => rdN_no (k := k) (n := n) hx h
      have HD := hide fun W => isDigit_any t[k] W
      clear hx
      obtain ⟨d1, d2, d3⟩ := HCF.out _ HB.out
      by_cases hdg : isDg t[k] = true
      · obtain ⟨D, hD, hD9⟩ : ∃ D, t[k].toNat = 48 + D ∧ D ≤ 9 := by
          unfold isDg at hdg
          simp at hdg
          exact ⟨t[k].toNat - 48, by omega, by omega⟩
        rw [hdg] at HD HGO HNO
        have eD : t[k].toNat - 48 = D := by omega
        rw [eD] at HGO HNO
        have hw8 : IntKind.u8.wrap ((t[k].toNat : Int) - 48) = (D : Int) := by
          rw [show ((t[k].toNat : Int) - 48) = (D : Int) by omega]
          simp [IntKind.wrap, IntKind.bits, IntKind.signed]
          omega
        clear hD eD hdg
        by_cases hgo : goesOn k n D = true
        · have HLE := hide (goesOn_le hgo hD9)
          have H2 : Hid (R = rdN ((tx t).drop (k + 1)) (k + 1) (10 * n + D)) := hide (by rw [H.out]; exact HGO.out (by simp [hgo]))
          unfold goesOn at hgo
          clear H HGO HNO
          have hgo2 : ¬ (0 < k ∧ n = 0) ∧ ¬ (9223372036854775807 - (D : Int)) / 10 < (n : Int) := by
            simp at hgo
            refine ⟨fun h => ?_, ?_⟩
            · rcases hgo.1 with h3 | h3
              · omega
              · exact h3 h.2
            · omega
          obtain ⟨g1, g2⟩ := hgo2
          have hgq : ¬ ((9223372036854775807 - (D : Int)).tdiv 10) < (n : Int) := by rw [Int.tdiv_eq_ediv_of_nonneg (by omega)]; exact g2
          clear hgo
          by_cases hk0 : 0 < k
          · have hn0 : ¬ n = 0 := fun h => g1 ⟨hk0, h⟩
            have hn0' : ((n : Int) == 0) = false := by simpa using hn0
            clear g1
            go_wp2_with (go_at_call 46; refine (HD.out _).mono ?_; rintro e w' ⟨rfl, hw'⟩; have hw2 := hw'.symm; clear hw'; subst hw2; clear HD)
            go_roundw
            case rel => exact ⟨k + 1, 10 * n + D, by omega, by go_num, by go_num, HLE.out, H2, HB.out⟩
            case measure => simp [intOf]; omega
          · clear g1
            go_wp2_with (go_at_call 46; refine (HD.out _).mono ?_; rintro e w' ⟨rfl, hw'⟩; have hw2 := hw'.symm; clear hw'; subst hw2; clear HD)
            go_roundw
            case rel => exact ⟨k + 1, 10 * n + D, by omega, by go_num, by go_num, HLE.out, H2, HB.out⟩
            case measure => simp [intOf]; omega
        · have hgf : goesOn k n D = false := by simpa using hgo
          have H2 : Hid (R = (k, n)) := hide (by rw [H.out]; exact HNO.out (by simp [hgf]))
          have hor : (0 < k ∧ n = 0) ∨ (¬ (0 < k ∧ n = 0) ∧ (9223372036854775807 - (D : Int)) / 10 < (n : Int)) := by
            unfold goesOn at hgf
            by_cases h3 : 0 < k ∧ n = 0
            · exact .inl h3
            · refine .inr ⟨h3, ?_⟩
              simp at hgf
              have := hgf (by omega)
              omega
          clear H HGO HNO hgo hgf
          rcases hor with ⟨hk0, hn0⟩ | ⟨g1, g2⟩
          · have hn0' : ((n : Int) == 0) = true := by simpa using hn0
            have HN0 := hide hn0
            clear hn0
            go_wp2_with (go_at_call 46; refine (HD.out _).mono ?_; rintro e w' ⟨rfl, hw'⟩; have hw2 := hw'.symm; clear hw'; subst hw2; clear HD)
            refine bodyPost_ret (results_tmp2 rfl _ _ _) rfl ?_
            rw [H2.out]
            exact ⟨by first | rfl | simp [hk0], _, HB0.out.trans (HB.out.mono (by rw [HAL.out]; omega)), rfl⟩
          · have hgq : ((9223372036854775807 - (D : Int)).tdiv 10) < (n : Int) := by rw [Int.tdiv_eq_ediv_of_nonneg (by omega)]; exact g2
            by_cases hk0 : 0 < k
            · have hn0 : ¬ n = 0 := fun h => g1 ⟨hk0, h⟩
              have hn0' : ((n : Int) == 0) = false := by simpa using hn0
              clear g1
              go_wp2_with (go_at_call 46; refine (HD.out _).mono ?_; rintro e w' ⟨rfl, hw'⟩; have hw2 := hw'.symm; clear hw'; subst hw2; clear HD)
              refine bodyPost_ret (results_tmp2 rfl _ _ _) rfl ?_
              rw [H2.out]
              exact ⟨by first | rfl | simp [hk0], _, HB0.out.trans (HB.out.mono (by rw [HAL.out]; omega)), rfl⟩
            · clear g1
              go_wp2_with (go_at_call 46; refine (HD.out _).mono ?_; rintro e w' ⟨rfl, hw'⟩; have hw2 := hw'.symm; clear hw'; subst hw2; clear HD)
              refine bodyPost_ret (results_tmp2 rfl _ _ _) rfl ?_
              rw [H2.out]
              exact ⟨by first | rfl | simp [hk0], _, HB0.out.trans (HB.out.mono (by rw [HAL.out]; omega)), rfl⟩
      · have hdf : isDg t[k] = false := by simpa using hdg
        rw [hdf] at HD
        have H2 : Hid (R = (k, n)) := hide (by rw [H.out]; exact HNO.out (by simp [hdf]))
        clear H HGO HNO
        go_wp2_with (go_at_call 46; refine (HD.out _).mono ?_; rintro e w' ⟨rfl, hw'⟩; have hw2 := hw'.symm; clear hw'; subst hw2; clear HD)
        refine bodyPost_ret (results_tmp2 rfl _ _ _) rfl ?_
        rw [H2.out]
        exact ⟨rfl, _, HB0.out.trans (HB.out.mono (by rw [HAL.out]; omega)), rfl⟩
    · have hnl : ¬ (k : Int) < (t.size : Int) := by omega
      have H2 : Hid (R = (k, n)) := hide (by rw [H.out]; exact rdN_end (by rw [tx_len]; omega))
      obtain ⟨d1, d2, d3⟩ := HCF.out _ HB.out
      clear H
      go_wp2_with fail
      refine bodyPost_ret (results_tmp2 rfl _ _ _) rfl ?_
      rw [H2.out]
      exact ⟨rfl, _, HB0.out.trans (HB.out.mono (by rw [HAL.out]; omega)), rfl⟩
end Go.Proofs.Ytdjdcpldofmdjaa
