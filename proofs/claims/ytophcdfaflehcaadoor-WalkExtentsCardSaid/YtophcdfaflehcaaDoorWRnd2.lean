import Derived.Test.YtophcdfaflehcaaDoorWRnd
namespace Go.Proofs.YtophcdfaflehcaaDoor
open Go.RowKit
set_option linter.unusedVariables false
set_option linter.unusedSimpArgs false
set_option maxRecDepth 20000

set_option maxHeartbeats 2000000 in
theorem round_good {w : World} {v : Value} {l : List Nat} (n s : Nat) (hT : TabAt w) (hv : WSl w v l) (hr : l.length ≤ 17592186044416) (h1 : 1 ≤ n) (h2 : n ≤ 65536) (h3 : s ≤ n) (he : cwErr n l = 0) :
    Calls Tryd.prog 3 #[.int .i64 (n : Int), v, .int .i64 (s : Int)] w fun e w' => e = .returned (.bool true) ∧ Below w.heap.size w w' := by
  have HO := hide (ownWords_any hv hr)
  have HLT := hide hv.lt
  obtain ⟨hlen, hB⟩ := valW_listed h1 hv.lt he
  have HNW : Hid (∀ w1 v1, Below w.heap.size w w1 → URow w1 v1 l → Calls Tryd.prog 7 #[.int .i64 (n : Int), v1, .int .i64 (s : Int)] w1 fun e w' => ∃ p, e = .returned (.tuple #[.pointer (some ⟨p, 0, none⟩), .int .i64 0]) ∧ RS w w' p (wlk (valW l) n s)) := hide fun w1 v1 hb h => (new_rs n s (hT.below hb) (h.wsl HLT.out) h1 h2 h3 he).mono fun e w' ⟨p, g1, g2⟩ => ⟨p, g1, g2.up hb⟩
  have HSET : Hid (∀ W, Below w.heap.size w W → ∀ i, i < n → Calls Tryd.prog 10 #[v, .int .i64 (i : Int)] W fun e w' => e = .returned (.bool ((valW l).testBit i)) ∧ w' = W) := hide fun W hW i hi => set_any (hv.below hW) i (by rw [hlen]; unfold nW; omega) (by omega)
  have HWL := hide (wlk_len (valW l) n s)
  have HRI := hide (RI.start (valW l) n s)
  have hg := hv.getLt (l.length - 1)
  have hpe := pEqNil
  have HCN : Hid (∀ k, cnt (valW l).testBit k ≤ k) := hide fun k => cnt_le _ _
  obtain ⟨a, cap, rfl, q1, q2, q3, q4, q5⟩ := hv
  unfold maxLen at q2
  have hp : 0 < l.length := by rw [hlen]; unfold nW; omega
  obtain ⟨b, off, rfl, hc⟩ := q5 hp
  have hcl := hc (l.length - 1) (by omega)
  have HCL : Hid (∀ W, Below w.heap.size w W → W.cell? ⟨b, off + (l.length - 1), none⟩ = some (.int .u64 (l.getD (l.length - 1) 0 : Nat))) := hide fun W hW => cell_below hW hcl
  have hnn : ((l.length : Int) == ((n : Int) + 63) / 64) = true := by rw [hlen]; simp; unfold nW; omega
  have hs : ((l.getD (l.length - 1) 0 : Nat) : Int) / 2 ^ (n % 64) = ((l.getD (l.length - 1) 0 / 2 ^ (n % 64) : Nat) : Int) := by rw [Int.natCast_ediv]; simp
  have ho : (((l.length : Int) - 1).toNat) = l.length - 1 := by omega
  have hll : ((l.length - 1 : Nat) : Int) = (l.length : Int) - 1 := by omega
  have HZ : Hid (n % 64 ≠ 0 → l.getD (l.length - 1) 0 / 2 ^ (n % 64) = 0) := hide fun h0 => by
    unfold cwErr at he
    rw [if_neg (by omega)] at he
    apply Decidable.byContradiction
    intro hh
    rw [if_pos ⟨h0, hh⟩] at he
    cases he
  clear hc hcl q3 q4 q5 he hlen hB hT
  generalize l.getD (l.length - 1) 0 = x at *
  generalize valW l = B at *
  generalize l.length = len at *
  have hmm : (((n : Int) % 64) != 0) = true ∧ (x : Int) / 2 ^ (n % 64) = 0 ∨ (((n : Int) % 64) != 0) = false := by
    by_cases h0 : n % 64 = 0
    · right; simp; omega
    · left
      refine ⟨by simp; omega, ?_⟩
      rw [hs, HZ.out h0]; rfl
  clear HZ hs
  rcases hmm with ⟨hm1, hm2⟩ | hm1
  · go_enter Tryd.func3, Tryd.ntmps3
    go_wp2_with (first
      | (go_at_call 8; refine HO.out.mono ?_; rintro e w1 ⟨v1, rfl, hU1, hB1, hN1⟩; have HU1 := hide hU1; have HB1 := hide hB1; clear hU1 hB1 hN1 HO)
      | (go_at_call 7; refine (HNW.out _ _ HB1.out HU1.out).mono ?_; rintro e w2 ⟨p, rfl, hR⟩; have HR := hide hR; have kk := HCL.out _ hR.bel; clear hR HNW)
      | (go_at_call 9; refine (num_any _ _).mono ?_; rintro e w' ⟨rfl, rfl⟩))
    clear hnn hm1 hm2 kk
    have HSET2 := hide (HSET.out _ HR.out.bel)
    go_loop [10, 11] (fun x y => ∃ i : Nat, i ≤ n ∧ y = .int .i64 (i : Int) ∧ x = .int .i64 ((cnt B.testBit i : Nat) : Int)) (fun x y => n - (intOf y).toNat)
    case atStart => exact ⟨0, Nat.zero_le _, rfl, rfl⟩
    case round =>
      obtain ⟨i, hi, rfl, rfl⟩ := hrel
      have hci := HCN.out i
      by_cases hlt : i < n
      · have hil : (i : Int) < (n : Int) := by omega
        have HC := hide (HSET2.out i hlt)
        have HS : Hid (cnt B.testBit (i + 1) = cnt B.testBit i + (B.testBit i).toNat) := hide rfl
        cases hb : B.testBit i with
        | true =>
          rw [hb] at HC HS
          clear hb
          generalize cnt B.testBit i = c at *
          go_wp2_with (go_at_call 10; refine HC.out.mono ?_; rintro e w' ⟨rfl, rfl⟩)
          go_round
          case rel => exact ⟨i + 1, by omega, by go_num, by rw [HS.out]; go_num⟩
          case measure => simp [intOf]; omega
        | false =>
          rw [hb] at HC HS
          clear hb
          generalize cnt B.testBit i = c at *
          go_wp2_with (go_at_call 10; refine HC.out.mono ?_; rintro e w' ⟨rfl, rfl⟩)
          go_round
          case rel => exact ⟨i + 1, by omega, by go_num, by rw [HS.out]; rfl⟩
          case measure => simp [intOf]; omega
      · have ei : i = n := by omega
        subst ei
        have HT : Hid ((wlk B i s).length = cnt B.testBit i) := HWL
        generalize cnt B.testBit i = T at *
        go_wp2_with fail
        go_loopw [12, 13, 14] (fun x y z W => ∃ (k : Nat) (rest : List Int) (last : Int) (wr : Bool), k + rest.length = T ∧ x = .int .i64 last ∧ y = .bool wr ∧ z = .int .i64 (k : Int) ∧ RI B i s rest last wr ∧ RS w W p rest) (fun _ _ z _ => T - (intOf z).toNat)
        case atStart => exact ⟨0, _, _, _, by rw [HT.out]; omega, rfl, rfl, rfl, HRI.out, HR.out⟩
        case round =>
          obtain ⟨k, rest, last, wr, hkT, rfl, rfl, rfl, hRI, hRS⟩ := hrel
          have HS := hide hRS
          clear hRS HR HSET2 HRI
          cases rest with
          | nil =>
            have hk : k = T := by simpa using hkT
            have hnl : ¬ (k : Int) < (T : Int) := by omega
            have HL := hide HS.out.left
            have HX := hide HS.out.nextN
            clear hk hkT hRI
            go_wp2_with (first
              | (go_at_call 12; refine HX.out.mono ?_; rintro e w' ⟨rfl, rfl⟩)
              | (go_at_call 11; refine HL.out.mono ?_; rintro e w' ⟨rfl, rfl⟩)
              | (go_at_call 9; refine (num_any _ _).mono ?_; rintro e w' ⟨rfl, rfl⟩))
            go_ret
            exact ⟨by simp, HS.out.bel⟩
          | cons y r =>
            obtain ⟨⟨g1, g2, g3⟩, g4⟩ := hRI.step
            obtain ⟨y, rfl⟩ : ∃ m : Nat, y = (m : Int) := ⟨y.toNat, by omega⟩
            rw [Int.toNat_natCast] at g3
            have hkl : (k : Int) < (T : Int) := by simp at hkT; omega
            have HL := hide HS.out.left
            rw [show (((y : Int) :: r).length : Int) = (T : Int) - (k : Int) by simp at hkT ⊢; omega] at HL
            have HX := hide HS.out.nextS
            have HSE : Hid (∀ W, Below w.heap.size w W → Calls Tryd.prog 10 #[.slice (some ⟨b, off, none⟩) len cap, .int .i64 (y : Int)] W fun e w' => e = .returned (.bool true) ∧ w' = W) := hide fun W hW => by
              have := HSET.out W hW y (by omega)
              rwa [g3] at this
            have HKT : Hid (k + 1 + r.length = T) := hide (by simp at hkT; omega)
            clear hkT hRI g3
            have hy0 : ¬ (y : Int) < 0 := by omega
            rcases g4 with ⟨rfl, g4, g5, g6⟩ | ⟨rfl, g4, g6⟩ | ⟨rfl, g4, g5, g6⟩
            all_goals
              have HRI2 := hide g6
              clear g6
              go_wp2_with (first
                | (go_at_call 12; refine HX.out.mono ?_; rintro e w5 ⟨rfl, hR5⟩; have HR5 := hide hR5; have HSE5 := hide (HSE.out _ hR5.bel); clear hR5 HX)
                | (go_at_call 11; refine HL.out.mono ?_; rintro e w' ⟨rfl, rfl⟩; clear HL)
                | (go_at_call 10; refine HSE5.out.mono ?_; rintro e w' ⟨rfl, rfl⟩)
                | (go_at_call 9; refine (num_any _ _).mono ?_; rintro e w' ⟨rfl, rfl⟩))
              go_roundw
              case rel => exact ⟨k + 1, r, _, _, HKT.out, rfl, rfl, by go_num, HRI2.out, HR5.out⟩
              case measure => have := HKT.out; simp [intOf]; omega
  · go_enter Tryd.func3, Tryd.ntmps3
    go_wp2_with (first
      | (go_at_call 8; refine HO.out.mono ?_; rintro e w1 ⟨v1, rfl, hU1, hB1, hN1⟩; have HU1 := hide hU1; have HB1 := hide hB1; clear hU1 hB1 hN1 HO)
      | (go_at_call 7; refine (HNW.out _ _ HB1.out HU1.out).mono ?_; rintro e w2 ⟨p, rfl, hR⟩; have HR := hide hR; have kk := HCL.out _ hR.bel; clear hR HNW)
      | (go_at_call 9; refine (num_any _ _).mono ?_; rintro e w' ⟨rfl, rfl⟩))
    clear hnn hm1 kk
    have HSET2 := hide (HSET.out _ HR.out.bel)
    go_loop [10, 11] (fun x y => ∃ i : Nat, i ≤ n ∧ y = .int .i64 (i : Int) ∧ x = .int .i64 ((cnt B.testBit i : Nat) : Int)) (fun x y => n - (intOf y).toNat)
    case atStart => exact ⟨0, Nat.zero_le _, rfl, rfl⟩
    case round =>
      obtain ⟨i, hi, rfl, rfl⟩ := hrel
      have hci := HCN.out i
      by_cases hlt : i < n
      · have hil : (i : Int) < (n : Int) := by omega
        have HC := hide (HSET2.out i hlt)
        have HS : Hid (cnt B.testBit (i + 1) = cnt B.testBit i + (B.testBit i).toNat) := hide rfl
        cases hb : B.testBit i with
        | true =>
          rw [hb] at HC HS
          clear hb
          generalize cnt B.testBit i = c at *
          go_wp2_with (go_at_call 10; refine HC.out.mono ?_; rintro e w' ⟨rfl, rfl⟩)
          go_round
          case rel => exact ⟨i + 1, by omega, by go_num, by rw [HS.out]; go_num⟩
          case measure => simp [intOf]; omega
        | false =>
          rw [hb] at HC HS
          clear hb
          generalize cnt B.testBit i = c at *
          go_wp2_with (go_at_call 10; refine HC.out.mono ?_; rintro e w' ⟨rfl, rfl⟩)
          go_round
          case rel => exact ⟨i + 1, by omega, by go_num, by rw [HS.out]; rfl⟩
          case measure => simp [intOf]; omega
      · have ei : i = n := by omega
        subst ei
        have HT : Hid ((wlk B i s).length = cnt B.testBit i) := HWL
        generalize cnt B.testBit i = T at *
        go_wp2_with fail
        go_loopw [12, 13, 14] (fun x y z W => ∃ (k : Nat) (rest : List Int) (last : Int) (wr : Bool), k + rest.length = T ∧ x = .int .i64 last ∧ y = .bool wr ∧ z = .int .i64 (k : Int) ∧ RI B i s rest last wr ∧ RS w W p rest) (fun _ _ z _ => T - (intOf z).toNat)
        case atStart => exact ⟨0, _, _, _, by rw [HT.out]; omega, rfl, rfl, rfl, HRI.out, HR.out⟩
        case round =>
          obtain ⟨k, rest, last, wr, hkT, rfl, rfl, rfl, hRI, hRS⟩ := hrel
          have HS := hide hRS
          clear hRS HR HSET2 HRI
          cases rest with
          | nil =>
            have hk : k = T := by simpa using hkT
            have hnl : ¬ (k : Int) < (T : Int) := by omega
            have HL := hide HS.out.left
            have HX := hide HS.out.nextN
            clear hk hkT hRI
            go_wp2_with (first
              | (go_at_call 12; refine HX.out.mono ?_; rintro e w' ⟨rfl, rfl⟩)
              | (go_at_call 11; refine HL.out.mono ?_; rintro e w' ⟨rfl, rfl⟩)
              | (go_at_call 9; refine (num_any _ _).mono ?_; rintro e w' ⟨rfl, rfl⟩))
            go_ret
            exact ⟨by simp, HS.out.bel⟩
          | cons y r =>
            obtain ⟨⟨g1, g2, g3⟩, g4⟩ := hRI.step
            obtain ⟨y, rfl⟩ : ∃ m : Nat, y = (m : Int) := ⟨y.toNat, by omega⟩
            rw [Int.toNat_natCast] at g3
            have hkl : (k : Int) < (T : Int) := by simp at hkT; omega
            have HL := hide HS.out.left
            rw [show (((y : Int) :: r).length : Int) = (T : Int) - (k : Int) by simp at hkT ⊢; omega] at HL
            have HX := hide HS.out.nextS
            have HSE : Hid (∀ W, Below w.heap.size w W → Calls Tryd.prog 10 #[.slice (some ⟨b, off, none⟩) len cap, .int .i64 (y : Int)] W fun e w' => e = .returned (.bool true) ∧ w' = W) := hide fun W hW => by
              have := HSET.out W hW y (by omega)
              rwa [g3] at this
            have HKT : Hid (k + 1 + r.length = T) := hide (by simp at hkT; omega)
            clear hkT hRI g3
            have hy0 : ¬ (y : Int) < 0 := by omega
            rcases g4 with ⟨rfl, g4, g5, g6⟩ | ⟨rfl, g4, g6⟩ | ⟨rfl, g4, g5, g6⟩
            all_goals
              have HRI2 := hide g6
              clear g6
              go_wp2_with (first
                | (go_at_call 12; refine HX.out.mono ?_; rintro e w5 ⟨rfl, hR5⟩; have HR5 := hide hR5; have HSE5 := hide (HSE.out _ hR5.bel); clear hR5 HX)
                | (go_at_call 11; refine HL.out.mono ?_; rintro e w' ⟨rfl, rfl⟩; clear HL)
                | (go_at_call 10; refine HSE5.out.mono ?_; rintro e w' ⟨rfl, rfl⟩)
                | (go_at_call 9; refine (num_any _ _).mono ?_; rintro e w' ⟨rfl, rfl⟩))
              go_roundw
              case rel => exact ⟨k + 1, r, _, _, HKT.out, rfl, rfl, by go_num, HRI2.out, HR5.out⟩
              case measure => have := HKT.out; simp [intOf]; omega
end Go.Proofs.YtophcdfaflehcaaDoor
