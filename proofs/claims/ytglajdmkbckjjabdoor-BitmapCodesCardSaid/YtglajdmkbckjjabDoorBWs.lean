import Derived.Test.YtglajdmkbckjjabDoorBWe
import Derived.Test.YtglajdmkbckjjabDoorBSt
namespace Go.Proofs.YtglajdmkbckjjabDoor
open Go.RowKit
set_option linter.unusedVariables false
set_option linter.unusedSimpArgs false
set_option maxRecDepth 20000

theorem wdigit_any {w0 w : World} {p : Nat} {cv : Value} {c : List Nat} {D : List Bool} (h : WS w0 w p cv c D) (d : Bool) (hD : D.length ≤ 10000000) :
    Calls Tryd.prog 26 #[.pointer (some ⟨p, 0, none⟩), .int .u64 ((d.toNat : Nat) : Int)] w fun e w' => e = .returned (.tuple #[]) ∧ ∃ cv' c', WS w0 w' p cv' c' (D ++ [d]) ∧ TF p w w' := by
  by_cases h8 : D.length % 8 = 0
  · exact wdigit_more h d hD h8
  · rcases h.own.2 with ⟨hv, hz⟩ | ⟨g, cap, cur, rfl, hg0, hgc, hnc, hcm, hcs, htk⟩
    · have := h.wrt.len
      omega
    · have hf : fil D.length = (fil D.length - 1) + 1 := by unfold fil; omega
      exact wdigit_room (m := fil D.length - 1) ⟨h.row, h.own, h.wrt.1, by rw [← hf]; exact h.wrt.2, by unfold fil; omega, h.chg, h.loc g rfl, h.pN⟩ d hD h8
/-- a writer, wherever its bytes lie -/
def WZ (w0 wA w : World) (p : Nat) (D : List Bool) : Prop := (∃ cv c, WS w0 w p cv c D) ∧ TF p wA w
theorem WZ.digit {w0 wA w : World} {p : Nat} {D : List Bool} (h : WZ w0 wA w p D) (d : Bool) (hD : D.length ≤ 10000000) :
    Calls Tryd.prog 26 #[.pointer (some ⟨p, 0, none⟩), .int .u64 ((d.toNat : Nat) : Int)] w fun e w' => e = .returned (.tuple #[]) ∧ WZ w0 wA w' p (D ++ [d]) := by
  obtain ⟨⟨cv, c, hS⟩, hT⟩ := h
  exact (wdigit_any hS d hD).mono fun e w' ⟨h1, cv', c', h2, h3⟩ => ⟨h1, ⟨cv', c', h2⟩, hT.trans h3⟩
theorem log_bit {x : Nat} (h : x ≠ 0) : x.testBit x.log2 = true := by
  have a1 := Nat.log2_self_le h
  have a2 := Nat.lt_log2_self (n := x)
  rw [Nat.testBit_eq_decide_div_mod_eq]
  have : x / 2 ^ x.log2 = 1 := by
    refine Nat.div_eq_of_lt_le (by omega) ?_
    rw [Nat.pow_succ] at a2
    omega
  rw [this]
  rfl
theorem bit_w (x k : Nat) (h : x < 18446744073709551616) : bits .and .u64 ((x : Int) / 2 ^ k) 1 = (((x.testBit k).toNat : Nat) : Int) := by
  have e : ((x : Int) / 2 ^ k) = ((x / 2 ^ k : Nat) : Int) := by simp
  have hl : x / 2 ^ k ≤ x := Nat.div_le_self _ _
  have h1 := u64_and_nat (x / 2 ^ k) 1 (by omega) (by decide)
  rw [e]
  refine h1.trans ?_
  rw [Nat.and_one_is_mod, Nat.toNat_testBit]
def stD (x : Nat) : List Bool := if x = 0 then [] else gam x
set_option maxHeartbeats 2000000 in
theorem wstretch_any {w0 wA w : World} {p : Nat} {D : List Bool} (h : WZ w0 wA w p D) (x : Nat) (hx : x ≤ 65536) (hD : D.length ≤ 9000000) :
    Calls Tryd.prog 28 #[.pointer (some ⟨p, 0, none⟩), .int .i64 (x : Int)] w fun e w' => e = .returned (.tuple #[]) ∧ WZ w0 wA w' p (D ++ stD x) := by
  have HZ := hide h
  clear h
  by_cases h0 : x = 0
  · subst h0
    have HE : Hid (D ++ stD 0 = D) := hide (by simp [stD])
    go_enter Tryd.func28, Tryd.ntmps28
    go_wp2_with fail
    refine bodyPost_ret (results_none rfl _ _ _) rfl ?_
    exact ⟨rfl, by rw [HE.out]; exact HZ.out⟩
  · have h0i : ((x : Int) == 0) = false := by simpa using h0
    have HL := hide fun W => len_any W x (by omega) hx
    have hl16 : x.log2 ≤ 16 := pow_small (Nat.log2_self_le h0) hx
    have hlb : x.testBit x.log2 = true := log_bit h0
    have HE : Hid (∀ E : List Bool, E = D ++ List.replicate x.log2 false ++ gamL (x.log2 + 1) x → D ++ stD x = E) := hide fun E hE => by
      rw [hE, stD, if_neg h0, gam, gamL, hlb, List.append_assoc]
    obtain ⟨L, hL⟩ : ∃ L, x.log2 = L := ⟨_, rfl⟩
    rw [hL] at HL hl16 HE
    have HBT := hide fun k => bit_w x k (by omega)
    clear hL hlb
    go_enter Tryd.func28, Tryd.ntmps28
    go_wp2_with (go_at_call 56; refine (HL.out _).mono ?_; rintro e w1 ⟨rfl, hw⟩; have hw2 := hw.symm; clear hw; subst hw2)
    clear HL
    go_loopw [13] (fun y wr => ∃ i : Nat, i ≤ L ∧ y = .int .i64 (i : Int) ∧ Hid (WZ w0 wA wr p (D ++ List.replicate i false))) (fun y _ => L - (intOf y).toNat)
    case atStart => exact ⟨0, Nat.zero_le _, rfl, hide (by simpa using HZ.out)⟩
    case round =>
      obtain ⟨i, hi, rfl, HW⟩ := hrel
      clear HZ
      by_cases hlt : i < L
      · have hli : (i : Int) < (L : Int) := by omega
        have HD := hide (HW.out.digit false (by simp; omega))
        simp only [Bool.toNat_false] at HD
        have HN : Hid (∀ W, WZ w0 wA W p (D ++ List.replicate i false ++ [false]) → WZ w0 wA W p (D ++ List.replicate (i + 1) false)) := hide fun W h => by
          rw [List.replicate_succ', ← List.append_assoc]
          exact h
        go_wp2_with (go_at_call 26; refine HD.out.mono ?_; clear HD; rintro e w2 ⟨rfl, h2⟩; have H2 := hide (HN.out _ h2); clear h2)
        go_roundw
        case rel => exact ⟨i + 1, by omega, by go_num, H2⟩
        case measure => simp [intOf]; omega
      · have hli : ¬ (i : Int) < (L : Int) := by omega
        obtain rfl : i = L := by omega
        go_wp2_with fail
        go_loopw [5] (fun y wr => ∃ (j : Nat) (E : List Bool), j ≤ i + 1 ∧ y = .int .i64 ((j : Int) - 1) ∧ E.length ≤ 9000050 - j ∧ Hid (WZ w0 wA wr p E) ∧ Hid (E ++ gamL j x = D ++ List.replicate i false ++ gamL (i + 1) x)) (fun y _ => (intOf y + 1).toNat)
        case atStart => exact ⟨i + 1, D ++ List.replicate i false, Nat.le_refl _, by go_num, by simp; omega, HW, hide rfl⟩
        case round =>
          obtain ⟨j, E, hj, rfl, hEl, HV, HG⟩ := hrel
          clear HW
          cases j with
          | zero =>
            have hge : ¬ (0 : Int) ≤ ((0 : Nat) : Int) - 1 := by omega
            have HF : Hid (D ++ stD x = E) := hide (HE.out E (by have := HG.out; rwa [gamL, List.append_nil] at this))
            clear HE HG
            go_wp2_with fail
            go_end0
            exact ⟨rfl, by rw [HF.out]; exact HV.out⟩
          | succ j =>
            have ej : (((j + 1 : Nat) : Int) - 1) = (j : Int) := by omega
            rw [ej]
            have HD := hide (HV.out.digit (x.testBit j) (by omega))
            have hbt := HBT.out j
            have HG2 : Hid ((E ++ [x.testBit j]) ++ gamL j x = D ++ List.replicate i false ++ gamL (i + 1) x) := hide (by rw [← HG.out, gamL]; simp)
            generalize x.testBit j = d at *
            clear HG
            go_wp2_with (go_at_call 26; refine HD.out.mono ?_; clear HD; rintro e w2 ⟨rfl, h2⟩; have H2 := hide h2; clear h2)
            go_roundw
            case rel => exact ⟨j, E ++ [d], by omega, rfl, by simp; omega, H2, HG2⟩
            case measure => simp [intOf] <;> omega
end Go.Proofs.YtglajdmkbckjjabDoor
