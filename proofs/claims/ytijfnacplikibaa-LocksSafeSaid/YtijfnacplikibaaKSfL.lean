import Derived.Test.YtijfnacplikibaaKSf
import Derived.Test.YtijfnacplikibaaKDIs
namespace Go.Proofs.Ytijfnacplikibaa
open Go.RowKit
set_option linter.unusedVariables false
set_option linter.unusedSimpArgs false
set_option maxRecDepth 20000

theorem has_nil (o : Int) : has [] o = false := by rw [has_not]; simp
theorem acq_first {n : Nat} {ws o : Int} (hn : 0 < n) : acq n nilLL ws 0 0 o 2 = ⟨0, true, upd nilLL 0 [(o, 2)], 0⟩ := by
  have hne : ¬ ¬ ((0 : Int) ≤ 0 ∧ (0 : Int) < (n : Int)) := fun hc => hc ⟨by omega, by omega⟩
  unfold acq
  rw [if_neg (by omega), if_neg hne]
  have h0 : ∀ k, nilLL k = [] := fun _ => rfl
  simp only [h0, has_nil, Int.toNat_zero, Nat.zero_mul]
  rw [if_neg (by simp), if_pos ⟨trivial, rfl⟩]
  rfl
theorem upd0 (o : Int) : upd nilLL 0 [(o, 2)] 0 = [(o, 2)] ∧ upd nilLL 0 [(o, 2)] 1 = [] := ⟨upd_same _ _ _, upd_other _ _ _ (by omega)⟩
theorem acq_again {n : Nat} {ws o : Int} (hn : 0 < n) : acq n (upd nilLL 0 [(o, 2)]) ws 0 0 o 1 = ⟨91, false, upd nilLL 0 [(o, 2)], 0⟩ := by
  have hne : ¬ ¬ ((0 : Int) ≤ 0 ∧ (0 : Int) < (n : Int)) := fun hc => hc ⟨by omega, by omega⟩
  have hh : has [(o, (2 : Int))] o = true := has_mem.2 (by simp)
  unfold acq
  rw [if_neg (by omega), if_neg hne]
  simp only [Int.toNat_zero, Nat.zero_mul, Nat.zero_add, (upd0 o).1, (upd0 o).2, hh]
  rw [if_pos (by simp)]
theorem acq_else {n : Nat} {ws o q : Int} (hn : 0 < n) (hq : q ≠ o) : (acq n (upd nilLL 0 [(o, 2)]) ws 0 0 q 2).gr = false ∧ (acq n (upd nilLL 0 [(o, 2)]) ws 0 0 q 2).err = if 0 < ws then 0 else 4 := by
  have hne : ¬ ¬ ((0 : Int) ≤ 0 ∧ (0 : Int) < (n : Int)) := fun hc => hc ⟨by omega, by omega⟩
  have hh : has [(o, (2 : Int))] q = false := has_not.2 (by simpa using hq)
  have hg : goesB [(o, (2 : Int))] 2 = false := rfl
  unfold acq
  rw [if_neg (by omega), if_neg hne]
  simp only [Int.toNat_zero, Nat.zero_mul, Nat.zero_add, (upd0 o).1, (upd0 o).2, hh, has_nil, hg]
  rw [if_neg (by simp), if_neg (by simp)]
  by_cases hw : 0 < ws
  · rw [if_neg (by omega), if_pos hw]; exact ⟨rfl, rfl⟩
  · rw [if_pos (by omega), if_neg hw]; exact ⟨rfl, rfl⟩
theorem xor_one_ne (o : Int) : bits .xor .i64 o 1 ≠ o := by
  intro h
  have h1 : bits .xor .i64 o 1 = IntKind.i64.wrap ((BitVec.ofInt 64 o ^^^ BitVec.ofInt 64 1).toNat : Int) := rfl
  rw [h1, BitVec.toNat_xor] at h
  have h2 : (BitVec.ofInt 64 (1 : Int)).toNat = 1 := by decide
  rw [h2, BitVec.toNat_ofInt] at h
  have h3 := Nat.xor_mod_two_eq_one (a := (o % ((2 ^ 64 : Nat) : Int)).toNat) (b := 1)
  generalize (o % ((2 ^ 64 : Nat) : Int)).toNat ^^^ 1 = z at *
  simp [IntKind.wrap, IntKind.bits, IntKind.signed] at h
  omega
theorem AS.call {w x : World} {p b n : Nat} {V : Nat → Value} {L : LL} {ws wt : Int} {B : Nat} (h : AS w x p b n V L ws wt B) (hB : B ≤ 3900000000000) (kind : Int) (snd : Bool) (e md o : Int) : Calls Try.prog 11 #[.pointer (some ⟨p, 0, none⟩), .agg #[.int .i64 kind, .bool snd, .int .i64 e, .int .i64 md, .int .i64 o]] x fun e' y => e' = .returned (.tuple #[]) ∧ ∃ V', AS w y p b n V' (cal n L ws wt kind e md o).1 ws (cal n L ws wt kind e md o).2 (B + 1) := by
  refine (call_any x p b n V L ws wt kind snd e md o B h.t h.wf hB).mono ?_
  rintro e' y ⟨rfl, V', hT, hTr⟩
  exact ⟨rfl, V', h.step hT (cal_wf h.wf kind e md o) (cal_ok h.ok ws wt kind e md o) hTr fun g h => h.elim⟩
theorem rowsum_le (L : LL) : ∀ {j n : Nat}, j ≤ n → rowsum L j ≤ rowsum L n
  | j, 0, h => by have : j = 0 := by omega
                  subst this; exact Nat.le_refl _
  | j, n + 1, h => by
    by_cases e : j = n + 1
    · subst e; exact Nat.le_refl _
    · have := rowsum_le L (j := j) (n := n) (by omega)
      rw [rowsum]; omega
set_option maxHeartbeats 4000000 in
theorem safe_law (w : World) (a b o : Int) (v : Value) (os : List OpV) (hv : OSl w v os) (hl : os.length ≤ 3518437208883) : Calls Try.prog 7 #[.agg #[.int .i64 a, .int .i64 b], v, .int .i64 o] w fun e' w' => e' = .returned (.bool true) ∧ Below w.heap.size w w' := by
  have HB0 := hide ((Below.refl w.heap.size w).alloc (Nat.le_refl _) (.cells #[.int .i64 a, .int .i64 b] 23))
  have HM := hide fun x => may_any x a b
  obtain ⟨av, cv, rfl, hv1, hv2, hv3⟩ := hv
  cases hk : okN a b with
  | false =>
    rw [hk] at HM
    clear hv3
    go_enter Try.func7, Try.ntmps7
    go_wp2_with (go_at_call 9; refine (HM.out _).mono ?_; rintro e' w2 ⟨rfl, hb2⟩; have HB2 := hide (HB0.out.trans (hb2.mono (by simp))); clear HM hb2)
    go_ret
    exact ⟨rfl, HB2.out⟩
  | true =>
    rw [hk] at HM
    obtain ⟨h1, h2, h3, h4⟩ := okN_yes hk
    obtain ⟨n, rfl⟩ : ∃ n : Nat, a = (n : Int) := ⟨a.toNat, by omega⟩
    have hn0 : 0 < n := by omega
    have HC0 := hide (box_at (w := w) (a := (n : Int)) (b := b))
    have HTB := hide fun x => table_any x n b hk
    have HOS := hide (ops_at HB0.out hv3)
    clear hv3 hk
    generalize hN : os.length = N at *
    clear hN
    unfold maxLen at hv2
    have HQ1 := hide fun w1 x p bb V (h : AS w1 x p bb n V nilLL b 0 0) => h.acquire (by omega) 0 2 o
    rw [acq_first hn0] at HQ1
    have HQ2 := hide fun w1 x p bb V (h : AS w1 x p bb n V (upd nilLL 0 [(o, 2)]) b 0 1) => h.acquire (by omega) 0 1 o
    rw [acq_again hn0] at HQ2
    have HQ3 := hide fun w1 x p bb V (h : AS w1 x p bb n V (upd nilLL 0 [(o, 2)]) b 0 2) => h.acquire (by omega) 0 2 (bits .xor .i64 o 1)
    obtain ⟨q1, q2⟩ := acq_else (n := n) (ws := b) (o := o) hn0 (xor_one_ne o)
    rw [q1, q2] at HQ3
    clear q1 q2
    dsimp only at HQ1 HQ2
    generalize (acq n (upd nilLL 0 [(o, 2)]) b 0 0 (bits .xor .i64 o 1) 2).L = L3 at *
    generalize (acq n (upd nilLL 0 [(o, 2)]) b 0 0 (bits .xor .i64 o 1) 2).wt = wt3 at *
    have HNU := hide fun x z => num_any x z
    have HE : (0 < b ∧ (if 0 < b then (0 : Int) else 4) = 0) ∨ (¬ 0 < b ∧ (if 0 < b then (0 : Int) else 4) = 4) := by
      by_cases hb0 : 0 < b
      · exact .inl ⟨hb0, if_pos hb0⟩
      · exact .inr ⟨hb0, if_neg hb0⟩
    generalize (if 0 < b then (0 : Int) else 4) = er3 at *
    rcases HE with ⟨hb0, rfl⟩ | ⟨hb0, rfl⟩
    all_goals
      go_enter Try.func7, Try.ntmps7
      go_wp2_with (first
        | (go_at_call 9; refine (HM.out _).mono ?_; rintro e' w2 ⟨rfl, hb2⟩; have HB2 := hide hb2; obtain ⟨c0, c1⟩ := HC0.out _ hb2; clear HM hb2)
        | (go_at_call 10; refine (HTB.out _).mono ?_; rintro e' w3 ⟨p, bb, rfl, hT3, hb3, hp3, hbb3⟩; have HAS := hide (as_new (w := w.alloc (.cells #[.int .i64 (n : Int), .int .i64 b] 23)) hT3 (HB2.out.trans (hb3.mono HB2.out.size)) (Nat.le_trans HB2.out.size hp3) (Nat.le_trans HB2.out.size hbb3) ⟨h3, h4⟩); obtain ⟨x0, x1⟩ := HC0.out _ HAS.out.bel; clear hT3 hb3 hp3 hbb3 HB2)
        | (go_at_call 12; refine (HQ1.out _ _ _ _ _ HAS.out).mono ?_; rintro e' w4 ⟨rfl, V4, hA4, -⟩; have HA4 := hide hA4; obtain ⟨x2, x3⟩ := HC0.out _ hA4.bel; clear hA4 HQ1 HAS)
        | (go_at_call 12; refine (HQ2.out _ _ _ _ _ HA4.out).mono ?_; rintro e' w5 ⟨rfl, V5, hA5, -⟩; have HA5 := hide hA5; obtain ⟨x4, x5⟩ := HC0.out _ hA5.bel; clear hA5 HQ2 HA4)
        | (go_at_call 12; refine (HQ3.out _ _ _ _ _ HA5.out).mono ?_; rintro e' w6 ⟨rfl, V6, hA6, -⟩; have HA6 := hide hA6; obtain ⟨x6, x7⟩ := HC0.out _ hA6.bel; clear hA6 HQ3 HA5)
        | (go_at_call 15; refine (HNU.out _ _).mono ?_; rintro e' wq ⟨rfl, hwq⟩; have hwq2 := hwq.symm; clear hwq; subst hwq2))
      generalize w.alloc (.cells #[.int .i64 (n : Int), .int .i64 b] 23) = w1 at *
      go_loopw [16] (fun x wr => ∃ (i : Nat) (V : Nat → Value) (L : LL) (wt : Int), i ≤ N ∧ x = .int .i64 (i : Int) ∧ AS w1 wr p bb n V L b wt (i + 3)) (fun x _ => N - (intOf x).toNat)
      case atStart => exact ⟨0, _, _, _, Nat.zero_le _, rfl, HA6.out⟩
      case round =>
        obtain ⟨i, V, L, wt, hi, rfl, hA⟩ := hrel
        have HA := hide hA
        clear hA HA6
        by_cases hlt : i < N
        · obtain ⟨g, off, rfl, ⟨e0, e1⟩, e2, e3, e4⟩ := HOS.out _ HA.out.bel i hlt
          generalize os.getD i default = s at *
          obtain ⟨kind, snd, ee, md, oo⟩ := s
          dsimp only at e0 e1 e2 e3 e4
          have hii : 0 ≤ (i : Int) ∧ (i : Int) < (N : Int) := ⟨by omega, by omega⟩
          have hb9 := (Below.refl wr.heap.size wr).alloc (Nat.le_refl _) (.cells #[.int .i64 kind, .bool snd, .int .i64 ee, .int .i64 md, .int .i64 oo] 30)
          have HCL := hide ((HA.out.below hb9).call (by omega) kind snd ee md oo)
          generalize cal n L b wt kind ee md oo = R1 at *
          obtain ⟨L1, wt1⟩ := R1
          dsimp only at HCL
          clear hb9
          go_wp2_with (go_at_call 11; refine HCL.out.mono ?_; rintro e' w7 ⟨rfl, V7, hA7⟩; have HA7 := hide hA7; obtain ⟨y0, y1⟩ := HC0.out _ hA7.bel; clear hA7 HCL)
          have HSM : Hid (wt1 = (rowsum L1 n : Int)) := hide HA7.out.wf.sum
          have hle : wt1 ≤ b := HA7.out.wf.le
          go_loopw [18, 19] (fun sv x wr => ∃ j : Nat, j ≤ n ∧ sv = .int .i64 (rowsum L1 j : Int) ∧ x = .int .i64 (j : Int) ∧ AS w1 wr p bb n V7 L1 b wt1 (i + 4)) (fun _ x _ => n - (intOf x).toNat)
          case atStart => exact ⟨0, Nat.zero_le _, rfl, rfl, HA7.out⟩
          case round =>
            obtain ⟨j, hj, rfl, rfl, hA8⟩ := hrel
            have HA8 := hide hA8
            obtain ⟨y2, y3⟩ := HC0.out _ hA8.bel
            clear hA8 HA7
            have hr0 : (rowsum L1 j : Int) ≤ wt1 := by have := rowsum_le L1 hj; have := HSM.out; omega
            by_cases hjn : j < n
            · have HSD := hide (HA8.out.sound (by omega) hjn)
              have hr1 : (rowsum L1 (j + 1) : Int) ≤ wt1 := by have := rowsum_le L1 (show j + 1 ≤ n by omega); have := HSM.out; omega
              have hr2 : (rowsum L1 (j + 1) : Int) = (rowsum L1 j : Int) + (((L1 (j * 2 + 1)).map Prod.fst).length : Int) := by rw [rowsum, List.length_map]; omega
              have HR2 := hide hr2
              rw [hr2] at hr1
              clear hr2
              generalize ((L1 (j * 2 + 1)).map Prod.fst).length = k at *
              generalize rowsum L1 j = r0 at *
              go_wp2_with (go_at_call 22; refine HSD.out.mono ?_; rintro e' w8 ⟨rfl, hA9⟩; have HA9 := hide hA9; clear hA9 HSD)
              go_roundw
              case rel => exact ⟨j + 1, by omega, by rw [HR2.out], by go_num, HA9.out⟩
              case measure => simp [intOf]; omega
            · have ej : j = n := by omega
              have hnl2 : ¬ (j : Int) < (n : Int) := by omega
              have ew : (rowsum L1 j : Int) = wt1 := by rw [ej]; exact HSM.out.symm
              rw [ew]
              clear ew hr0
              have hww : (wt1 != wt1) = false := by simp
              have hgt : ¬ b < wt1 := by omega
              have HWG := hide HA8.out.waiting
              go_wp2_with (go_at_call 21; refine HWG.out.mono ?_; rintro e' w9 ⟨rfl, hA9, -⟩; have HA9 := hide hA9; obtain ⟨y4, y5⟩ := HC0.out _ hA9.bel; clear hA9 HWG)
              go_roundw
              case rel => exact ⟨i + 1, _, _, _, by omega, by go_num, HA9.out⟩
              case measure => simp [intOf]; omega
        · have hnl : ¬ (i : Int) < (N : Int) := by omega
          have HFB := hide (HB0.out.trans (HA.out.bel.mono HB0.out.size))
          go_wp2_with fail
          go_ret
          exact ⟨rfl, HFB.out⟩
end Go.Proofs.Ytijfnacplikibaa
