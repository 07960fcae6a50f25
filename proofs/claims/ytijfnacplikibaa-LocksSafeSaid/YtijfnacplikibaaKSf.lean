import Derived.Test.YtijfnacplikibaaKSf0
namespace Go.Proofs.Ytijfnacplikibaa
open Go.RowKit
set_option linter.unusedVariables false
set_option linter.unusedSimpArgs false
set_option maxRecDepth 20000

set_option maxHeartbeats 2000000 in
theorem AS.sound {w x : World} {p b n : Nat} {V : Nat → Value} {L : LL} {ws wt : Int} {B : Nat} (h : AS w x p b n V L ws wt B) (hB : B ≤ 3900000000000) {e : Nat} (he : e < n) : Calls Try.prog 22 #[.pointer (some ⟨p, 0, none⟩), .int .i64 (e : Int)] x fun e' y => e' = .returned (.tuple #[.int .i64 (((L (e * 2 + 1)).map Prod.fst).length : Int), .bool true]) ∧ AS w y p b n V L ws wt B := by
  obtain ⟨fm, fh, fw⟩ := snd_facts (h.ok e he)
  have HHA := hide (h.holders (by omega) he)
  have HWA := hide fun x (h : AS w x p b n V L ws wt B) => h.waiters (by omega) he
  have HHO := hide fun x o (h : AS w x p b n V L ws wt B) => h.holds he o
  have HNU := hide fun x z => num_any x z
  have FH := hide fh
  have FW := hide fw
  clear fh fw h
  generalize (L (e * 2)).map Prod.fst = lh at *
  generalize (L (e * 2 + 1)).map Prod.fst = lw at *
  generalize modeOf (L (e * 2)) = mo at *
  generalize hN : lh.length = N at *
  generalize hM : lw.length = M at *
  have HLN := hide hN
  have HLM := hide hM
  have HRF := hide fun x v (h : IRow x v lh) => rowForm h
  have HRG := hide fun x v (h : IRow x v lw) => rowForm h
  rw [hN] at HRF
  rw [hM] at HRG
  clear hN hM
  have HF : ((mo = 0 ∧ ((N : Int) == 0) = true ∧ ¬ (0 : Int) < (M : Int)) ∨ (mo = 1 ∧ ((N : Int) == 0) = false ∧ ¬ (0 : Int) < 0) ∨ (mo = 2 ∧ ((N : Int) == 0) = false ∧ ((N : Int) != 1) = false)) := by
    rcases fm with ⟨e1, e2, e3⟩ | ⟨e1, e2⟩ | ⟨e1, e2⟩
    · exact .inl ⟨e1, by rw [e2]; rfl, by omega⟩
    · exact .inr (.inl ⟨e1, by simpa using e2, by omega⟩)
    · exact .inr (.inr ⟨e1, by rw [e2]; rfl, by rw [e2]; rfl⟩)
  clear fm
  rcases HF with ⟨rfl, hN1, hN2⟩ | ⟨rfl, hN1, hN2⟩ | ⟨rfl, hN1, hN2⟩
  all_goals
    have HN1 := hide hN1
    go_enter Try.func22, Try.ntmps22
    go_wp2_with (first
      | (go_at_call 14; refine HHA.out.mono ?_; rintro e' w5 ⟨v1, rfl, hA5, hC5, hI5, -⟩; have HA5 := hide hA5; have HI5 := hide hI5; obtain ⟨a1, c1, ev, b1, b2⟩ := HRF.out _ _ hI5; unfold maxLen at b2; subst ev; clear hA5 hC5 hI5 HHA)
      | (go_at_call 13; refine (HWA.out _ HA5.out).mono ?_; rintro e' w6 ⟨v2, rfl, hA6, hC6, hI6, -⟩; have HA6 := hide hA6; have HJ6 := hide hI6; have HI6 := hide (HA5.out.irowA HI5.out hC6); obtain ⟨a2, c2, ev, b3, b4⟩ := HRG.out _ _ hI6; unfold maxLen at b4; subst ev; clear hA6 hC6 hI6 HWA HA5 HI5)
      | (go_at_call 15; refine (HNU.out _ _).mono ?_; rintro e' wq ⟨rfl, hwq⟩; have hwq2 := hwq.symm; clear hwq; subst hwq2))
    go_loopw [11] (fun xv wr => ∃ j : Nat, j ≤ N ∧ xv = .int .i64 (j : Int) ∧ AS w wr p b n V L ws wt B ∧ IRow wr (.slice a1 N c1) lh ∧ IRow wr (.slice a2 M c2) lw) (fun xv _ => N - (intOf xv).toNat)
    case atStart => exact ⟨0, Nat.zero_le _, rfl, HA6.out, HI6.out, HJ6.out⟩
    case round =>
      obtain ⟨j, hj, rfl, hA7, hI7, hJ7⟩ := hrel
      have HA7 := hide hA7
      have HI7 := hide hI7
      have HJ7 := hide hJ7
      clear hA7 hI7 hJ7 HA6 HI6 HJ6
      by_cases hlt : j < N
      · first
        | (exfalso; have h0 := beq_iff_eq.1 HN1.out; omega)
        | skip
        all_goals
          obtain ⟨g1, g2, g3⟩ := FH.out j hlt
          obtain ⟨g, rfl, cx⟩ := HI7.out.seen j (by rw [HLN.out]; exact hlt)
          have hii : 0 ≤ (j : Int) ∧ (j : Int) < (N : Int) := ⟨by omega, by omega⟩
          have HH1 := hide fun z (hz : IRow z (.slice a2 M c2) lw) => has_any z _ _ (lh.getD j 0) hz
          rw [g1] at HH1
          have HH2 := hide fun z (hz : IRow z (.slice (some ⟨g, 0, none⟩) N c1) lh) => hz.front (j := j) (by rw [HLN.out]; omega) (lh.getD j 0)
          rw [g2] at HH2
          have HH3 := hide fun z (hz : AS w z p b n V L ws wt B) => HHO.out z (lh.getD j 0) hz
          rw [g3] at HH3
          clear g1 g2 g3
          have HSE := hide fun z (hz : IRow z (.slice (some ⟨g, 0, none⟩) N c1) lh) => hz.seen j (by rw [HLN.out]; exact hlt)
          generalize lh.getD j 0 = ov at *
          have HA8 := hide (HA7.out.drew)
          have HI8 : Hid (IRow wr.drew _ lh) := hide (HI7.out.kept fun _ _ => rfl)
          have HJ8 : Hid (IRow wr.drew _ lw) := hide (HJ7.out.kept fun _ _ => rfl)
          have hb5 : (0 : Int) ≤ (j : Int) ∧ (j : Int) ≤ (c1 : Int) := ⟨by omega, by omega⟩
          have hnot : ∀ (x : Bool) (w : World), (Op.unary .not (.bool x)).run Try.prog w = .ok (.bool (!x)) w := fun _ _ => rfl
          go_wp2_with fail
          go_region_held3 (fun z => z.cell? ⟨g, j, none⟩ = some (.int .i64 ov)) (first | exact cx | exact cy | assumption)
            (first
              | (go_at_call 20; refine (HH1.out _ HJ8.out).mono ?_; rintro e' wq ⟨rfl, hwq⟩; have hwq2 := hwq.symm; clear hwq; subst hwq2; clear HH1)
              | (go_at_call 20; refine (HH2.out _ HI8.out).mono ?_; rintro e' wq ⟨rfl, hwq⟩; have hwq2 := hwq.symm; clear hwq; subst hwq2; clear HH2)
              | (go_at_call 35; refine (HH3.out _ HA8.out).mono ?_; rintro e' w9 ⟨rfl, hA9, hC9⟩; have HA9 := hide hA9; have HI9 := hide (HA8.out.irowA HI8.out hC9); have HJ9 := hide (HA8.out.irowA HJ8.out hC9); obtain ⟨g9, eg9, cy⟩ := HSE.out _ HI9.out; simp only [Option.some.injEq, Addr.mk.injEq] at eg9; obtain ⟨rfl, -, -⟩ := eg9; clear hA9 hC9 HH3))
          go_wp2_with fail
          go_roundw
          case rel => exact ⟨j + 1, by omega, by go_num, HA9.out, HI9.out, HJ9.out⟩
          case measure => simp [intOf]; omega
      · have hnl : ¬ (j : Int) < (N : Int) := by omega
        go_wp2_with fail
        go_loopw [12] (fun xv wr => ∃ j : Nat, j ≤ M ∧ xv = .int .i64 (j : Int) ∧ AS w wr p b n V L ws wt B ∧ IRow wr (.slice a2 M c2) lw) (fun xv _ => M - (intOf xv).toNat)
        case atStart => exact ⟨0, Nat.zero_le _, rfl, HA7.out, HJ7.out⟩
        case round =>
          obtain ⟨k, hk, rfl, hA8, hJ8⟩ := hrel
          have HA8 := hide hA8
          have HJ8 := hide hJ8
          clear hA8 hJ8 HA7 HI7 HJ7 FH
          by_cases hlt2 : k < M
          · obtain ⟨g2, g3⟩ := FW.out k hlt2
            obtain ⟨g, rfl, cx⟩ := HJ8.out.seen k (by rw [HLM.out]; exact hlt2)
            have hii : 0 ≤ (k : Int) ∧ (k : Int) < (M : Int) := ⟨by omega, by omega⟩
            have HH2 := hide fun z (hz : IRow z (.slice (some ⟨g, 0, none⟩) M c2) lw) => hz.front (j := k) (by rw [HLM.out]; omega) (lw.getD k 0)
            rw [g2] at HH2
            have HH3 := hide fun z (hz : AS w z p b n V L ws wt B) => HHO.out z (lw.getD k 0) hz
            rw [g3] at HH3
            clear g2 g3
            have HSE := hide fun z (hz : IRow z (.slice (some ⟨g, 0, none⟩) M c2) lw) => hz.seen k (by rw [HLM.out]; exact hlt2)
            generalize lw.getD k 0 = ov at *
            have HA9 := hide (HA8.out.drew)
            have HJ9 : Hid (IRow wr.drew _ lw) := hide (HJ8.out.kept fun _ _ => rfl)
            have hb5 : (0 : Int) ≤ (k : Int) ∧ (k : Int) ≤ (c2 : Int) := ⟨by omega, by omega⟩
            go_wp2_with fail
            go_region_held3 (fun z => z.cell? ⟨g, k, none⟩ = some (.int .i64 ov)) (first | exact cx | exact cy | assumption)
              (first
                | (go_at_call 20; refine (HH2.out _ HJ9.out).mono ?_; rintro e' wq ⟨rfl, hwq⟩; have hwq2 := hwq.symm; clear hwq; subst hwq2; clear HH2)
                | (go_at_call 35; refine (HH3.out _ HA9.out).mono ?_; rintro e' w9 ⟨rfl, hA10, hC10⟩; have HA10 := hide hA10; have HJ10 := hide (HA9.out.irowA HJ9.out hC10); obtain ⟨g9, eg9, cy⟩ := HSE.out _ HJ10.out; simp only [Option.some.injEq, Addr.mk.injEq] at eg9; obtain ⟨rfl, -, -⟩ := eg9; clear hA10 hC10 HH3))
            go_wp2_with fail
            go_roundw
            case rel => exact ⟨k + 1, by omega, by go_num, HA10.out, HJ10.out⟩
            case measure => simp [intOf]; omega
          · have hnl2 : ¬ (k : Int) < (M : Int) := by omega
            go_wp2_with fail
            go_ret2
            exact ⟨rfl, HA8.out⟩
end Go.Proofs.Ytijfnacplikibaa
