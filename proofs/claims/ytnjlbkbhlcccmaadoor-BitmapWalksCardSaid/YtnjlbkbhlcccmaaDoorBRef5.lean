import Derived.Test.YtnjlbkbhlcccmaaDoorBRef4
namespace Go.Proofs.YtnjlbkbhlcccmaaDoor
open Go.RowKit Go.Shelf
set_option linter.unusedVariables false
set_option linter.unusedSimpArgs false
set_option maxRecDepth 20000

theorem rMerge_no {w : World} {R : RL} {n B : Nat} {v : Value} {l : List Nat} (h : RRep w R n B) (hv : WSl w v l) (he : cwErr n l ≠ 0) :
    Calls Tryd.prog 40 #[PR R, v] w fun e w' => e = .returned (.tuple #[.int .i64 0, .int .i64 ((cwErr n l : Nat) : Int)]) ∧ w' = w := by
  have HL := hide (Listed_any h.n1 h.n2 hv)
  have hne : (((cwErr n l : Nat) : Int) != 0) = true := by simpa using he
  have c0 := h.c0
  have hn := h.n2
  obtain ⟨a, cap, rfl, q1, q2, q3, q4, q5⟩ := hv
  clear q5 q4 h he
  unfold PR
  generalize cwErr n l = r at *
  generalize l.length = len at *
  go_enter Tryd.func40, Tryd.ntmps40
  go_wp2_with (go_at_call 26; refine HL.out.mono ?_; rintro e w' ⟨rfl, hw'⟩; cases hw')
  go_ret2
  exact ⟨rfl, rfl⟩
theorem or_mod_step {B V k : Nat} : ∀ j, (B ||| V % 2 ^ (k + 1)).testBit j = if j = k then (B.testBit k || V.testBit k) else (B ||| V % 2 ^ k).testBit j := fun j => by
  rw [Nat.testBit_or, Nat.testBit_or, mod_step]
  by_cases e : j = k
  · subst e; rw [if_pos rfl, if_pos rfl]
  · rw [if_neg e, if_neg e]
set_option maxHeartbeats 1000000 in
theorem rMerge_any {w : World} {R : RL} {n B : Nat} {v : Value} {l : List Nat} (h : RRep w R n B) (hv : WSl w v l) (he : cwErr n l = 0) :
    Calls Tryd.prog 40 #[PR R, v] w fun e w' => e = .returned (.tuple #[.int .i64 ((news B (valW l) n : Nat) : Int), .int .i64 0]) ∧ RRep w' R n (B ||| valW l) ∧ Chg R.U w w' := by
  have HL := hide (Listed_any h.n1 h.n2 hv)
  rw [he] at HL
  obtain ⟨e1, e2⟩ := valW_listed h.n1 hv.lt he
  have HBo := hide (bools_any hv h.n1 h.n2 e1 e2)
  unfold BoolsAt at HBo
  have c0 := h.c0
  have hn := h.n2
  have hn1 := h.n1
  have HH := hide h
  have HUL := hide h.uLt
  obtain ⟨a, cap, rfl, q1, q2, q3, q4, q5⟩ := hv
  clear q5 q4 h he e1
  unfold PR
  unfold news
  have HF := hide (fun k => cnt_succ (fun i => (valW l).testBit i && !B.testBit i) k)
  have HLE := hide (cnt_le (fun i => (valW l).testBit i && !B.testBit i))
  have HZ : Hid (cnt (fun i => (valW l).testBit i && !B.testBit i) 0 = 0) := hide rfl
  generalize cnt (fun i => (valW l).testBit i && !B.testBit i) = F at *
  generalize valW l = V at *
  generalize l.length = len at *
  have HV := hide e2
  clear e2
  have HEND : Hid (B ||| V % 2 ^ n = B ||| V) := hide (by rw [Nat.mod_eq_of_lt HV.out])
  have HST : Hid (B = B ||| V % 2 ^ 0) := hide (by rw [Nat.pow_zero, Nat.mod_one, Nat.or_zero])
  have HLT : Hid (∀ k, B ||| V % 2 ^ k < 2 ^ n) := hide fun k => or_lt HH.out.hB (Nat.lt_of_le_of_lt (Nat.mod_le _ _) HV.out)
  go_enter Tryd.func40, Tryd.ntmps40
  go_wp2_with (first
    | (go_at_call 26; refine HL.out.mono ?_; rintro e w' ⟨rfl, hw'⟩; cases hw')
    | (go_at_call 27; refine HBo.out.mono ?_; rintro e w1 ⟨u, rfl, rfl, hr, hb⟩; have HR0 := hide hr; have HB0 := hide hb; have hh1 := HH.out.below hb; have HH1 := hide hh1; clear hr hb hh1))
  go_loopw [8, 9] (fun x i wr => ∃ k : Nat, k ≤ n ∧ i = .int .i64 (k : Int) ∧ x = .int .i64 ((F k : Nat) : Int) ∧ RRep wr R n (B ||| V % 2 ^ k) ∧ Chg R.U w wr ∧ wr.heap[w.heap.size]? = some (.cells (boolRow V n) 4 (0, 0))) (fun _ i _ => n - (intOf i).toNat)
  case atStart => exact ⟨0, Nat.zero_le _, rfl, by rw [HZ.out]; rfl, HH1.out.bits HST.out, Chg.ofBelow HB0.out, HR0.out⟩
  case round =>
    obtain ⟨k, hk, rfl, rfl, hR, hC, hrow⟩ := hrel
    have HR := hide hR
    have HC := hide hC
    have HROW := hide hrow
    have hle := HLE.out k
    clear hC HL HBo HR0 HB0 HH1 c0
    by_cases hltk : k < n
    · have hcb := hR.cb (i := k) hltk
      have hc0 := hR.c0
      have hfb := hR.fb k
      have hcv : wr.cell? ⟨w.heap.size, k, none⟩ = some (.bool (V.testBit k)) := by rw [cell_of_row _ _ _ _ _ _ hrow, boolRow_get hltk]
      have e3 : (B ||| V % 2 ^ k).testBit k = B.testBit k := by rw [Nat.testBit_or, Nat.testBit_mod_two_pow]; simp
      rw [e3] at hcb
      have hf := HF.out k
      have HNS : Hid (V.testBit k = true → B.testBit k = false → RRep (wr.setCell ⟨R.b, k, none⟩ (.bool true)) R n (B ||| V % 2 ^ (k + 1)) ∧ Chg R.U w (wr.setCell ⟨R.b, k, none⟩ (.bool true)) ∧ (wr.setCell ⟨R.b, k, none⟩ (.bool true)).heap[w.heap.size]? = some (.cells (boolRow V n) 4 (0, 0))) := hide fun h1 h2 => by
        have hs := HR.out.set (B' := B ||| V % 2 ^ (k + 1)) (x := true) hltk (by rw [or_mod_step, if_pos rfl, h1]; simp) (fun j _ hj => by rw [or_mod_step, if_neg hj]) (HLT.out _)
        refine ⟨hs.1, HC.out.trans hs.2.1, ?_⟩
        rw [Go.heap_setCell_other _ _ _ _ (by have := HUL.out R.b (.inr rfl); dsimp only; omega)]
        exact HROW.out
      have HSM : Hid (¬ (V.testBit k = true ∧ B.testBit k = false) → RRep wr R n (B ||| V % 2 ^ (k + 1))) := hide fun h1 => HR.out.bits (Nat.eq_of_testBit_eq fun j => by
        rw [or_mod_step]
        by_cases e : j = k
        · subst e
          rw [if_pos rfl, e3]
          cases hB : B.testBit j
          · cases hV : V.testBit j
            · rfl
            · exact absurd ⟨hV, hB⟩ h1
          · simp
        · rw [if_neg e])
      clear hR hrow e3
      generalize V.testBit k = x at *
      generalize B.testBit k = y at *
      cases x <;> cases y <;> simp at hf
      all_goals
        go_wp2_with fail
        go_roundw
        case rel =>
          first
            | exact ⟨k + 1, by omega, by go_num, by rw [hf]; first | done | go_num, HSM.out (by simp), HC.out, HROW.out⟩
            | exact ⟨k + 1, by omega, by go_num, by rw [hf]; first | done | go_num, (HNS.out rfl rfl).1, (HNS.out rfl rfl).2.1, (HNS.out rfl rfl).2.2⟩
        case measure => simp [intOf]; omega
    · have ek : n = k := by omega
      subst ek
      have HFIN := hide (hR.bits HEND.out)
      clear hR hrow
      go_wp2_with fail
      go_ret2
      exact ⟨rfl, HFIN.out, HC.out⟩
end Go.Proofs.YtnjlbkbhlcccmaaDoor
