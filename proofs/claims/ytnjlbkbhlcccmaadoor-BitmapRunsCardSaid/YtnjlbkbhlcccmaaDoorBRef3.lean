import Derived.Test.YtnjlbkbhlcccmaaDoorBRef2
namespace Go.Proofs.YtnjlbkbhlcccmaaDoor
open Go.RowKit Go.Shelf
set_option linter.unusedVariables false
set_option linter.unusedSimpArgs false
set_option maxRecDepth 20000

theorem rFrom_no {w : World} {v : Value} {l : List Nat} (n : Int) (h : ¬ (1 ≤ n ∧ n ≤ 65536)) (hv : WSl w v l) :
    Calls Tryd.prog 11 #[.int .i64 n, v] w fun e w' => e = .returned (.tuple #[.pointer none, .int .i64 1]) ∧ w' = w := by
  obtain ⟨a, cap, rfl, q1, q2, q3, q4, q5⟩ := hv
  clear q5 q4
  by_cases h1 : n < 1
  · go_enter Tryd.func11, Tryd.ntmps11
    go_wp2
    go_ret2
    exact ⟨rfl, rfl⟩
  · have h2 : 65536 < n := by omega
    go_enter Tryd.func11, Tryd.ntmps11
    go_wp2
    go_ret2
    exact ⟨rfl, rfl⟩
theorem rFrom_bad {w : World} {v : Value} {l : List Nat} (n : Nat) (h1 : 1 ≤ n) (h2 : n ≤ 65536) (hv : WSl w v l) (he : cwErr n l ≠ 0) :
    Calls Tryd.prog 11 #[.int .i64 (n : Int), v] w fun e w' => e = .returned (.tuple #[.pointer none, .int .i64 ((cwErr n l : Nat) : Int)]) ∧ w' = w := by
  have HL := hide (Listed_any h1 h2 hv)
  have hne : (((cwErr n l : Nat) : Int) != 0) = true := by simpa using he
  obtain ⟨a, cap, rfl, q1, q2, q3, q4, q5⟩ := hv
  clear q5 q4
  generalize cwErr n l = r at *
  go_enter Tryd.func11, Tryd.ntmps11
  go_wp2_with (go_at_call 26; refine HL.out.mono ?_; rintro e w' ⟨rfl, hw'⟩; cases hw')
  go_ret2
  exact ⟨rfl, rfl⟩
set_option maxHeartbeats 1000000 in
theorem rFrom_any {w : World} {v : Value} {l : List Nat} (n : Nat) (h1 : 1 ≤ n) (h2 : n ≤ 65536) (hv : WSl w v l) (he : cwErr n l = 0) :
    Calls Tryd.prog 11 #[.int .i64 (n : Int), v] w fun e w' => ∃ R, e = .returned (.tuple #[PR R, .int .i64 0]) ∧ RNewAt w w' R n (valW l) := by
  have HL := hide (Listed_any h1 h2 hv)
  rw [he] at HL
  obtain ⟨e1, e2⟩ := valW_listed h1 hv.lt he
  have HB := hide (bools_any hv h1 h2 e1 e2)
  have HF : Hid (∀ w1, Below w.heap.size w w1 → w1.heap[w.heap.size]? = some (.cells (boolRow (valW l) n) 4 (0, 0)) → RNewAt w (w1.alloc (.cells #[.slice (some ⟨w.heap.size, 0, none⟩) n n] 70)) ⟨w1.heap.size, w.heap.size⟩ n (valW l)) := hide fun w1 hb hr =>
    rep_new hb (Nat.le_refl _) h1 h2 e2 hr
  unfold BoolsAt at HB
  obtain ⟨a, cap, rfl, q1, q2, q3, q4, q5⟩ := hv
  clear q5 q4 e2 e1 he
  generalize boolRow (valW l) n = BR at *
  generalize valW l = V at *
  generalize l.length = len at *
  unfold PR
  go_enter Tryd.func11, Tryd.ntmps11
  go_wp2_with (first
    | (go_at_call 26; refine HL.out.mono ?_; rintro e w' ⟨rfl, hw'⟩; cases hw')
    | (go_at_call 27; refine HB.out.mono ?_; rintro e w1 ⟨u, rfl, rfl, hr, hb⟩; have HN := hide (HF.out w1 hb hr); clear hr hb))
  go_ret2
  exact ⟨⟨_, _⟩, rfl, HN.out⟩

theorem ranged_any {w : World} {R : RL} {n B : Nat} (h : RRep w R n B) (a c : Int) :
    Calls Tryd.prog 62 #[PR R, .int .i64 a, .int .i64 c] w fun e w' => e = .returned (.int .i64 ((rgErr n a c : Nat) : Int)) ∧ w' = w := by
  have c0 := h.c0
  have hn := h.n2
  unfold PR rgErr
  clear h
  by_cases h1 : c < 0
  · rw [if_pos h1]
    go_enter Tryd.func62, Tryd.ntmps62
    go_wp2
    go_ret
    exact ⟨rfl, rfl⟩
  · rw [if_neg h1]
    by_cases h2 : a < 0
    · rw [if_pos (.inl h2)]
      go_enter Tryd.func62, Tryd.ntmps62
      go_wp2
      go_ret
      exact ⟨rfl, rfl⟩
    · by_cases h3 : (n : Int) < a
      · rw [if_pos (.inr (.inl h3))]
        go_enter Tryd.func62, Tryd.ntmps62
        go_wp2
        go_ret
        exact ⟨rfl, rfl⟩
      · by_cases h4 : (n : Int) - a < c
        · rw [if_pos (.inr (.inr h4))]
          go_enter Tryd.func62, Tryd.ntmps62
          go_wp2
          go_ret
          exact ⟨rfl, rfl⟩
        · rw [if_neg (by omega)]
          go_enter Tryd.func62, Tryd.ntmps62
          go_wp2
          go_ret
          exact ⟨rfl, rfl⟩

theorem cnt_succ (f : Nat → Bool) (k : Nat) : cnt f (k + 1) = cnt f k + (f k).toNat := rfl
set_option maxHeartbeats 400000 in
theorem rCountRange_any {w : World} {R : RL} {n B a c : Nat} (h : RRep w R n B) (hac : a + c ≤ n) :
    Calls Tryd.prog 46 #[PR R, .int .i64 (a : Int), .int .i64 (c : Int)] w fun e w' => e = .returned (.tuple #[.int .i64 ((cnt (fun j => B.testBit (a + j)) c : Nat) : Int), .int .i64 0]) ∧ w' = w := by
  have hrg := ranged_any h (a : Int) (c : Int)
  rw [show rgErr n (a : Int) (c : Int) = 0 from by unfold rgErr; rw [if_neg (by omega), if_neg (by omega)]] at hrg
  have HRG := hide hrg
  have c0 := h.c0
  have hn := h.n2
  have HCB : Hid (∀ i, i < n → w.cell? ⟨R.b, i, none⟩ = some (.bool (B.testBit i))) := hide fun i hi => h.cb hi
  have HF := hide (fun k => cnt_succ (fun j => B.testBit (a + j)) k)
  have HLE := hide (cnt_le (fun j => B.testBit (a + j)))
  have HZ : Hid (cnt (fun j => B.testBit (a + j)) 0 = 0) := hide rfl
  clear h hrg
  unfold PR
  generalize cnt (fun j => B.testBit (a + j)) = F at *
  go_enter Tryd.func46, Tryd.ntmps46
  go_wp2_with (go_at_call 62; refine HRG.out.mono ?_; rintro e w' ⟨rfl, hw'⟩; cases hw')
  go_loopw [9, 10] (fun x i wr => ∃ k : Nat, k ≤ c ∧ i = .int .i64 ((a + k : Nat) : Int) ∧ x = .int .i64 ((F k : Nat) : Int) ∧ wr = w) (fun _ i _ => a + c - (intOf i).toNat)
  case atStart => exact ⟨0, Nat.zero_le _, rfl, by rw [HZ.out]; rfl, rfl⟩
  case round =>
    obtain ⟨k, hk, rfl, rfl, rfl⟩ := hrel
    have hle := HLE.out k
    by_cases hltk : k < c
    · have hcb := HCB.out (a + k) (by omega)
      have hf := HF.out k
      clear HRG
      cases hbit : B.testBit (a + k)
      · rw [hbit] at hcb hf
        simp only [Bool.toNat_false, Nat.add_zero] at hf
        clear hbit
        go_wp2_with fail
        go_roundw
        case rel => exact ⟨k + 1, by omega, by go_num, by rw [hf], trivial⟩
        case measure => simp [intOf]; omega
      · rw [hbit] at hcb hf
        simp only [Bool.toNat_true] at hf
        clear hbit
        go_wp2_with fail
        go_roundw
        case rel => exact ⟨k + 1, by omega, by go_num, by rw [hf]; go_num, trivial⟩
        case measure => simp [intOf]; omega
    · have ek : k = c := by omega
      subst ek
      go_wp2_with fail
      go_ret2
      exact ⟨rfl, rfl⟩
theorem rCount_any {w : World} {R : RL} {n B : Nat} (h : RRep w R n B) :
    Calls Tryd.prog 44 #[PR R] w fun e w' => e = .returned (.int .i64 ((cnt B.testBit n : Nat) : Int)) ∧ w' = w := by
  have hc := rCountRange_any (a := 0) (c := n) h (by omega)
  simp only [Nat.zero_add, Int.natCast_zero, Int.ofNat_zero] at hc
  have HC := hide hc
  have c0 := h.c0
  have hn := h.n2
  clear h hc
  unfold PR at HC
  unfold PR
  generalize cnt (fun j => B.testBit j) n = r at *
  go_enter Tryd.func44, Tryd.ntmps44
  go_wp2_with (go_at_call 46; refine HC.out.mono ?_; rintro e w' ⟨rfl, hw'⟩; cases hw')
  go_ret
  exact ⟨rfl, rfl⟩

set_option maxHeartbeats 400000 in
theorem Upper_any {w : World} {v : Value} {B m : Nat} (h : WSl w v (wds B m)) (h1 : 1 ≤ m) (h2 : m ≤ 65536) :
    Calls Tryd.prog 67 #[v] w fun e w' => ∃ u, e = .returned u ∧ WSl w' u (wds (up B m) (nW m)) ∧ Below w.heap.size w w' := by
  obtain ⟨a, cap, rfl, q1, q2, q3, q4, q5⟩ := h
  unfold maxLen at q2
  rw [wds_len] at q1 q5
  rw [wds_len]
  obtain ⟨b, off, rfl, hc⟩ := q5 (by omega)
  have hbl := World.block_lt_of_cell? w _ (hc 0 (by omega))
  have HC : Hid (∀ i, i < m → w.cell? ⟨b, off + i, none⟩ = some (.int .u64 (wd B i : Nat))) := hide fun i hi => by rw [hc i hi, wds_get hi]
  clear hc q3 q4 q5
  dsimp only at hbl
  have hmk := run_bools m h2
  have hW : nW m ≤ 1024 := by unfold nW; omega
  have HB : Hid (∀ k, k < m → (up B m).testBit k = ((((wd B k : Nat) : Int)) != 0)) := hide fun k hk => by
    rw [testBit_up, decide_eq_true hk, Bool.true_and]
    by_cases e : wd B k = 0
    · simp [e]
    · simp [e]
  have hlt := up_lt B m
  have HZ : Hid ((w.alloc (.cells (boolRow 0 m) 4)).heap[w.heap.size]? = some (.cells (boolRow (up B m % 2 ^ 0) m) 4 (0, 0))) := hide (by rw [Go.heap_alloc_new w _, Nat.pow_zero, Nat.mod_one])
  have HEND : Hid (up B m % 2 ^ m = up B m) := hide (Nat.mod_eq_of_lt hlt)
  generalize boolRow 0 m = Z at *
  generalize up B m = V at *
  go_enter Tryd.func67, Tryd.ntmps67
  go_wp2_with fail
  go_loopw [4] (fun i wr => ∃ k : Nat, k ≤ m ∧ i = .int .i64 (k : Int) ∧ Below w.heap.size w wr ∧ wr.heap[w.heap.size]? = some (.cells (boolRow (V % 2 ^ k) m) 4 (0, 0))) (fun i _ => m - (intOf i).toNat)
  case atStart => exact ⟨0, Nat.zero_le _, rfl, (Below.refl _ _).alloc (Nat.le_refl _) _, HZ.out⟩
  case round =>
    obtain ⟨k, hk, rfl, hb, hrow⟩ := hrel
    have HBE := hide hb
    by_cases hltk : k < m
    · have hcv := (hb.cell (p := ⟨b, off + k, none⟩) hbl).trans (HC.out k hltk)
      have hbit := HB.out k hltk
      have hw := wd_lt B k
      have hc : wr.cell? ⟨w.heap.size, k, none⟩ = some (.bool ((V % 2 ^ k).testBit k)) := by rw [cell_of_row _ _ _ _ _ _ hrow, boolRow_get hltk]
      have hf : wr.frozen? ⟨w.heap.size, k, none⟩ = false := frozen_of_row _ _ _ _ 4 hrow
      have HN : Hid ((wr.setCell ⟨w.heap.size, k, none⟩ (.bool (V.testBit k))).heap[w.heap.size]? = some (.cells (boolRow (V % 2 ^ (k + 1)) m) 4 (0, 0))) := hide (by
        rw [Go.heap_setCell_same wr w.heap.size k _ 4 _ hrow, boolRow_set (B' := V % 2 ^ (k + 1)) hltk (by rw [mod_step, if_pos rfl]) (fun i _ hne => by rw [mod_step, if_neg hne])])
      rw [hbit] at HN
      clear hrow hb HZ HC hbit HB
      generalize (V % 2 ^ k).testBit k = ob at *
      generalize wd B k = x at *
      go_wp2_with fail
      go_roundw
      case rel => exact ⟨k + 1, by omega, by go_num, HBE.out.setCell (p := ⟨w.heap.size, k, none⟩) (Nat.le_refl _) _, HN.out⟩
      case measure => simp [intOf]; omega
    · have ek : k = m := by omega
      rw [ek, HEND.out] at hrow
      have HP := hide (pack_any (w := wr) h1 h2 hlt hrow)
      clear hrow ek hb HZ HC HB
      go_wp2_with (go_at_call 66; refine HP.out.mono ?_; rintro e w2 ⟨u, rfl, hu⟩; obtain ⟨ad, cc, eu, -⟩ := hu.wsl (by omega); have HU := hide hu; clear hu; subst eu)
      go_ret
      exact ⟨_, rfl, HU.out.wsl (by omega), HBE.out.trans (HU.out.2.2.mono HBE.out.size)⟩
theorem rSummary_any {w : World} {R : RL} {n B : Nat} (h : RRep w R n B) :
    Calls Tryd.prog 52 #[PR R] w fun e w' => ∃ v, e = .returned v ∧ WSl w' v (wds (up B (nW n)) (nW (nW n))) ∧ Below w.heap.size w w' := by
  have c0 := h.c0
  have hn := h.n2
  have hn1 := h.n1
  have HP := hide (pack_any h.n1 h.n2 h.hB h.hb)
  have hm1 : 1 ≤ nW n := by unfold nW; omega
  have hm2 : nW n ≤ 1024 := by unfold nW; omega
  clear h
  unfold PR
  generalize nW n = m at *
  go_enter Tryd.func52, Tryd.ntmps52
  go_wp2_with (first
    | (go_at_call 66; refine HP.out.mono ?_; rintro e w1 ⟨v, rfl, hv⟩; have HV := hide hv; have HS := hide (Upper_any (hv.wsl (by omega)) hm1 (by omega)); have ev := hv.1; subst ev; clear hv)
    | (go_at_call 67; refine HS.out.mono ?_; rintro e w2 ⟨u, rfl, hu, hb⟩; have HU := hide hu; have HB := hide hb; obtain ⟨ad, cc, eu, -⟩ := hu; subst eu; clear hb))
  go_ret
  exact ⟨_, rfl, HU.out, HV.out.2.2.trans (HB.out.mono HV.out.2.2.size)⟩
end Go.Proofs.YtnjlbkbhlcccmaaDoor
