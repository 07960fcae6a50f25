import Derived.Test.YtnjlbkbhlcccmaaDoorBRef1
namespace Go.Proofs.YtnjlbkbhlcccmaaDoor
open Go.RowKit Go.Shelf
set_option linter.unusedVariables false
set_option linter.unusedSimpArgs false
set_option maxRecDepth 20000

theorem bit_shift {B k : Nat} : (bits BinOp.and IntKind.u64 (((wd B (k / 64) : Nat) : Int) / 2 ^ (k % 64)) 1 == 1) = B.testBit k := by
  have hl : wd B (k / 64) / 2 ^ (k % 64) < 18446744073709551616 := Nat.lt_of_le_of_lt (Nat.div_le_self _ _) (wd_lt _ _)
  have e : ((wd B (k / 64) : Nat) : Int) / 2 ^ (k % 64) = ((wd B (k / 64) / 2 ^ (k % 64) : Nat) : Int) := by rw [Int.natCast_ediv]; simp
  have := u64_and_nat (wd B (k / 64) / 2 ^ (k % 64)) 1 hl (by decide)
  simp only [Int.natCast_one] at this
  rw [e, this, bit_of_wd, Nat.testBit, Nat.and_comm, Nat.shiftRight_eq_div_pow]
  generalize wd B (k / 64) / 2 ^ (k % 64) = y
  rw [Nat.one_and_eq_mod_two]
  rcases Nat.mod_two_eq_zero_or_one y with h | h <;> simp [h]
theorem mod_step (V i : Nat) : ∀ j, (V % 2 ^ (i + 1)).testBit j = if j = i then V.testBit i else (V % 2 ^ i).testBit j := by
  intro j
  rw [Nat.testBit_mod_two_pow, Nat.testBit_mod_two_pow]
  by_cases e : j = i
  · subst e; simp
  · rw [if_neg e]
    have : (j < i + 1) ↔ (j < i) := by omega
    simp only [this]

/-- new memory that holds these bools -/
def BoolsAt (w w' : World) (v : Value) (n B : Nat) : Prop := v = .slice (some ⟨w.heap.size, 0, none⟩) n n ∧ w'.heap[w.heap.size]? = some (.cells (boolRow B n) 4 (0, 0)) ∧ Below w.heap.size w w'
theorem bools_any {w : World} {v : Value} {l : List Nat} {n : Nat} (h : WSl w v l) (h1 : 1 ≤ n) (h2 : n ≤ 65536) (hl : l.length = nW n) (hV : valW l < 2 ^ n) :
    Calls Tryd.prog 27 #[.int .i64 (n : Int), v] w fun e w' => ∃ u, e = .returned u ∧ BoolsAt w w' u n (valW l) := by
  have hlt := h.lt
  have hWV : Hid (∀ k, wd (valW l) k = l.getD k 0) := hide fun k => wd_valW _ _ hlt
  obtain ⟨a, cap, rfl, q1, q2, q3, q4, q5⟩ := h
  unfold maxLen at q2
  obtain ⟨b, off, rfl, hc⟩ := q5 (by rw [hl]; unfold nW; omega)
  have hW : nW n ≤ 1024 := by unfold nW; omega
  have hbl := World.block_lt_of_cell? w _ (hc 0 (by rw [hl]; unfold nW; omega))
  have HC := hide hc
  rw [hl] at q1 HC
  rw [hl]
  clear hc q3 q4 q5 hl
  dsimp only at hbl
  have hmk := run_bools n h2
  have HZ : Hid ((w.alloc (.cells (boolRow 0 n) 4)).heap[w.heap.size]? = some (.cells (boolRow (valW l % 2 ^ 0) n) 4 (0, 0))) := hide (by rw [Go.heap_alloc_new w _, Nat.pow_zero, Nat.mod_one])
  have HEND : Hid (boolRow (valW l % 2 ^ n) n = boolRow (valW l) n) := hide (by rw [Nat.mod_eq_of_lt hV])
  generalize boolRow 0 n = Z at *
  generalize valW l = V at *
  generalize hm : nW n = m at *
  have HM := hide hm
  clear hm hlt
  go_enter Tryd.func27, Tryd.ntmps27
  go_wp2_with fail
  go_loopw [6] (fun i wr => ∃ k : Nat, k ≤ n ∧ i = .int .i64 (k : Int) ∧ Below w.heap.size w wr ∧ wr.heap[w.heap.size]? = some (.cells (boolRow (V % 2 ^ k) n) 4 (0, 0))) (fun i _ => n - (intOf i).toNat)
  case atStart => exact ⟨0, Nat.zero_le _, rfl, (Below.refl _ _).alloc (Nat.le_refl _) _, HZ.out⟩
  case round =>
    obtain ⟨k, hk, rfl, hb, hrow⟩ := hrel
    have HB := hide hb
    by_cases hltk : k < n
    · have hkm : k / 64 < m := by rw [← HM.out]; unfold nW; omega
      have hcv := (hb.cell (p := ⟨b, off + k / 64, none⟩) hbl).trans (HC.out (k / 64) hkm)
      rw [← hWV.out] at hcv
      have hbit := bit_shift (B := V) (k := k)
      have hw := wd_lt V (k / 64)
      have hc : wr.cell? ⟨w.heap.size, k, none⟩ = some (.bool ((V % 2 ^ k).testBit k)) := by rw [cell_of_row _ _ _ _ _ _ hrow, boolRow_get hltk]
      have hf : wr.frozen? ⟨w.heap.size, k, none⟩ = false := frozen_of_row _ _ _ _ 4 hrow
      have HN : Hid ((wr.setCell ⟨w.heap.size, k, none⟩ (.bool (V.testBit k))).heap[w.heap.size]? = some (.cells (boolRow (V % 2 ^ (k + 1)) n) 4 (0, 0))) := hide (by
        rw [Go.heap_setCell_same wr w.heap.size k _ 4 _ hrow, boolRow_set (B' := V % 2 ^ (k + 1)) hltk (by rw [mod_step, if_pos rfl]) (fun i _ hne => by rw [mod_step, if_neg hne])])
      clear hrow hb HZ HC
      generalize V.testBit k = vb at *
      generalize (V % 2 ^ k).testBit k = ob at *
      generalize wd V (k / 64) = x at *
      go_wp2_with fail
      go_roundw
      case rel => exact ⟨k + 1, by omega, by go_num, HB.out.setCell (p := ⟨w.heap.size, k, none⟩) (Nat.le_refl _) _, HN.out⟩
      case measure => simp [intOf]; omega
    · have ek : k = n := by omega
      have HR : Hid (wr.heap[w.heap.size]? = some (.cells (boolRow V n) 4 (0, 0))) := hide (by rw [hrow, ek, HEND.out])
      clear hrow ek hb HZ HC
      go_wp2_with fail
      go_ret
      exact ⟨_, rfl, rfl, HR.out, HB.out⟩

theorem or_add {x s : Nat} (hx : x < 2 ^ s) : x ||| 2 ^ s = x + 2 ^ s := by
  have := Nat.two_pow_add_eq_or_of_lt (i := s) (b := x) hx 1
  rw [Nat.mul_one] at this
  rw [Nat.or_comm, ← this, Nat.add_comm]
theorem wd_pack {B i : Nat} (h : B.testBit i = true) : wd (B % 2 ^ i) (i / 64) + 2 ^ (i % 64) = wd (B % 2 ^ (i + 1)) (i / 64) ∧ ∀ j, j ≠ i / 64 → wd (B % 2 ^ (i + 1)) j = wd (B % 2 ^ i) j := by
  have hs : i % 64 < 64 := Nat.mod_lt _ (by decide)
  have hx : wd (B % 2 ^ i) (i / 64) < 2 ^ (i % 64) := lt_of_bits fun j hj => by
    rw [testBit_wd, Nat.testBit_mod_two_pow]
    by_cases hj2 : j < 64
    · have : ¬ 64 * (i / 64) + j < i := by omega
      simp [this]
    · simp [hj2]
  refine ⟨?_, fun j hj => ?_⟩
  · rw [← or_add hx]
    apply Nat.eq_of_testBit_eq
    intro j
    rw [Nat.testBit_or, testBit_wd, testBit_wd, mod_step, Nat.testBit_two_pow]
    by_cases hj2 : j < 64
    · by_cases e : j = i % 64
      · have e2 : 64 * (i / 64) + j = i := by omega
        rw [e2, if_pos rfl]
        simp [hj2, e, h, hs]
      · have e2 : ¬ 64 * (i / 64) + j = i := by omega
        rw [if_neg e2]
        simp [hj2, Ne.symm e]
    · have : ¬ i % 64 = j := by omega
      simp [hj2, this]
  · apply Nat.eq_of_testBit_eq
    intro t
    rw [testBit_wd, testBit_wd, mod_step]
    by_cases ht : t < 64
    · have : ¬ 64 * j + t = i := by omega
      rw [if_neg this]
    · simp [ht]
theorem mod_same {B i : Nat} (h : B.testBit i = false) : B % 2 ^ (i + 1) = B % 2 ^ i := by
  apply Nat.eq_of_testBit_eq
  intro j
  rw [mod_step]
  by_cases e : j = i
  · rw [if_pos e, h, e, Nat.testBit_mod_two_pow]; simp
  · rw [if_neg e]

/-- new memory that holds these words -/
def WordsAt (w w' : World) (v : Value) (m B : Nat) : Prop := v = .slice (some ⟨w.heap.size, 0, none⟩) m m ∧ w'.heap[w.heap.size]? = some (.cells (wrow (wds B m)) 63 (0, 0)) ∧ Below w.heap.size w w'
theorem WordsAt.wsl {w w' : World} {v : Value} {m B : Nat} (h : WordsAt w w' v m B) (hm : m ≤ 1000000) : WSl w' v (wds B m) := by
  obtain ⟨rfl, hr, hb⟩ := h
  refine ⟨some ⟨w.heap.size, 0, none⟩, m, by rw [wds_len], by rw [wds_len]; exact Nat.le_refl _, by unfold maxLen; omega, by simp, wds_lt _ _, fun _ => ⟨w.heap.size, 0, rfl, fun i hi => ?_⟩⟩
  rw [wds_len] at hi
  rw [Nat.zero_add, cell_of_row _ _ _ _ _ _ hr, wrow_get (by rw [wds_len]; exact hi), wds_get hi]
set_option maxHeartbeats 400000 in
theorem pack_any {w : World} {b n B : Nat} (h1 : 1 ≤ n) (h2 : n ≤ 65536) (hB : B < 2 ^ n) (hr : w.heap[b]? = some (.cells (boolRow B n) 4 (0, 0))) :
    Calls Tryd.prog 66 #[.slice (some ⟨b, 0, none⟩) n n] w fun e w' => ∃ v, e = .returned v ∧ WordsAt w w' v (nW n) B := by
  have hbl : b < w.heap.size := (Array.getElem?_eq_some_iff.1 hr).1
  have hW : nW n ≤ 1024 := by unfold nW; omega
  have HL := hide (Length_any w n (by omega))
  have hmk := run_words (nW n) (by omega)
  have HZ : Hid ((w.alloc (.cells (wrow (wds 0 (nW n))) 63)).heap[w.heap.size]? = some (.cells (wrow (wds (B % 2 ^ 0) (nW n))) 63 (0, 0))) := hide (by rw [Go.heap_alloc_new w _, Nat.pow_zero, Nat.mod_one])
  have HEND : Hid (B % 2 ^ n = B) := hide (Nat.mod_eq_of_lt hB)
  have HC : Hid (∀ k, k < n → w.cell? ⟨b, k, none⟩ = some (.bool (B.testBit k))) := hide fun k hk => by rw [cell_of_row _ _ _ _ _ _ hr, boolRow_get hk]
  clear hr
  generalize wrow (wds 0 (nW n)) = Z at *
  generalize hm : nW n = m at *
  have HM := hide hm
  clear hm
  go_enter Tryd.func66, Tryd.ntmps66
  go_wp2_with (go_at_call 57; refine HL.out.mono ?_; rintro e w ⟨rfl, rfl⟩)
  go_loopw [4] (fun i wr => ∃ k : Nat, k ≤ n ∧ i = .int .i64 (k : Int) ∧ Below w.heap.size w wr ∧ wr.heap[w.heap.size]? = some (.cells (wrow (wds (B % 2 ^ k) m)) 63 (0, 0))) (fun i _ => n - (intOf i).toNat)
  case atStart => exact ⟨0, Nat.zero_le _, rfl, (Below.refl _ _).alloc (Nat.le_refl _) _, HZ.out⟩
  case round =>
    obtain ⟨k, hk, rfl, hb, hrow⟩ := hrel
    have HB := hide hb
    by_cases hltk : k < n
    · have hkm : k / 64 < m := by rw [← HM.out]; unfold nW; omega
      have hcv := (hb.cell (p := ⟨b, k, none⟩) hbl).trans (HC.out k hltk)
      cases hbit : B.testBit k
      · rw [hbit] at hcv
        have HN : Hid (wr.heap[w.heap.size]? = some (.cells (wrow (wds (B % 2 ^ (k + 1)) m)) 63 (0, 0))) := hide (by rw [mod_same hbit]; exact hrow)
        clear hrow hb HZ HC hbit HL
        go_wp2_with fail
        go_roundw
        case rel => exact ⟨k + 1, by omega, by go_num, HB.out, HN.out⟩
        case measure => simp [intOf]; omega
      · rw [hbit] at hcv
        obtain ⟨e1, e2⟩ := wd_pack hbit
        have hc : wr.cell? ⟨w.heap.size, k / 64, none⟩ = some (.int .u64 (wd (B % 2 ^ k) (k / 64) : Nat)) := by rw [cell_of_row _ _ _ _ _ _ hrow, wrow_get (by rw [wds_len]; exact hkm), wds_get hkm]
        have hf : wr.frozen? ⟨w.heap.size, k / 64, none⟩ = false := frozen_of_row _ _ _ _ 63 hrow
        have hl1 := wd_lt (B % 2 ^ (k + 1)) (k / 64)
        have hp : IntKind.u64.wrap (2 ^ (k % 64)) = ((2 ^ (k % 64) : Nat) : Int) := by
          have := wrapN (2 ^ (k % 64)) (Nat.pow_lt_pow_right (a := 2) (by decide) (Nat.mod_lt _ (by decide) : k % 64 < 64))
          rw [Int.natCast_pow] at this ⊢
          exact this
        have hsum : IntKind.u64.wrap (((wd (B % 2 ^ k) (k / 64) : Nat) : Int) + ((2 ^ (k % 64) : Nat) : Int)) = ((wd (B % 2 ^ (k + 1)) (k / 64) : Nat) : Int) := by rw [← Int.natCast_add, e1]; exact wrapN _ hl1
        have hsum2 : ((wd (B % 2 ^ k) (k / 64) : Nat) : Int) + ((2 ^ (k % 64) : Nat) : Int) = ((wd (B % 2 ^ (k + 1)) (k / 64) : Nat) : Int) := by rw [← Int.natCast_add, e1]
        have HN : Hid ((wr.setCell ⟨w.heap.size, k / 64, none⟩ (.int .u64 ((wd (B % 2 ^ (k + 1)) (k / 64) : Nat) : Int))).heap[w.heap.size]? = some (.cells (wrow (wds (B % 2 ^ (k + 1)) m)) 63 (0, 0))) := hide (by
          rw [Go.heap_setCell_same wr w.heap.size (k / 64) _ 63 _ hrow, wds_set hkm rfl (fun j _ hj => e2 j hj)])
        clear hrow hb HZ HC hbit e1 e2 HL
        generalize 2 ^ (k % 64) = pw at *
        generalize wd (B % 2 ^ k) (k / 64) = x at *
        generalize wd (B % 2 ^ (k + 1)) (k / 64) = y at *
        go_wp2_with fail
        go_roundw
        case rel => exact ⟨k + 1, by omega, by go_num, HB.out.setCell (p := ⟨w.heap.size, k / 64, none⟩) (Nat.le_refl _) _, HN.out⟩
        case measure => simp [intOf]; omega
    · have ek : k = n := by omega
      have HR : Hid (wr.heap[w.heap.size]? = some (.cells (wrow (wds B m)) 63 (0, 0))) := hide (by rw [hrow, ek, HEND.out])
      clear hrow ek hb HZ HC HL
      go_wp2_with fail
      go_ret
      exact ⟨_, rfl, rfl, HR.out, HB.out⟩

theorem rWords_any {w : World} {R : RL} {n B : Nat} (h : RRep w R n B) :
    Calls Tryd.prog 50 #[PR R] w fun e w' => ∃ v, e = .returned v ∧ WordsAt w w' v (nW n) B := by
  have c0 := h.c0
  have hn := h.n2
  have HP := hide (pack_any h.n1 h.n2 h.hB h.hb)
  clear h
  unfold PR
  go_enter Tryd.func50, Tryd.ntmps50
  go_wp2_with (go_at_call 66; refine HP.out.mono ?_; rintro e w' ⟨v, rfl, hv⟩; have HV := hide hv; clear hv)
  go_ret
  exact ⟨_, rfl, HV.out⟩
end Go.Proofs.YtnjlbkbhlcccmaaDoor
