import Derived.Test.YtophcdfaflehcaaDoorWOffV
namespace Go.Proofs.YtophcdfaflehcaaDoor
open Go.RowKit
set_option linter.unusedVariables false
set_option linter.unusedSimpArgs false
set_option maxRecDepth 20000

theorem bit_any {w : World} {v : Value} {l : List Nat} (h : WSl w v l) (i : Nat) (hi : i < 64 * l.length) (hn : i ≤ 65536) :
    Calls Tryd.prog 26 #[v, .int .i64 (i : Int)] w fun e w' => e = .returned (.bool ((valW l).testBit i)) ∧ w' = w := by
  have hg := h.getLt (i / 64)
  rw [bit_of_words h.lt i]
  obtain ⟨a, cap, rfl, q1, q2, q3, q4, q5⟩ := h
  obtain ⟨b, off, rfl, hc⟩ := q5 (by omega)
  have hcl := hc (i / 64) (by omega)
  unfold maxLen at q2
  have hx : ((l.getD (i / 64) 0 : Nat) : Int) / 2 ^ (i % 64) = ((l.getD (i / 64) 0 / 2 ^ (i % 64) : Nat) : Int) := by rw [Int.natCast_ediv]; simp
  have hy : l.getD (i / 64) 0 / 2 ^ (i % 64) < 18446744073709551616 := Nat.lt_of_le_of_lt (Nat.div_le_self _ _) hg
  have hii : 0 ≤ (i : Int) / 64 ∧ (i : Int) / 64 < (l.length : Int) := ⟨by omega, by omega⟩
  have ho : ((i : Int) / 64).toNat = i / 64 := by omega
  clear hc q3 q4 q5
  generalize l.getD (i / 64) 0 = x at *
  generalize hY : x / 2 ^ (i % 64) = y at *
  have hand : bits BinOp.and IntKind.u64 (y : Int) 1 = ((y % 2 : Nat) : Int) := by
    have := bits_and_u64_nat y 1 hy (by decide)
    rw [Nat.and_one_is_mod] at this
    exact this
  have hres : (((y % 2 : Nat) : Int) == 1) = (y % 2 == 1) := by
    rcases Nat.mod_two_eq_zero_or_one y with e | e <;> rw [e] <;> rfl
  clear hY
  generalize l.length = len at *
  go_enter Tryd.func26, Tryd.ntmps26
  go_wp2_with fail
  go_ret
  exact ⟨by show Ending.returned (Value.bool _) = _; rw [← hres]; simp, rfl⟩
theorem cw_two {n : Nat} {l : List Nat} (h1 : 1 ≤ n) (hl : ∀ b ∈ l, b < 18446744073709551616) (h : cwErr n l ≠ 0) (hn : l.length = nW n) : cwErr n l = 2 ∧ ∃ m, fnd (valW l).testBit n (64 * l.length - n) = some m := by
  unfold cwErr at h ⊢
  rw [if_neg (by omega)] at h ⊢
  by_cases e2 : n % 64 ≠ 0 ∧ l.getD (l.length - 1) 0 / 2 ^ (n % 64) ≠ 0
  · rw [if_pos e2]
    refine ⟨rfl, ?_⟩
    cases hf : fnd (valW l).testBit n (64 * l.length - n) with
    | some m => exact ⟨m, rfl⟩
    | none =>
      exfalso
      have hz := fnd_isNone _ _ hf
      apply e2.2
      apply Nat.eq_of_testBit_eq
      intro j
      rw [Nat.zero_testBit, Nat.testBit_div_two_pow]
      have hx : l.getD (l.length - 1) 0 < 2 ^ 64 := by
        have hp : l.length - 1 < l.length := by rw [hn]; unfold nW; omega
        exact hl _ (mem_getD hp)
      by_cases hj : j + n % 64 < 64
      · have := hz (64 * (l.length - 1) + (j + n % 64)) (by rw [hn]; unfold nW; omega) (by rw [hn]; unfold nW; omega)
        rw [bit_of_wd, wd_valW _ _ hl] at this
        rw [show (64 * (l.length - 1) + (j + n % 64)) / 64 = l.length - 1 by omega, show (64 * (l.length - 1) + (j + n % 64)) % 64 = j + n % 64 by omega] at this
        exact this
      · exact Nat.testBit_lt_two_pow (Nat.lt_of_lt_of_le hx (Nat.pow_le_pow_right (by decide) (by omega)))
  · rw [if_neg e2] at h
    exact absurd rfl h
theorem cw_zero {n : Nat} {l : List Nat} (h1 : 1 ≤ n) (hl : ∀ b ∈ l, b < 18446744073709551616) (h : cwErr n l = 0) : ∀ i, n ≤ i → (valW l).testBit i = false := fun i hi => bit_ge (valW_listed h1 hl h).2 hi
set_option maxHeartbeats 1000000 in
theorem list_any {w : World} {v : Value} {l : List Nat} (n : Nat) (h1 : 1 ≤ n) (h2 : n ≤ 65536) (hv : WSl w v l) : Calls Tryd.prog 25 #[.int .i64 (n : Int), v] w fun e w' => e = .returned (.int .i64 ((cwErr n l : Nat) : Int)) ∧ w' = w := by
  by_cases e1 : l.length = nW n
  · have hle : l.length ≤ 1024 := by rw [e1]; unfold nW; omega
    have hnl : n ≤ 64 * l.length := by rw [e1]; unfold nW; omega
    have HB : Hid (∀ i, i < 64 * l.length → Calls Tryd.prog 26 #[v, .int .i64 (i : Int)] w fun e w' => e = .returned (.bool ((valW l).testBit i)) ∧ w' = w) := hide fun i hi => bit_any hv i hi (by omega)
    have hnn : ((l.length : Int) != ((n : Int) + 63) / 64) = false := by rw [e1]; simp; unfold nW; omega
    have hlt := hv.lt
    by_cases hc : cwErr n l = 0
    · have hz := cw_zero h1 hlt hc
      rw [hc]
      obtain ⟨a, cap, rfl, -⟩ := hv
      have HZ := hide hz
      clear hz hlt hc e1
      generalize l.length = len at *
      go_enter Tryd.func25, Tryd.ntmps25
      go_wp2_with fail
      go_loop [5] (fun y => ∃ i : Nat, n ≤ i ∧ i ≤ 64 * len ∧ y = .int .i64 (i : Int)) (fun y => 64 * len - (intOf y).toNat)
      case atStart => exact ⟨n, Nat.le_refl _, hnl, rfl⟩
      case round =>
        obtain ⟨i, hi1, hi2, rfl⟩ := hrel
        by_cases hlt : i < 64 * len
        · have hil : (i : Int) < 64 * (len : Int) := by omega
          have HC := hide (HB.out i hlt)
          rw [HZ.out i hi1] at HC
          go_wp2_with (go_at_call 26; refine HC.out.mono ?_; rintro e w' ⟨rfl, rfl⟩)
          go_round
          case rel => exact ⟨i + 1, by omega, by omega, by go_num⟩
          case measure => simp [intOf]; omega
        · have hil : ¬ (i : Int) < 64 * (len : Int) := by omega
          go_wp2_with fail
          go_ret
          exact ⟨rfl, rfl⟩
    · obtain ⟨e2, m, hm⟩ := cw_two h1 hlt hc e1
      obtain ⟨m1, m2, m3, m4⟩ := fnd_is _ _ _ hm
      rw [e2]
      obtain ⟨a, cap, rfl, -⟩ := hv
      have HM := hide m4
      clear hlt hc e1 hm m4 e2
      generalize l.length = len at *
      go_enter Tryd.func25, Tryd.ntmps25
      go_wp2_with fail
      go_loop [5] (fun y => ∃ i : Nat, n ≤ i ∧ i ≤ m ∧ y = .int .i64 (i : Int)) (fun y => m - (intOf y).toNat)
      case atStart => exact ⟨n, Nat.le_refl _, m1, rfl⟩
      case round =>
        obtain ⟨i, hi1, hi2, rfl⟩ := hrel
        have hil : (i : Int) < 64 * (len : Int) := by omega
        have HC := hide (HB.out i (by omega))
        by_cases hlt : i < m
        · rw [HM.out i hi1 hlt] at HC
          go_wp2_with (go_at_call 26; refine HC.out.mono ?_; rintro e w' ⟨rfl, rfl⟩)
          go_round
          case rel => exact ⟨i + 1, by omega, by omega, by go_num⟩
          case measure => simp [intOf]; omega
        · obtain rfl : i = m := by omega
          rw [m3] at HC
          clear m3
          go_wp2_with (go_at_call 26; refine HC.out.mono ?_; rintro e w' ⟨rfl, rfl⟩)
          go_ret
          exact ⟨rfl, rfl⟩
  · have hnn : ((l.length : Int) != ((n : Int) + 63) / 64) = true := by simp; unfold nW at e1; omega
    have e2 : cwErr n l = 3 := by unfold cwErr; rw [if_pos e1]
    rw [e2]
    obtain ⟨a, cap, rfl, -⟩ := hv
    clear e1 e2
    generalize l.length = len at *
    go_enter Tryd.func25, Tryd.ntmps25
    go_wp2_with fail
    go_ret
    exact ⟨rfl, rfl⟩
/-- the document's list, k of its places looked at -/
def rl (B n st : Nat) : Nat → List Int
  | 0 => []
  | k + 1 => rl B n st k ++ (if B.testBit ((st + k) % n) then [(((st + k) % n : Nat) : Int)] else [])
theorem rl_len (B n st : Nat) : ∀ k, (rl B n st k).length ≤ k
  | 0 => Nat.le_refl _
  | k + 1 => by
    have := rl_len B n st k
    simp only [rl, List.length_append]
    split <;> simp <;> omega
theorem rl_first {B n st : Nat} : ∀ k, st + k ≤ n → rl B n st k = sel (aP B st) (st + k)
  | 0, h => by
    rw [sel_gap (p := aP B st) (Nat.zero_le _) fun j _ hj => by simp [aP]; omega]
    rfl
  | k + 1, h => by
    rw [rl, rl_first k (by omega), Nat.mod_eq_of_lt (by omega), show st + (k + 1) = st + k + 1 by omega, sel_succ]
    congr 1
    have e : aP B st (st + k) = B.testBit (st + k) := by simp [aP]
    rw [e]
theorem rl_second {B n st : Nat} (h1 : 1 ≤ n) (hs : st ≤ n) : ∀ j, j ≤ st → (n - st) + j ≤ n → rl B n st ((n - st) + j) = sel (aP B st) n ++ sel (bP B st) j
  | 0, h, _ => by
    rw [Nat.add_zero, rl_first (n - st) (by omega), show st + (n - st) = n by omega]
    simp [sel_zero]
  | j + 1, h, h2 => by
    rw [show n - st + (j + 1) = (n - st + j) + 1 by omega, rl, rl_second h1 hs j (by omega) (by omega), sel_succ, List.append_assoc]
    have e0 : (st + (n - st + j)) % n = j := by
      rw [show st + (n - st + j) = j + n by omega, Nat.add_mod_right, Nat.mod_eq_of_lt (by omega)]
    rw [e0]
    have e : bP B st j = B.testBit j := by
      have : j < st := by omega
      simp [bP, this]
    rw [e]
theorem rl_wlk {B n st : Nat} (h1 : 1 ≤ n) (hs : st ≤ n) : rl B n st n = wlk B n st := by
  have h := rl_second (B := B) h1 hs st (Nat.le_refl _) (by omega)
  rw [show n - st + st = n by omega] at h
  rw [h]
  unfold wlk
  rw [← sel_gap (p := bP B st) hs fun j hj _ => by simp [bP]; omega]
set_option maxHeartbeats 1000000 in
theorem rNew_bad {w : World} {v : Value} {l : List Nat} (n s : Int) (hv : WSl w v l) (he : nErr n s l ≠ 0) :
    Calls Tryd.prog 17 #[.int .i64 n, v, .int .i64 s] w fun e w' => e = .returned (.tuple #[.pointer none, .int .i64 ((nErr n s l : Nat) : Int)]) ∧ w' = w := by
  by_cases h1 : n < 1 ∨ 65536 < n
  · have e1 : nErr n s l = 1 := by unfold nErr; rw [if_pos h1]
    rw [e1]
    obtain ⟨va, vcap, rfl, -⟩ := hv
    clear he e1
    generalize l.length = llen at *
    by_cases h2 : n < 1
    · clear h1
      go_enter Tryd.func17, Tryd.ntmps17
      go_wp2_with fail
      go_ret2
      exact ⟨rfl, rfl⟩
    · have h3 : 65536 < n := by omega
      clear h1
      go_enter Tryd.func17, Tryd.ntmps17
      go_wp2_with fail
      go_ret2
      exact ⟨rfl, rfl⟩
  · obtain ⟨m, rfl⟩ : ∃ m : Nat, n = (m : Int) := ⟨n.toNat, by omega⟩
    by_cases h2 : s < 0 ∨ (m : Int) < s
    · have e1 : nErr m s l = 2 := by unfold nErr; rw [if_neg h1, if_pos h2]
      rw [e1]
      obtain ⟨va, vcap, rfl, -⟩ := hv
      clear he e1
      have g1 : 1 ≤ m := by omega
      have g2 : m ≤ 65536 := by omega
      clear h1
      generalize l.length = llen at *
      by_cases h3 : s < 0
      · clear h2
        go_enter Tryd.func17, Tryd.ntmps17
        go_wp2_with fail
        go_ret2
        exact ⟨rfl, rfl⟩
      · have h4 : (m : Int) < s := by omega
        clear h2
        go_enter Tryd.func17, Tryd.ntmps17
        go_wp2_with fail
        go_ret2
        exact ⟨rfl, rfl⟩
    · obtain ⟨t, rfl⟩ : ∃ t : Nat, s = (t : Int) := ⟨s.toNat, by omega⟩
      have e1 : nErr m t l = cwErr m l := by unfold nErr; rw [if_neg h1, if_neg h2, Int.toNat_natCast]
      rw [e1] at he ⊢
      have g1 : 1 ≤ m := by omega
      have g2 : m ≤ 65536 := by omega
      have g3 : t ≤ m := by omega
      have HL := hide (list_any m g1 g2 hv)
      have hne : (((cwErr m l : Nat) : Int) != 0) = true := by simpa using he
      generalize cwErr m l = ee at *
      obtain ⟨va, vcap, rfl, -⟩ := hv
      clear e1 h1 h2 he
      generalize l.length = llen at *
      go_enter Tryd.func17, Tryd.ntmps17
      go_wp2_with (go_at_call 25; refine HL.out.mono ?_; rintro e w' ⟨rfl, rfl⟩)
      go_ret2
      exact ⟨rfl, rfl⟩
/-- the document's walk while it is made -/
structure RN (w W : World) (P : Nat) (lv : Value) (l : List Int) : Prop where
  row : W.heap[P]? = some (.cells #[lv] 69 (0, 0))
  list : IRow W lv l
  bel : Below w.heap.size w W
  nP : w.heap.size ≤ P
  nl : ∀ g, lv.ownBlock = some g → w.heap.size ≤ g
theorem RN.push {w W W2 : World} {P : Nat} {lv v' : Value} {l l' : List Int} {o : Obj} (h : RN w W P lv l) (hr : IRow W2 v' l') (ha : App (W.alloc o) W2 lv v') : RN w (W2.setCell ⟨P, 0, none⟩ v') P v' l' ∧ W2.cell? ⟨P, 0, none⟩ = some lv ∧ W2.frozen? ⟨P, 0, none⟩ = false := by
  have hP := (Array.getElem?_eq_some_iff.1 h.row).1
  have hrow : W2.heap[P]? = some (.cells #[lv] 69 (0, 0)) := by
    refine (ha.chg.keep P (by rw [World.size_alloc]; omega) fun e => ?_).trans ((Below.heap_alloc W o P hP).trans h.row)
    obtain ⟨cs, hc⟩ := h.list.cells e
    rw [h.row] at hc
    simp only [Option.some.injEq, Obj.cells.injEq] at hc
    exact absurd hc.2.1 (by decide)
  have hb2 : Below w.heap.size w W2 := h.bel.trans ((((Below.refl W.heap.size W).alloc (Nat.le_refl _) o).mono h.bel.size).trans (ha.chg.below (N := w.heap.size) (by have := h.bel.size; rw [World.size_alloc]; omega) h.nl))
  refine ⟨⟨?_, ?_, hb2.setCell (p := ⟨P, 0, none⟩) h.nP _, h.nP, fun g e => ?_⟩, by rw [cell_of_row _ _ _ _ _ _ hrow]; rfl, frozen_of_row _ _ _ _ _ hrow⟩
  · rw [Go.heap_setCell_same _ _ 0 _ 69 _ hrow]; rfl
  · refine hr.kept fun g e => Go.heap_setCell_other _ _ _ _ fun e2 => ?_
    have e3 : g = P := e2
    obtain ⟨cs, hc⟩ := hr.cells e
    rw [e3, hrow] at hc
    simp only [Option.some.injEq, Obj.cells.injEq] at hc
    exact absurd hc.2.1 (by decide)
  · rcases ha.loc g e with h1 | h1
    · exact h.nl g h1
    · have := h.bel.size
      rw [World.size_alloc] at h1
      omega
theorem one_row (w : World) (x : Int) : IRow (w.alloc (.cells #[.int .i64 x] 3)) (.slice (some ⟨w.heap.size, 0, none⟩) 1 1) [x] :=
  ⟨rfl, .inr ⟨w.heap.size, 1, _, rfl, Nat.zero_le _, Go.heap_alloc_new w _, Nat.le_refl _, by unfold maxLen; simp, rfl, rfl⟩⟩
set_option maxHeartbeats 1000000 in
theorem rNew_any {w : World} {v : Value} {l : List Nat} (n s : Nat) (hv : WSl w v l) (h1 : 1 ≤ n) (h2 : n ≤ 65536) (hs : s ≤ n) (he : cwErr n l = 0) :
    Calls Tryd.prog 17 #[.int .i64 (n : Int), v, .int .i64 (s : Int)] w fun e w' => ∃ p lv, e = .returned (.tuple #[.pointer (some ⟨p, 0, none⟩), .int .i64 0]) ∧ VR w' p lv (wlk (valW l) n s) ∧ Below w.heap.size w w' ∧ w.heap.size ≤ p ∧ ∀ g, lv.ownBlock = some g → w.heap.size ≤ g := by
  have HL := hide (list_any n h1 h2 hv)
  rw [he] at HL
  have hlen := (valW_listed h1 hv.lt he).1
  have HB : Hid (∀ W, Below w.heap.size w W → ∀ i, i < n → Calls Tryd.prog 26 #[v, .int .i64 (i : Int)] W fun e w' => e = .returned (.bool ((valW l).testBit i)) ∧ w' = W) := hide fun W hW i hi => bit_any (hv.below hW) i (by rw [hlen]; unfold nW; omega) (by omega)
  rw [← rl_wlk h1 hs]
  generalize valW l = B at *
  obtain ⟨va, vcap, rfl, -⟩ := hv
  clear he hlen
  generalize l.length = llen at *
  go_enter Tryd.func17, Tryd.ntmps17
  go_wp2_with (go_at_call 25; refine HL.out.mono ?_; rintro e w' ⟨rfl, rfl⟩)
  have HS : Hid (RN w' (w'.alloc (.cells #[.slice none 0 0] 69)) w'.heap.size (.slice none 0 0) (rl B n s 0)) := hide ⟨Go.heap_alloc_new w' _, IRow.nil _, (Below.refl _ _).alloc (Nat.le_refl _) _, Nat.le_refl _, by simp [Value.ownBlock]⟩
  generalize w'.alloc (.cells #[.slice none 0 0] 69) = w1 at *
  generalize hP : w'.heap.size = P at *
  have HPP := hide hP
  clear hP HL
  go_loopw [10] (fun y wr => ∃ (k : Nat) (lv : Value), y = .int .i64 (k : Int) ∧ k ≤ n ∧ RN w' wr P lv (rl B n s k)) (fun y _ => n - (intOf y).toNat)
  case atStart => exact ⟨0, _, rfl, Nat.zero_le _, HS.out⟩
  case round =>
    obtain ⟨k, lv, rfl, hk, hR⟩ := hrel
    have HR := hide hR
    obtain ⟨xl, ml, cl, rfl⟩ := hR.list.shape
    have c1 : wr.cell? ⟨P, 0, none⟩ = some (.slice xl ml cl) := by rw [cell_of_row _ _ _ _ _ _ hR.row]; rfl
    clear hR HS
    by_cases hlt : k < n
    · have hlk : (k : Int) < (n : Int) := by omega
      have hn0 : ¬ (n : Int) = 0 := by omega
      have HI := hide (HB.out wr (by have := HR.out.bel; rwa [HPP.out] at this) ((s + k) % n) (Nat.mod_lt _ (by omega)))
      have hmod1 : ((s : Int) + (k : Int)) % (n : Int) = (((s + k) % n : Nat) : Int) := by rw [Int.natCast_emod, Int.natCast_add]
      have hmod2 : Int.tmod ((s : Int) + (k : Int)) (n : Int) = (((s + k) % n : Nat) : Int) := by rw [Int.tmod_eq_emod_of_nonneg (by omega)]; exact hmod1
      have hil : (s + k) % n < n := Nat.mod_lt _ (by omega)
      have HRL : Hid (rl B n s (k + 1) = rl B n s k ++ (if B.testBit ((s + k) % n) then [(((s + k) % n : Nat) : Int)] else [])) := hide rfl
      have hll := rl_len B n s k
      cases hb : B.testBit ((s + k) % n) with
      | true =>
        rw [hb] at HI HRL
        rw [if_pos rfl] at HRL
        clear hb
        generalize (s + k) % n = i at *
        have HA := hide (HR.out.list.alloc (.cells #[.int .i64 (i : Int)] 3))
        have HO := hide (one_row wr (i : Int))
        go_wp2_with (first
          | (go_at_call 26; refine HI.out.mono ?_; rintro e w9 ⟨rfl, h9⟩; have h9s := h9.symm; clear h9; subst h9s)
          | (at_builtin; refine wpList_appendS _ rfl (.tmp 50) (.tmp 52) rfl _ _ _ _ rfl rfl HA.out HO.out (by simp) (by simp; omega) ?_; intro v2 w2 hI2 hA2; obtain ⟨a2, m2, c2, e2⟩ := hI2.shape; subst e2; obtain ⟨hN2, q1, q2⟩ := HR.out.push hI2 hA2; have HN2 := hide hN2; clear hI2 hA2 hN2))
        go_roundw
        case rel => exact ⟨k + 1, _, by go_num, by omega, by rw [HRL.out]; exact HN2.out⟩
        case measure => simp [intOf]; omega
      | false =>
        rw [hb] at HI HRL
        simp only [Bool.false_eq_true, if_false, List.append_nil] at HRL
        clear hb
        generalize (s + k) % n = i at *
        go_wp2_with (go_at_call 26; refine HI.out.mono ?_; rintro e w9 ⟨rfl, h9⟩; have h9s := h9.symm; clear h9; subst h9s)
        go_roundw
        case rel => exact ⟨k + 1, _, by go_num, by omega, by rw [HRL.out]; exact HR.out⟩
        case measure => simp [intOf]; omega
    · have ek : k = n := by omega
      have hnl : ¬ (k : Int) < (n : Int) := by omega
      have HEK := hide ek
      clear ek
      go_wp2_with fail
      go_ret2
      have hR := HR.out
      rw [HEK.out] at hR
      refine ⟨P, rfl, .slice xl ml cl, ⟨hR.row, ORow.ofI hR.list, by have := rl_len B n s n; omega⟩, hR.bel, ?_, hR.nl⟩
      rw [HPP.out]
      exact Nat.le_refl _
end Go.Proofs.YtophcdfaflehcaaDoor
