import Derived.Test.YtophcdfaflehcaaDoorWHelp
namespace Go.Proofs.YtophcdfaflehcaaDoor
open Go.RowKit
set_option linter.unusedVariables false
set_option linter.unusedSimpArgs false
set_option maxRecDepth 20000

theorem sel_mem {p : Nat → Bool} {s : Nat} {x : Int} : x ∈ sel p s ↔ ∃ i : Nat, i < s ∧ p i = true ∧ x = (i : Int) := by
  unfold sel
  simp only [List.mem_map, List.mem_filter, List.mem_range]
  constructor
  · rintro ⟨i, ⟨h1, h2⟩, rfl⟩; exact ⟨i, h1, h2, rfl⟩
  · rintro ⟨i, h1, h2, rfl⟩; exact ⟨i, ⟨h1, h2⟩, rfl⟩
theorem sel_pw (p : Nat → Bool) : ∀ s, (sel p s).Pairwise (· < ·)
  | 0 => List.Pairwise.nil
  | s + 1 => by
    rw [sel_succ, List.pairwise_append]
    refine ⟨sel_pw p s, ?_, ?_⟩
    · by_cases h : p s = true
      · simp [h]
      · simp [h]
    · intro a ha b hb
      obtain ⟨i, h1, _, rfl⟩ := sel_mem.1 ha
      by_cases h : p s = true
      · simp [h] at hb; omega
      · simp [h] at hb
theorem sel_count (B st : Nat) : ∀ n, (sel (aP B st) n).length + (sel (bP B st) n).length = cnt B.testBit n
  | 0 => rfl
  | n + 1 => by
    have ih := sel_count B st n
    rw [sel_succ, sel_succ, List.length_append, List.length_append]
    simp only [cnt]
    cases h : B.testBit n with
    | false => simp [aP, bP, h]; omega
    | true =>
      by_cases h2 : st ≤ n
      · have : ¬ n < st := by omega
        simp [aP, bP, h, h2, this]; omega
      · have : n < st := by omega
        simp [aP, bP, h, h2, this]; omega
theorem wlk_len (B n st : Nat) : (wlk B n st).length = cnt B.testBit n := by unfold wlk; rw [List.length_append, sel_count]
/-- what a walk has still to give, seen from outside -/
def RI (B n st : Nat) (rest : List Int) (last : Int) (wr : Bool) : Prop :=
  (wr = false ∧ ∃ A, rest = A ++ sel (bP B st) n ∧ A.Pairwise (· < ·) ∧ ∀ x ∈ A, last < x ∧ (st : Int) ≤ x ∧ x < (n : Int) ∧ B.testBit x.toNat = true) ∨
  (wr = true ∧ rest.Pairwise (· < ·) ∧ ∀ x ∈ rest, last < x ∧ 0 ≤ x ∧ x < (st : Int) ∧ x < (n : Int) ∧ B.testBit x.toNat = true)
theorem RI.start (B n st : Nat) : RI B n st (wlk B n st) (-1) false := by
  refine .inl ⟨rfl, _, rfl, sel_pw _ _, fun x hx => ?_⟩
  obtain ⟨i, h1, h2, rfl⟩ := sel_mem.1 hx
  simp only [aP, Bool.and_eq_true, decide_eq_true_eq] at h2
  refine ⟨by omega, by omega, by omega, ?_⟩
  rw [Int.toNat_natCast]
  exact h2.1
theorem RI.step {B n st : Nat} {x : Int} {r : List Int} {last : Int} {wr : Bool} (h : RI B n st (x :: r) last wr) : (0 ≤ x ∧ x < (n : Int) ∧ B.testBit x.toNat = true) ∧
    ((wr = false ∧ (st : Int) ≤ x ∧ last < x ∧ RI B n st r x false) ∨ (wr = false ∧ x < (st : Int) ∧ RI B n st r x true) ∨ (wr = true ∧ x < (st : Int) ∧ last < x ∧ RI B n st r x true)) := by
  rcases h with ⟨rfl, A, hA, hp, ha⟩ | ⟨rfl, hp, ha⟩
  · cases A with
    | nil =>
      rw [List.nil_append] at hA
      have hm : ∀ y ∈ x :: r, 0 ≤ y ∧ y < (st : Int) ∧ y < (n : Int) ∧ B.testBit y.toNat = true := fun y hy => by
        rw [hA] at hy
        obtain ⟨i, h1, h2, rfl⟩ := sel_mem.1 hy
        simp only [bP, Bool.and_eq_true, decide_eq_true_eq] at h2
        exact ⟨by omega, by omega, by omega, by rw [Int.toNat_natCast]; exact h2.1⟩
      have hpw := sel_pw (bP B st) n
      rw [← hA, List.pairwise_cons] at hpw
      obtain ⟨h1, h2, h3, h4⟩ := hm x List.mem_cons_self
      exact ⟨⟨h1, h3, h4⟩, .inr (.inl ⟨rfl, h2, .inr ⟨rfl, hpw.2, fun y hy => ⟨hpw.1 y hy, hm y (List.mem_cons_of_mem _ hy)⟩⟩⟩)⟩
    | cons a A =>
      rw [List.cons_append, List.cons.injEq] at hA
      obtain ⟨rfl, rfl⟩ := hA
      rw [List.pairwise_cons] at hp
      obtain ⟨h1, h2, h3, h4⟩ := ha x List.mem_cons_self
      refine ⟨⟨by omega, h3, h4⟩, .inl ⟨rfl, h2, h1, .inl ⟨rfl, A, rfl, hp.2, fun y hy => ?_⟩⟩⟩
      obtain ⟨g1, g2, g3, g4⟩ := ha y (List.mem_cons_of_mem _ hy)
      exact ⟨hp.1 y hy, g2, g3, g4⟩
  · rw [List.pairwise_cons] at hp
    obtain ⟨h1, h2, h3, h4, h5⟩ := ha x List.mem_cons_self
    refine ⟨⟨h2, h4, h5⟩, .inr (.inr ⟨rfl, h3, h1, .inr ⟨rfl, hp.2, fun y hy => ?_⟩⟩)⟩
    obtain ⟨g1, g2, g3, g4, g5⟩ := ha y (List.mem_cons_of_mem _ hy)
    exact ⟨hp.1 y hy, g2, g3, g4, g5⟩
theorem bit_of_words {l : List Nat} (hl : ∀ b ∈ l, b < 18446744073709551616) (i : Nat) : (valW l).testBit i = (l.getD (i / 64) 0 / 2 ^ (i % 64) % 2 == 1) := by
  rw [bit_of_wd, wd_valW _ _ hl, Nat.testBit]
  rw [Nat.shiftRight_eq_div_pow]
  have h := Nat.and_two_pow_sub_one_eq_mod (l.getD (i / 64) 0 / 2 ^ (i % 64)) 1
  simp only [Nat.pow_one] at h
  rw [Nat.and_comm] at h
  simp [Nat.and_one_is_mod]
theorem set_any {w : World} {v : Value} {l : List Nat} (h : WSl w v l) (i : Nat) (hi : i < 64 * l.length) (hn : i ≤ 65536) :
    Calls Tryd.prog 10 #[v, .int .i64 (i : Int)] w fun e w' => e = .returned (.bool ((valW l).testBit i)) ∧ w' = w := by
  have hg := h.getLt (i / 64)
  rw [bit_of_words h.lt i]
  obtain ⟨a, cap, rfl, q1, q2, q3, q4, q5⟩ := h
  obtain ⟨b, off, rfl, hc⟩ := q5 (by omega)
  have hcl := hc (i / 64) (by omega)
  unfold maxLen at q2
  have hx : ((l.getD (i / 64) 0 : Nat) : Int) / 2 ^ (i % 64) = ((l.getD (i / 64) 0 / 2 ^ (i % 64) : Nat) : Int) := by rw [Int.natCast_ediv]; simp
  have hy : l.getD (i / 64) 0 / 2 ^ (i % 64) < 18446744073709551616 := Nat.lt_of_le_of_lt (Nat.div_le_self _ _) hg
  have hii : 0 ≤ (i : Int) / 64 ∧ (i : Int) / 64 < (l.length : Int) := ⟨by omega, by omega⟩
  have ho : ((i : Int) / 64).toNat = i / 64 := by omega
  clear hc q3 q4 q5
  generalize l.getD (i / 64) 0 = x at *
  generalize hY : x / 2 ^ (i % 64) = y at *
  have hand : bits BinOp.and IntKind.u64 (y : Int) 1 = ((y % 2 : Nat) : Int) := by
    have := bits_and_u64_nat y 1 hy (by decide)
    rw [Nat.and_one_is_mod] at this
    exact this
  have hres : (((y % 2 : Nat) : Int) == 1) = (y % 2 == 1) := by
    rcases Nat.mod_two_eq_zero_or_one y with e | e <;> rw [e] <;> rfl
  clear hY
  generalize l.length = len at *
  go_enter Tryd.func10, Tryd.ntmps10
  go_wp2_with fail
  go_ret
  exact ⟨by show Ending.returned (Value.bool _) = _; rw [← hres]; simp, rfl⟩
/-- the walk in a law's run -/
def RS (w W : World) (p : Nat) (r : List Int) : Prop := ∃ lv, WR W p lv r ∧ Below w.heap.size w W ∧ w.heap.size ≤ p ∧ ∀ g, lv.ownBlock = some g → w.heap.size ≤ g
theorem RS.bel {w W : World} {p : Nat} {r : List Int} (h : RS w W p r) : Below w.heap.size w W := by obtain ⟨lv, _, h, _⟩ := h; exact h
theorem RS.left {w W : World} {p : Nat} {r : List Int} (h : RS w W p r) : Calls Tryd.prog 11 #[.pointer (some ⟨p, 0, none⟩)] W fun e w' => e = .returned (.int .i64 (r.length : Int)) ∧ w' = W := by
  obtain ⟨lv, h, _⟩ := h; exact left_any h
theorem RS.nextN {w W : World} {p : Nat} (h : RS w W p []) : Calls Tryd.prog 12 #[.pointer (some ⟨p, 0, none⟩)] W fun e w' => e = .returned (.tuple #[.int .i64 0, .int .i64 131]) ∧ w' = W := by
  obtain ⟨lv, h, _⟩ := h; exact next_none h
theorem RS.nextS {w W : World} {p : Nat} {x : Int} {r : List Int} (h : RS w W p (x :: r)) : Calls Tryd.prog 12 #[.pointer (some ⟨p, 0, none⟩)] W fun e w' => e = .returned (.tuple #[.int .i64 x, .int .i64 0]) ∧ RS w w' p r := by
  obtain ⟨lv, h, hb, hp, hg⟩ := h
  exact (next_some h).mono fun e w' ⟨h1, ⟨v', h2, h3⟩, h4⟩ => ⟨h1, v', h2, hb.trans (h4.below hb.size fun b hb => by omega), hp, fun g e => hg g (by rw [← h3]; exact e)⟩
theorem RS.len {w W : World} {p : Nat} {r : List Int} (h : RS w W p r) : r.length ≤ 1000000 := by obtain ⟨lv, h, _⟩ := h; exact h.len
theorem new_rs {w : World} {v : Value} {l : List Nat} (n s : Nat) (hT : TabAt w) (hv : WSl w v l) (h1 : 1 ≤ n) (h2 : n ≤ 65536) (hs : s ≤ n) (he : cwErr n l = 0) :
    Calls Tryd.prog 7 #[.int .i64 (n : Int), v, .int .i64 (s : Int)] w fun e w' => ∃ p, e = .returned (.tuple #[.pointer (some ⟨p, 0, none⟩), .int .i64 0]) ∧ RS w w' p (wlk (valW l) n s) :=
  (new_main n s hT hv h1 h2 hs he).mono fun e w' ⟨p, lv, h3, h4, h5, h6, h7⟩ => ⟨p, h3, lv, ⟨h4.row, ORow.ofI h4.list, by
    rw [wlk_len]
    have := cnt_le (valW l).testBit n
    omega⟩, h5, h6, h7⟩
theorem RS.up {w w1 W : World} {p : Nat} {r : List Int} (h : RS w1 W p r) (hb : Below w.heap.size w w1) : RS w W p r := by
  obtain ⟨lv, h, hb2, hp, hg⟩ := h
  have := hb.size
  exact ⟨lv, h, hb.trans (hb2.mono this), by omega, fun g e => by have := hg g e; omega⟩
end Go.Proofs.YtophcdfaflehcaaDoor
