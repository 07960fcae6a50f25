import Derived.Test.YtnjlbkbhlcccmaaDoorBNew
namespace Go.Proofs.YtnjlbkbhlcccmaaDoor
open Go.RowKit
set_option linter.unusedVariables false
set_option linter.unusedSimpArgs false
set_option maxRecDepth 20000

/-- A slice of words that reads as the list l. -/
def WSl (w : World) (v : Value) (l : List Nat) : Prop :=
  ∃ a cap, v = .slice a l.length cap ∧ l.length ≤ cap ∧ cap ≤ maxLen ∧ (a = none → cap = 0) ∧ (∀ b ∈ l, b < 18446744073709551616) ∧
    (0 < l.length → ∃ b off, a = some ⟨b, off, none⟩ ∧ ∀ i, i < l.length → w.cell? ⟨b, off + i, none⟩ = some (.int .u64 (l.getD i 0 : Nat)))
theorem mem_getD {l : List Nat} {i : Nat} (h : i < l.length) : l.getD i 0 ∈ l := by simp [List.getD, h]
/-- the block that a slice lies in -/
def blockOf : Value → Option Nat
  | .slice (some a) _ _ => some a.block
  | _ => none
theorem WSl.keptIf {w w' : World} {v : Value} {l : List Nat} (h : WSl w v l) (hk : ∀ g, blockOf v = some g → g < w.heap.size → w'.heap[g]? = w.heap[g]?) : WSl w' v l := by
  obtain ⟨a, cap, rfl, h1, h2, h3, h4, h5⟩ := h
  refine ⟨a, cap, rfl, h1, h2, h3, h4, fun hp => ?_⟩
  obtain ⟨b, off, rfl, hc⟩ := h5 hp
  refine ⟨b, off, rfl, fun i hi => ?_⟩
  have := hc i hi
  have hlt := World.block_lt_of_cell? w _ this
  rw [World.cell?_of_block (hk b rfl hlt)]
  exact this
theorem WSl.below {w w' : World} {v : Value} {l : List Nat} (h : WSl w v l) (hb : Below w.heap.size w w') : WSl w' v l := h.keptIf fun g _ hg => hb.block g hg
theorem WSl.lt {w : World} {v : Value} {l : List Nat} (h : WSl w v l) : ∀ b ∈ l, b < 18446744073709551616 := by
  obtain ⟨a, cap, rfl, h1, h2, h3, h4, h5⟩ := h
  exact h4
theorem WSl.getLt {w : World} {v : Value} {l : List Nat} (h : WSl w v l) (i : Nat) : l.getD i 0 < 18446744073709551616 := by
  by_cases hi : i < l.length
  · exact h.lt _ (mem_getD hi)
  · rw [List.getD, List.getElem?_eq_none (by omega)]; decide
theorem WSl.len {w : World} {v : Value} {l : List Nat} (h : WSl w v l) : l.length ≤ maxLen := by
  obtain ⟨a, cap, rfl, h1, h2, h3, h4, h5⟩ := h
  omega

/-- may the words stand as the lower level of n bits? the error's number -/
def cwErr (n : Nat) (l : List Nat) : Nat := if l.length ≠ nW n then 3 else if n % 64 ≠ 0 ∧ l.getD (l.length - 1) 0 / 2 ^ (n % 64) ≠ 0 then 2 else 0

theorem checkWords_any {w : World} {v : Value} {l : List Nat} {n : Nat} (h1 : 1 ≤ n) (h2 : n ≤ 65536) (h : WSl w v l) :
    Calls Tryd.prog 55 #[.int .i64 (n : Int), v] w fun e w' => e = .returned (.int .i64 ((cwErr n l : Nat) : Int)) ∧ w' = w := by
  have hw := wordsFor_any w n (by omega)
  have HW := hide hw
  clear hw
  have hg := h.getLt (l.length - 1)
  obtain ⟨a, cap, rfl, q1, q2, q3, q4, q5⟩ := h
  unfold maxLen at q2
  unfold cwErr
  by_cases e1 : l.length = nW n
  · rw [if_neg (by omega)]
    have hp : 0 < l.length := by rw [e1]; unfold nW; omega
    obtain ⟨b, off, rfl, hc⟩ := q5 hp
    have hcl := hc (l.length - 1) (by omega)
    have hne : ((l.length : Int) != ((nW n : Nat) : Int)) = false := by rw [e1]; simp
    have hs : ((l.getD (l.length - 1) 0 : Nat) : Int) / 2 ^ (n % 64) = ((l.getD (l.length - 1) 0 / 2 ^ (n % 64) : Nat) : Int) := by rw [Int.natCast_ediv]; simp
    have ho : (((l.length : Int) - 1).toNat) = l.length - 1 := by omega
    have hll : ((l.length - 1 : Nat) : Int) = (l.length : Int) - 1 := by omega
    clear hc q4 q5
    by_cases e2 : n % 64 = 0
    · rw [if_neg (by omega)]
      have hm : (((n : Int) % 64) != 0) = false := by simp; omega
      clear e1 hcl hs hg hll
      generalize l.length = len at *
      generalize nW n = m1 at *
      go_enter Tryd.func55, Tryd.ntmps55
      go_wp2_with (go_at_call 30; refine HW.out.mono ?_; rintro e w' ⟨rfl, rfl⟩)
      go_ret
      exact ⟨rfl, rfl⟩
    · have hm : (((n : Int) % 64) != 0) = true := by simp; omega
      clear e1
      generalize l.getD (l.length - 1) 0 = x at *
      by_cases e3 : x / 2 ^ (n % 64) = 0
      · rw [if_neg (by simp [e3])]
        rw [e3] at hs
        simp only [Int.natCast_zero] at hs
        clear e2 e3
        generalize l.length = len at *
        generalize nW n = m1 at *
        go_enter Tryd.func55, Tryd.ntmps55
        go_wp2_with (go_at_call 30; refine HW.out.mono ?_; rintro e w' ⟨rfl, rfl⟩)
        go_ret
        exact ⟨rfl, rfl⟩
      · rw [if_pos ⟨e2, e3⟩]
        have hx : ((((x / 2 ^ (n % 64) : Nat)) : Int) != 0) = true := by simp; omega
        clear e2 e3
        generalize x / 2 ^ (n % 64) = y at *
        generalize l.length = len at *
        generalize nW n = m1 at *
        go_enter Tryd.func55, Tryd.ntmps55
        go_wp2_with (go_at_call 30; refine HW.out.mono ?_; rintro e w' ⟨rfl, rfl⟩)
        go_ret
        exact ⟨rfl, rfl⟩
  · rw [if_pos e1]
    have hne : ((l.length : Int) != ((nW n : Nat) : Int)) = true := by simp; omega
    clear e1 q4 q5 hg
    generalize l.length = len at *
    generalize nW n = m1 at *
    go_enter Tryd.func55, Tryd.ntmps55
    go_wp2_with (go_at_call 30; refine HW.out.mono ?_; rintro e w' ⟨rfl, rfl⟩)
    go_ret
    exact ⟨rfl, rfl⟩

/-- the number that words stand for -/
def valW : List Nat → Nat
  | [] => 0
  | x :: r => x + 18446744073709551616 * valW r
theorem valW_lt : ∀ l : List Nat, (∀ b ∈ l, b < 18446744073709551616) → valW l < 2 ^ (64 * l.length)
  | [], _ => by simp [valW]
  | x :: r, h => by
    have := valW_lt r (fun b hb => h b (List.mem_cons_of_mem _ hb))
    have hx := h x List.mem_cons_self
    simp only [valW, List.length_cons]
    rw [show 64 * (r.length + 1) = 64 * r.length + 64 by omega, Nat.pow_add]
    have e : (2 : Nat) ^ 64 = 18446744073709551616 := rfl
    rw [e]
    omega
theorem wd_valW : ∀ (l : List Nat) (k : Nat), (∀ b ∈ l, b < 18446744073709551616) → wd (valW l) k = l.getD k 0
  | [], k, _ => by simp [valW, wd]
  | x :: r, 0, h => by
    have hx := h x List.mem_cons_self
    simp [valW, wd, List.getD]; omega
  | x :: r, k + 1, h => by
    have ih := wd_valW r k (fun b hb => h b (List.mem_cons_of_mem _ hb))
    have hx := h x List.mem_cons_self
    have e : wd (valW (x :: r)) (k + 1) = wd (valW r) k := by
      unfold wd
      rw [show 64 * (k + 1) = 64 + 64 * k by omega, Nat.pow_add, ← Nat.div_div_eq_div_mul]
      have : valW (x :: r) / 2 ^ 64 = valW r := by simp only [valW]; omega
      rw [this]
    rw [e, ih]
    simp [List.getD]
theorem valW_listed {n : Nat} {l : List Nat} (h1 : 1 ≤ n) (hl : ∀ b ∈ l, b < 18446744073709551616) (h : cwErr n l = 0) : l.length = nW n ∧ valW l < 2 ^ n := by
  unfold cwErr at h
  by_cases e1 : l.length = nW n
  · rw [if_neg (by omega)] at h
    refine ⟨e1, lt_of_bits fun i hi => ?_⟩
    by_cases e2 : n % 64 ≠ 0 ∧ l.getD (l.length - 1) 0 / 2 ^ (n % 64) ≠ 0
    · rw [if_pos e2] at h; cases h
    · by_cases hi2 : i < 64 * l.length
      · rw [bit_of_wd, wd_valW _ _ hl]
        have hn : n % 64 ≠ 0 := by rw [e1] at hi2; unfold nW at hi2; omega
        have hz : l.getD (l.length - 1) 0 / 2 ^ (n % 64) = 0 := by
          apply Decidable.byContradiction
          intro hh
          exact e2 ⟨hn, hh⟩
        have ei : i / 64 = l.length - 1 := by rw [e1] at hi2 ⊢; unfold nW at *; omega
        rw [ei]
        exact shf_none hz (i % 64) (by rw [e1] at hi2; unfold nW at *; omega)
      · exact bit_ge (valW_lt l hl) (by omega)
  · rw [if_pos e1] at h; cases h
end Go.Proofs.YtnjlbkbhlcccmaaDoor
