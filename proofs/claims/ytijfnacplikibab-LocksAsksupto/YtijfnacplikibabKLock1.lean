import Derived.Test.YtijfnacplikibabKPlace
namespace Go.Proofs.Ytijfnacplikibab
open Go.RowKit
set_option linter.unusedVariables false
set_option linter.unusedSimpArgs false
set_option maxRecDepth 20000

/-- the holders' mode; does a mode go with them -/
def modeOf (l : List (Int × Int)) : Int := match l with | [] => 0 | c :: _ => c.2
def goesB (l : List (Int × Int)) (m : Int) : Bool := l.isEmpty || (m == 1 && modeOf l == 1)
set_option maxHeartbeats 1000000 in
theorem mode_any (w : World) (b q : Nat) (v : Value) (l : List (Int × Int)) (hc : w.cell? ⟨b, q, none⟩ = some v) (hl : CRow w v l) : Calls Try.prog 52 #[.pointer (some ⟨b, q, none⟩)] w fun e w' => e = .returned (.int .i64 (modeOf l)) ∧ w' = w := by
  cases l with
  | nil =>
    obtain ⟨a, cap, rfl, h1, h2⟩ := rowForm hl
    clear hl
    simp only [List.length_nil] at hc h1
    go_enter Try.func52, Try.ntmps52
    go_wp2_with fail
    go_ret
    exact ⟨rfl, rfl⟩
  | cons c l =>
    obtain ⟨g, cap, rfl, hlt, c1, c2⟩ := CRow.cell hl (j := 0) (c := c) rfl
    obtain ⟨_, _, e, h1, h2⟩ := rowForm hl
    simp only [Value.slice.injEq] at e
    obtain ⟨-, -, rfl⟩ := e
    have hz : ((((c :: l).length : Nat) : Int) == 0) = false := by
      have : ¬ (((c :: l).length : Nat) : Int) = 0 := by rw [List.length_cons]; omega
      simpa using this
    have hi : 0 ≤ (0 : Int) ∧ (0 : Int) < (((c :: l).length : Nat) : Int) := ⟨by omega, by rw [List.length_cons]; omega⟩
    have hm : modeOf (c :: l) = c.2 := rfl
    rw [hm]
    clear hl hm
    generalize (c :: l).length = n at *
    unfold maxLen at h2
    obtain ⟨x, y⟩ := c
    simp only [Nat.zero_mul] at c1 c2
    go_enter Try.func52, Try.ntmps52
    go_wp2_with fail
    go_ret
    exact ⟨rfl, rfl⟩
set_option maxHeartbeats 1000000 in
theorem goes_any (w : World) (b q : Nat) (v : Value) (l : List (Int × Int)) (m : Int) (hc : w.cell? ⟨b, q, none⟩ = some v) (hl : CRow w v l) : Calls Try.prog 48 #[.pointer (some ⟨b, q, none⟩), .int .i64 m] w fun e w' => e = .returned (.bool (goesB l m)) ∧ w' = w := by
  have HM := hide (mode_any w b q v l hc hl)
  obtain ⟨a, cap, rfl, h1, h2⟩ := rowForm hl
  unfold maxLen at h2
  clear hl
  cases l with
  | nil =>
    simp only [List.length_nil] at hc h1
    clear HM
    go_enter Try.func48, Try.ntmps48
    go_wp2_with fail
    go_ret
    exact ⟨rfl, rfl⟩
  | cons c l =>
    have hz : ((((c :: l).length : Nat) : Int) == 0) = false := by
      have : ¬ (((c :: l).length : Nat) : Int) = 0 := by rw [List.length_cons]; omega
      simpa using this
    have hg : goesB (c :: l) m = (m == 1 && modeOf (c :: l) == 1) := rfl
    rw [hg]
    clear hg
    generalize modeOf (c :: l) = mo at *
    generalize (c :: l).length = n at *
    cases h3 : m == 1 with
    | false =>
      clear HM
      go_enter Try.func48, Try.ntmps48
      go_wp2_with fail
      go_ret
      exact ⟨rfl, rfl⟩
    | true =>
      go_enter Try.func48, Try.ntmps48
      go_wp2_with (go_at_call 52; refine HM.out.mono ?_; rintro e' w2 ⟨rfl, rfl⟩; clear HM)
      go_ret
      exact ⟨rfl, rfl⟩
def has (l : List (Int × Int)) (o : Int) : Bool := decide (0 ≤ plV l o)
set_option maxHeartbeats 1000000 in
theorem holds_any (w : World) (b q : Nat) (v : Value) (l : List (Int × Int)) (o : Int) (hc : w.cell? ⟨b, q, none⟩ = some v) (hl : CRow w v l) : Calls Try.prog 46 #[.pointer (some ⟨b, q, none⟩), .int .i64 o] w fun e w' => e = .returned (.bool (has l o)) ∧ Below w.heap.size w w' := by
  have HP := hide (place_any w v l o hl)
  obtain ⟨a, cap, rfl, h1, h2⟩ := rowForm hl
  clear hl
  unfold has
  generalize plV l o = k at *
  go_enter Try.func46, Try.ntmps46
  go_wp2_with (go_at_call 55; refine HP.out.mono ?_; rintro e' w2 ⟨rfl, hw2⟩; have HB2 := hide hw2; clear HP hw2)
  go_ret
  exact ⟨rfl, HB2.out⟩
set_option maxHeartbeats 1000000 in
theorem waits_any (w : World) (b q : Nat) (v : Value) (l : List (Int × Int)) (o : Int) (hc : w.cell? ⟨b, q + 1, none⟩ = some v) (hl : CRow w v l) : Calls Try.prog 47 #[.pointer (some ⟨b, q, none⟩), .int .i64 o] w fun e w' => e = .returned (.bool (has l o)) ∧ Below w.heap.size w w' := by
  have HP := hide (place_any w v l o hl)
  obtain ⟨a, cap, rfl, h1, h2⟩ := rowForm hl
  clear hl
  unfold has
  generalize plV l o = k at *
  go_enter Try.func47, Try.ntmps47
  go_wp2_with (go_at_call 55; refine HP.out.mono ?_; rintro e' w2 ⟨rfl, hw2⟩; have HB2 := hide hw2; clear HP hw2)
  go_ret
  exact ⟨rfl, HB2.out⟩
end Go.Proofs.Ytijfnacplikibab
