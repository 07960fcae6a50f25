import Derived.Test.YtcjilmafdpnfeaaDoorWRnum2
namespace Go.Proofs.YtcjilmafdpnfeaaDoor
open Go.RowKit
set_option linter.unusedVariables false
set_option linter.unusedSimpArgs false
set_option maxRecDepth 20000

set_option maxHeartbeats 1000000 in
/-- a number of a reader that is stuck -/
theorem number_stuck (w : World) (rb b off cap at' width : Nat) (l : List Nat) (sa : Option Addr) (sn sc : Nat) (h : Rd w rb b off cap l at' true) (hw : 0 < width) (hw8 : width ≤ 8) :
    Calls Tryd.prog 12 #[.pointer (some ⟨rb, 0, none⟩), .int .i64 (width : Int), .slice sa sn sc] w fun e' w' => e' = .returned (.int .u64 0) ∧ Rd w' rb b off cap l at' true ∧ Oth rb w w' := by
  have HR := hide h
  have hcap := h.h2
  have hlc := h.h1
  unfold maxLen at hcap
  clear h
  go_enter Tryd.func12, Tryd.ntmps12
  go_wp2_with fail
  go_loopw [12] (fun i wr => i = .int .i64 0 ∧ wr = w) (fun _ _ => 0)
  case atStart => exact ⟨rfl, rfl⟩
  case round =>
    obtain ⟨rfl, hwr⟩ := hrel
    subst hwr
    obtain ⟨c0, c1, c2, f1, f2⟩ := HR.out.cells
    have i1 : (0 : Int) < (width : Int) := by omega
    go_wp2_with fail
    go_quiet (fail)
    go_wp2_with fail
    go_ret
    exact ⟨rfl, (HR.out.same rfl rfl : Rd (wr.drewN nq) rb b off cap l at' true).stop, ((Oth.refl rb wr).drewN nq).set 2 _⟩

/-- a number read or not: what a reader says, stuck or not -/
def rdS (l : List Nat) (L : List (Nat × Nat)) (width at' : Nat) (stuck : Bool) : Nat × Nat × Bool := if stuck = true then (0, at', true) else rdN l L width 0 at'
theorem number_all (w : World) (rb b off cap at' width : Nat) (l : List Nat) (L : List (Nat × Nat)) (v : Value) (stuck : Bool) (h : Rd w rb b off cap l at' stuck) (hs : SpL w v L) (hne : v.ownBlock ≠ some rb) (hw : 0 < width) (hw8 : width ≤ 8) (ha : at' ≤ l.length) :
    Calls Tryd.prog 12 #[.pointer (some ⟨rb, 0, none⟩), .int .i64 (width : Int), v] w fun e' w' => e' = .returned (.int .u64 ((rdS l L width at' stuck).1 : Nat)) ∧ Rd w' rb b off cap l (rdS l L width at' stuck).2.1 (rdS l L width at' stuck).2.2 ∧ Oth rb w w' := by
  cases stuck with
  | false => exact number_any w rb b off cap at' width l L v h hs hne hw8 ha
  | true =>
    obtain ⟨sb, soff, scap, rfl, _⟩ := id hs
    exact number_stuck w rb b off cap at' width l _ _ _ h hw hw8

set_option maxHeartbeats 1000000 in
theorem ident_any (w : World) (rb b off cap at' : Nat) (l : List Nat) (stuck : Bool) (h : Rd w rb b off cap l at' stuck) (ha : at' ≤ l.length) :
    Calls Tryd.prog 21 #[.pointer (some ⟨rb, 0, none⟩)] w fun e' w' => e' = .returned (.int .u64 ((rdS l [(0, 18446744073709551615)] 8 at' stuck).1 : Nat)) ∧ Rd w' rb b off cap l (rdS l [(0, 18446744073709551615)] 8 at' stuck).2.1 (rdS l [(0, 18446744073709551615)] 8 at' stuck).2.2 ∧ Oth rb w w' := by
  have hrl := (Array.getElem?_eq_some_iff.1 h.row).1
  have HB := hide ((Below.refl w.heap.size w).alloc (Nat.le_refl _) (.cells #[.int .u64 0, .int .u64 18446744073709551615] 44))
  have HO := hide ((Oth.refl rb w).below HB.out)
  have HN := hide (number_all _ rb b off cap at' 8 l [(0, 18446744073709551615)] _ stuck (h.below HB.out) (SpL.one (w := w) 0 18446744073709551615 (by decide) (by decide) 44) (by simp only [Value.ownBlock, ne_eq, Option.some.injEq]; omega) (by decide) (by decide) ha)
  generalize rdS l [(0, 18446744073709551615)] 8 at' stuck = r at *
  clear h
  go_enter Tryd.func21, Tryd.ntmps21
  go_wp2_with (go_at_call 12; go_loud (refine HN.out.mono ?_); rintro e' w2 ⟨rfl, hr2, ho2⟩; have HR2 := hide hr2; have HO2 : Hid (Oth rb w w2) := hide ⟨ho2.os.trans HO.out.os, ho2.tape.trans HO.out.tape, ho2.output.trans HO.out.output, Nat.le_trans HO.out.size ho2.size, fun j h1 h2 => (ho2.block j (Nat.lt_of_lt_of_le h1 HO.out.size) h2).trans (HO.out.block j h1 h2)⟩; clear hr2 ho2)
  go_ret
  exact ⟨rfl, HR2.out, HO2.out⟩
end Go.Proofs.YtcjilmafdpnfeaaDoor
