import Derived.Test.YtijfnacplikibabKLetIn
import Derived.Test.YtijfnacplikibabKSee
namespace Go.Proofs.Ytijfnacplikibab
open Go.RowKit
set_option linter.unusedVariables false
set_option linter.unusedSimpArgs false
set_option maxRecDepth 20000

section
variable (w : World) (p b : Nat) (m : Int) (n : Nat) (V : Nat → Value) (L : Nat → List (Int × Int)) (ws wt : Int) (r : Nat) (o md : Int) (gr : Bool) (tv : Value) (nu : Int)
/-- the cells that acquire and release read -/
def AC (p b n : Nat) (V : Nat → Value) (ws wt : Int) (r : Nat) (e o md : Int) (x : World) : Prop := x.cell? ⟨r, 0, none⟩ = some (.pointer (some ⟨p, 0, none⟩)) ∧ x.cell? ⟨r, 1, none⟩ = some (.int .i64 e) ∧ x.cell? ⟨r, 2, none⟩ = some (.int .i64 o) ∧ x.cell? ⟨r, 3, none⟩ = some (.int .i64 md) ∧ x.cell? ⟨p, 2, none⟩ = some (.slice (some ⟨b, 0, none⟩) n n) ∧ x.cell? ⟨p, 3, none⟩ = some (.int .i64 ws) ∧ x.cell? ⟨p, 4, none⟩ = some (.int .i64 wt)
theorem ac_of {p b n : Nat} {m : Int} {V : Nat → Value} {L : Nat → List (Int × Int)} {ws wt : Int} {r : Nat} {e o md : Int} {gr : Bool} {tv : Value} {nu : Int} {x : World} (h : TRep x p b m n V L ws wt) (q : QRep x r p e o md gr tv nu) : AC p b n V ws wt r e o md x :=
  ⟨q.c 0, q.c 1, q.c 2, q.c 3, h.c 2, h.c 3, h.c 4⟩
set_option maxHeartbeats 1000000 in
theorem acq_arg (e : Int) (h : TRep w p b m n V L ws wt) (q : QRep w r p e o md gr tv nu) (h1 : ¬ md = 1) (h2 : ¬ md = 2) :
    Calls Try.prog 32 #[.pointer (some ⟨r, 0, none⟩)] w fun e' w' => e' = .returned (.int .i64 1) ∧ Below w.heap.size w w' := by
  obtain ⟨c0, c1, c2, c3, d2, d3, d4⟩ := ac_of h q
  have e1 : (md != 1) = true := by simpa using h1
  have e2 : (md != 2) = true := by simpa using h2
  clear h q
  go_enter Try.func32, Try.ntmps32
  go_wp2_with fail
  try go_quiet (fail)
  try go_wp2_with fail
  go_ret
  exact ⟨rfl, by first | exact Below.refl _ _ | exact below_drewN (Below.refl _ _) _⟩
set_option maxHeartbeats 1000000 in
theorem acq_range (e : Int) (h : TRep w p b m n V L ws wt) (q : QRep w r p e o md gr tv nu) (hm : md = 1 ∨ md = 2) (he : ¬ (0 ≤ e ∧ e < (n : Int))) :
    Calls Try.prog 32 #[.pointer (some ⟨r, 0, none⟩)] w fun e' w' => e' = .returned (.int .i64 2) ∧ Below w.heap.size w w' := by
  obtain ⟨c0, c1, c2, c3, d2, d3, d4⟩ := ac_of h q
  have HX := hide (exists_any w p b m n V L ws wt r e o md gr tv nu h q)
  rw [ext_no he] at HX
  clear h q he
  rcases hm with rfl | rfl
  · go_enter Try.func32, Try.ntmps32
    go_wp2_with (go_at_call 45; refine HX.out.mono ?_; rintro e' w2 ⟨rfl, hw2⟩; have HB2 := hide hw2; clear HX hw2)
    go_ret
    exact ⟨rfl, HB2.out⟩
  · go_enter Try.func32, Try.ntmps32
    go_wp2_with (go_at_call 45; refine HX.out.mono ?_; rintro e' w2 ⟨rfl, hw2⟩; have HB2 := hide hw2; clear HX hw2)
    go_ret
    exact ⟨rfl, HB2.out⟩
end
end Go.Proofs.Ytijfnacplikibab
