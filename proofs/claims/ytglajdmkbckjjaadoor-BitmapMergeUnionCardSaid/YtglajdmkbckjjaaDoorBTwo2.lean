import Derived.Test.YtglajdmkbckjjaaDoorBTwo
namespace Go.Proofs.YtglajdmkbckjjaaDoor
open Go.RowKit Go.Shelf
set_option linter.unusedVariables false
set_option linter.unusedSimpArgs false
set_option maxRecDepth 20000

theorem canB_true {n : Int} {l : List Nat} (h : canB n l = true) : ∃ m : Nat, n = (m : Int) ∧ 1 ≤ m ∧ m ≤ 65536 ∧ cwErr m l = 0 := by
  have h' := of_decide_eq_true h
  exact ⟨n.toNat, by omega, by omega, by omega, h'.2.2⟩

set_option maxHeartbeats 1000000 in
theorem two_walk {w : World} {v ov : Value} {l : List Nat} {os : List OpV} (n bit a : Int) (hT : TabAt w) (hv : WSl w v l) (hr : l.length ≤ 17592186044416) (ho : OSl w ov os) :
    Calls Tryd.prog 7 #[.int .i64 n, v, ov, .int .i64 bit, .int .i64 a] w fun e w' => e = .returned (.bool true) ∧ Below w.heap.size w w' := by
  by_cases hc : canB n l = true
  · obtain ⟨m, rfl, h1, h2, he⟩ := canB_true hc
    have HL := hide (listed_any (m : Int) hv)
    rw [hc] at HL
    by_cases b1 : bit < 0
    · obtain ⟨va, vcap, rfl, -⟩ := hv
      obtain ⟨oa, ocap, rfl, -⟩ := ho
      clear he hc hT hr
      generalize l.length = llen at *
      generalize os.length = olen at *
      go_enter Tryd.func7, Tryd.ntmps7
      go_wp2_with (go_at_call 9; refine HL.out.mono ?_; rintro e w' ⟨rfl, rfl⟩)
      go_ret
      exact ⟨rfl, Below.refl _ _⟩
    · by_cases b2 : (m : Int) ≤ bit
      · obtain ⟨va, vcap, rfl, -⟩ := hv
        obtain ⟨oa, ocap, rfl, -⟩ := ho
        clear he hc hT hr
        generalize l.length = llen at *
        generalize os.length = olen at *
        go_enter Tryd.func7, Tryd.ntmps7
        go_wp2_with (go_at_call 9; refine HL.out.mono ?_; rintro e w' ⟨rfl, rfl⟩)
        go_ret
        exact ⟨rfl, Below.refl _ _⟩
      · by_cases b3 : a < 0
        · obtain ⟨va, vcap, rfl, -⟩ := hv
          obtain ⟨oa, ocap, rfl, -⟩ := ho
          clear he hc hT hr
          generalize l.length = llen at *
          generalize os.length = olen at *
          go_enter Tryd.func7, Tryd.ntmps7
          go_wp2_with (go_at_call 9; refine HL.out.mono ?_; rintro e w' ⟨rfl, rfl⟩)
          go_ret
          exact ⟨rfl, Below.refl _ _⟩
        · by_cases b4 : (m : Int) ≤ a
          · obtain ⟨va, vcap, rfl, -⟩ := hv
            obtain ⟨oa, ocap, rfl, -⟩ := ho
            clear he hc hT hr
            generalize l.length = llen at *
            generalize os.length = olen at *
            go_enter Tryd.func7, Tryd.ntmps7
            go_wp2_with (go_at_call 9; refine HL.out.mono ?_; rintro e w' ⟨rfl, rfl⟩)
            go_ret
            exact ⟨rfl, Below.refl _ _⟩
          · obtain ⟨bn, rfl⟩ : ∃ k : Nat, bit = (k : Int) := ⟨bit.toNat, by omega⟩
            obtain ⟨an, rfl⟩ : ∃ k : Nat, a = (k : Int) := ⟨a.toNat, by omega⟩
            exact two_main m bn an hT hv hr ho h1 h2 he (by omega) (by omega)
  · have hc' : canB n l = false := by simpa using hc
    have HL := hide (listed_any n hv)
    rw [hc'] at HL
    obtain ⟨va, vcap, rfl, -⟩ := hv
    obtain ⟨oa, ocap, rfl, -⟩ := ho
    clear hc hc' hT hr
    generalize l.length = llen at *
    generalize os.length = olen at *
    go_enter Tryd.func7, Tryd.ntmps7
    go_wp2_with (go_at_call 9; refine HL.out.mono ?_; rintro e w' ⟨rfl, rfl⟩)
    go_ret
    exact ⟨rfl, Below.refl _ _⟩
end Go.Proofs.YtglajdmkbckjjaaDoor
