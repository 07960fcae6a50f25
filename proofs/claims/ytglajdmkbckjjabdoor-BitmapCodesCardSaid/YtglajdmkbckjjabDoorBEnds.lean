import Derived.Test.YtglajdmkbckjjabDoorBLevels2
namespace Go.Proofs.YtglajdmkbckjjabDoor
open Go.RowKit Go.Shelf
set_option linter.unusedVariables false
set_option linter.unusedSimpArgs false
set_option maxRecDepth 20000

/-- a count of a range, in any world behind w -/
theorem count_in {w : World} {L : BL} {n B : Nat} (h : BRep w L n B) {a c k : Nat} (hac : a + c ≤ n) (hk : cnt (fun j => B.testBit (a + j)) c = k) {C K : Int} (hC : C = (c : Int)) (hK : K = (k : Int)) :
    ∀ W, Below w.heap.size w W → Calls Tryd.prog 41 #[PB L, .int .i64 (a : Int), .int .i64 C] W fun e w' => e = .returned (.tuple #[.int .i64 K, .int .i64 0]) ∧ Below w.heap.size w w' := by
  intro W hb
  subst hC hK
  have := CountRange_any (h.below hb) hac
  rw [hk] at this
  exact this.mono fun e w' hp => ⟨hp.1, hb.trans (hp.2.mono hb.size)⟩
theorem nx_facts {B n a i : Nat} (h : nx B n a = some i) (ha : a ≤ n) : a ≤ i ∧ i < n ∧ B.testBit i = true ∧ ∀ j, a ≤ j → j < i → B.testBit j = false := by
  obtain ⟨h1, h2, h3, h4⟩ := fnd_is _ _ _ h
  exact ⟨h1, by omega, h3, h4⟩
theorem nc_facts {B n a i : Nat} (h : nc B n a = some i) (ha : a ≤ n) : a ≤ i ∧ i < n ∧ B.testBit i = false ∧ ∀ j, a ≤ j → j < i → B.testBit j = true := by
  obtain ⟨h1, h2, h3, h4⟩ := fnd_is _ _ _ h
  exact ⟨h1, by omega, by simpa using h3, fun j hj hj' => by simpa using h4 j hj hj'⟩
theorem nx_no {B n a : Nat} (h : nx B n a = none) : ∀ j, a ≤ j → j < n → B.testBit j = false := fun j h1 h2 => fnd_isNone _ _ h j h1 (by omega)
theorem nc_no {B n a : Nat} (h : nc B n a = none) : ∀ j, a ≤ j → j < n → B.testBit j = true := fun j h1 h2 => by simpa using fnd_isNone _ _ h j h1 (by omega)

end Go.Proofs.YtglajdmkbckjjabDoor
