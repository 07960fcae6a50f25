import Derived.Test.YtbkcenpohcjgnaaHexLaw
import Derived.ProofKit
import Derived.OpenShut
import Derived.ShutString
import Derived.ChangeOld
namespace Go.Proofs.Ytbkcenpohcjgnaa
open Go.ChangeShapes Go.WideShapes Go.ChangeAt Go.RowKit
open Go.ChangeMaps (open_string shut_string)
open Num
set_option linter.unusedVariables false

theorem own : ownKnob Try.prog.godebug = none := by kernel_rfl
theorem laidOut : laidOutB Try.prog = true := by kernel_rfl

/-- An array of bytes that came in by value. -/
theorem open_array {H : Type} {enc : TypeId × Value → H} {P : Program} {W : World} {base b0 : Nat} {spare : Nat → Bool} {held : Bool} {t e : TypeId} {n : Nat} {r : Reach} {v : Value} {d : DataW H} {p : List MemPlace}
    (hu : P.underlying t = some (.array n e)) (he : P.underlying e = some (.int .u8)) (hce : P.cellsOf e = 1) (hct : P.cellsOf t = n)
    (hv : Value.okWide P W r b0 t v) (h : DataW.Trod enc P W base spare held t v d p) : ∃ l : List Nat, l.length = n ∧ (∀ b ∈ l, b < 256) ∧ v = .agg (arr l) := by
  unfold Value.okWide at hv
  rw [hu] at hv
  obtain ⟨cs, rfl, hsz, _⟩ := hv
  rw [hct] at hsz
  obtain ⟨fuel, hf⟩ := h
  obtain ⟨xs, m, rfl, hx, hlen, hxl, hcell⟩ := DataW.trod_array hu hf
  have hall : ∀ i (hi : i < cs.size), ∃ z : Nat, z < 256 ∧ cs[i] = .int .u8 (z : Int) := by
    intro i hi
    have h1 := hcell i (by omega)
    rw [hce, Nat.mul_one] at h1
    obtain ⟨y, hy⟩ : ∃ y, xs[i]? = some y := ⟨xs[i]'(by omega), by simp⟩
    rw [hy] at h1
    obtain ⟨z, hz, _, hw⟩ := DataW.trod_int he h1
    have hb := bounds_u8 hw
    have e1 : (((Value.agg cs).cells.toList.drop i).take 1) = [cs[i]] := by
      show ((cs.toList.drop i).take 1) = _
      rw [List.drop_eq_getElem_cons (by simpa using hi)]
      simp
    rw [e1] at hz
    refine ⟨z.toNat, by omega, ?_⟩
    rw [Int.toNat_of_nonneg hb.1]
    simpa using hz
  refine ⟨cs.toList.map (fun v => match v with | .int _ z => z.toNat | _ => 0), by simp [hsz], ?_, ?_⟩
  · intro b hb
    obtain ⟨v, hv, rfl⟩ := List.mem_map.1 hb
    obtain ⟨i, hi, rfl⟩ := List.getElem_of_mem hv
    obtain ⟨z, hz, e1⟩ := hall i (by simpa using hi)
    rw [Array.getElem_toList, e1]
    simpa using hz
  · congr 1
    apply Array.ext
    · simp [arr]
    · intro i h1 h2
      obtain ⟨z, hz, e1⟩ := hall i h1
      simp [arr, e1, byteV]

end Go.Proofs.Ytbkcenpohcjgnaa
