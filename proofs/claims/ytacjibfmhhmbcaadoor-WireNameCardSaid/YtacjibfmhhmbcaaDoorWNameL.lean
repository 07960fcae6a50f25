import Derived.Test.YtacjibfmhhmbcaaDoorByt
import Derived.Test.YtacjibfmhhmbcaaDoorCards
import Derived.Test.YtacjibfmhhmbcaaDoorTie
import Derived.WalkKit
import Derived.WalkSpells
import Derived.WalkLawsBesides
import Derived.BigQuiet
import Derived.Deep.QuietTactic
import Derived.ProofKit
import Derived.OpenShut
import Derived.ChangeOld
import Derived.Deep.DeepHandedRow
import Derived.Lib.LaidTab
namespace Go.Proofs.YtacjibfmhhmbcaaDoor
open Go.ChangeShapes Go.WideShapes Go.ChangeAt Go.RowKit
set_option linter.unusedVariables false
set_option linter.unusedSimpArgs false

/-- the commands' names, as bytes -/
def nms : List (List UInt8) := [[], [70, 101, 97, 116, 117, 114, 101], [67, 104, 97, 108, 108, 101, 110, 103, 101], [82, 101, 115, 112, 111, 110, 115, 101], [83, 105, 122, 101, 115], [73, 100, 115], [83, 116, 97, 116, 101], [66, 105, 116, 115], [68, 97, 116, 97], [90, 101, 114, 111], [82, 101, 99, 118, 65, 99, 107], [87, 114, 105, 116, 101, 65, 99, 107], [78, 101, 103, 65, 99, 107], [66, 97, 114, 114, 105, 101, 114], [66, 97, 114, 114, 105, 101, 114, 65, 99, 107], [83, 117, 109, 82, 101, 113, 117, 101, 115, 116], [73, 110, 83, 121, 110, 99], [83, 121, 110, 99, 68, 97, 116, 97], [83, 121, 110, 99, 65, 99, 107], [83, 121, 110, 99, 68, 111, 110, 101], [86, 101, 114, 105, 102, 121, 82, 101, 113, 117, 101, 115, 116], [86, 101, 114, 105, 102, 121, 82, 101, 112, 108, 121], [86, 101, 114, 105, 102, 121, 68, 111, 110, 101], [71, 101, 110, 115], [82, 101, 97, 100, 82, 101, 113, 117, 101, 115, 116], [82, 101, 97, 100, 82, 101, 112, 108, 121]]
def nmB (i : Nat) : ByteArray := ⟨(nms.getD i []).toArray⟩
def strData {H : Type} (l : List (List UInt8)) : DataW H := .agg (l.map fun s => .lit (.string s))
/-- a table of the names -/
def STab (w : World) (g : Nat) : Prop := ∀ i, i < 26 → w.cell? ⟨g, i, none⟩ = some (.string (nmB i))

theorem cells_of_strs {H : Type} {enc : TypeId × Value → H} {P : Program} {w : World} {base : Nat} {sp : Nat → Bool} {held : Bool} {fuel : Nat} {t e : TypeId} {n : Nat} {cs : List Value} {zs : List (List UInt8)} {p : List MemPlace}
    (ht : P.underlying t = some (.array n e)) (he : P.underlying e = some .string) (hce : P.cellsOf e = 1) (hct : P.cellsOf t = n)
    (h : DataW.trod enc P w base sp held fuel t cs = some (strData zs, p)) : cs = zs.map fun z => Value.string ⟨z.toArray⟩ := by
  cases fuel with
  | zero => simp [DataW.trod] at h
  | succ fuel =>
    simp only [DataW.trod, ht, hce, hct, Nat.mul_one] at h
    split at h
    · rename_i hl
      obtain ⟨xs, hm, hx⟩ := Option.map_eq_some_iff.1 h
      have hxs : xs.map (·.1) = zs.map fun z => (DataW.lit (.string z) : DataW H) := by
        have := congrArg Prod.fst hx
        simpa [strData] using this
      have hxl : xs.length = n := by simpa using Lib.mapM_length hm
      have hzl : zs.length = n := by
        have := congrArg List.length hxs
        simp at this
        omega
      apply List.ext_getElem?
      intro i
      by_cases hi : i < n
      · obtain ⟨b, hb, hf⟩ := Lib.mapM_at hm i i (by simp [hi])
        obtain ⟨z, hc, rfl, _⟩ := DataW.trod_string he hf
        have h1 : cs[i]? = some (.string z) := by
          have := congrArg (·[0]?) hc
          simpa [List.getElem?_take, List.getElem?_drop] using this
        have h2 : (xs.map (·.1))[i]? = some (DataW.lit (.string z.data.toList) : DataW H) := by simp [hb]
        rw [hxs] at h2
        simp only [List.getElem?_map, Option.map_eq_some_iff, DataW.lit.injEq, Lit.string.injEq] at h2
        obtain ⟨z', hz', e'⟩ := h2
        simp [h1, hz', e']
      · rw [List.getElem?_eq_none (by omega), List.getElem?_eq_none (by simp; omega)]
    · cases h

theorem own : ownKnob Tryd.prog.godebug = none := by kernel_rfl
theorem laidOut : laidOutB Tryd.prog = true := by kernel_rfl
theorem gW : Tryd.prog.globalNamed "replica/wire.names" = some 0 := by kernel_rfl
theorem gR : Tryd.prog.globalNamed "replica/replicaref07.names" = some 1 := by kernel_rfl
theorem gWty : (Tryd.prog.globals[0]?).map (·.type) = some 47 := by kernel_rfl
theorem gRty : (Tryd.prog.globals[1]?).map (·.type) = some 47 := by kernel_rfl
theorem cellsN : Tryd.prog.cellsOf 47 = 26 := by kernel_rfl
theorem cellsS : Tryd.prog.cellsOf 9 = 1 := by kernel_rfl
def listed : List (String × DataW Unit) := [("replica/replicaref07.names", Rows.laid_replica_replicaref07_names), ("replica/wire.names", Rows.laid_replica_wire_names)]

theorem stab_of {W : World} {name : String} {g : Nat} (hg : Tryd.prog.globalNamed name = some g) (h : W.var? Tryd.prog name = some (nms.map fun z => Value.string ⟨z.toArray⟩).toArray) : STab W g := by
  intro i hi
  have := World.var?_cell hg h i
  rw [this]
  have hl : i < nms.length := hi
  simp [nmB, List.getD, hl]

theorem stabs_of_laid {W : World} (h : laidMetH Tryd.prog listed W) : STab W 0 ∧ STab W 1 := by
  have h' : laidMet Tryd.prog [("replica/replicaref07.names", strData nms), ("replica/wire.names", strData nms)] W := h
  obtain ⟨ps, ⟨g', t', cs, fuel, p, q, hg', ht', hvar, hd, ⟨g2, t2, cs2, fuel2, p2, q2, hg2, ht2, hvar2, hd2, _⟩, _⟩, _⟩ := h'
  obtain rfl := Option.some.inj (gR.symm.trans hg')
  obtain rfl := Option.some.inj (gRty.symm.trans ht')
  obtain rfl := Option.some.inj (gW.symm.trans hg2)
  obtain rfl := Option.some.inj (gWty.symm.trans ht2)
  refine ⟨stab_of gW ?_, stab_of gR ?_⟩
  · rw [hvar2, ← cells_of_strs Tryd.underlying47 Tryd.underlying9 cellsS cellsN hd2]
  · rw [hvar, ← cells_of_strs Tryd.underlying47 Tryd.underlying9 cellsS cellsN hd]

theorem isCommand_any (w : World) (k : Int) : Calls Tryd.prog 22 #[.int .i64 k] w fun e w' => e = .returned (.bool (decide (1 ≤ k) && decide (k ≤ 25))) ∧ w' = w := by
  by_cases h1 : 1 ≤ k
  · by_cases h2 : k ≤ 25
    · go_enter Tryd.func22, Tryd.ntmps22
      go_wp2
      go_ret
      exact ⟨by simp [h1, h2], rfl⟩
    · go_enter Tryd.func22, Tryd.ntmps22
      go_wp2
      go_ret
      exact ⟨by simp [h1, h2], rfl⟩
  · go_enter Tryd.func22, Tryd.ntmps22
    go_wp2
    go_ret
    exact ⟨by simp; omega, rfl⟩
theorem nameP_yes (w : World) (k : Nat) (h1 : 1 ≤ k) (h2 : k ≤ 25) (hT : STab w 0) : Calls Tryd.prog 7 #[.int .i64 (k : Int)] w fun e w' => e = .returned (.tuple #[.string (nmB k), .int .i64 0]) ∧ w' = w := by
  have hc := hT k (by omega)
  clear hT
  generalize nmB k = s at *
  have HI : Hid (Calls Tryd.prog 22 #[.int .i64 (k : Int)] w fun e w' => e = .returned (.bool true) ∧ w' = w) := hide (by have := isCommand_any w k; rw [show (decide (1 ≤ (k : Int)) && decide ((k : Int) ≤ 25)) = true by simp; omega] at this; exact this)
  go_enter Tryd.func7, Tryd.ntmps7
  go_wp2_with (go_at_call 22; refine HI.out.mono ?_; rintro e x ⟨rfl, hw⟩; rw [hw]; clear hw)
  go_ret2
  exact ⟨rfl, rfl⟩
theorem nameP_no (w : World) (k : Int) (h : ¬ (1 ≤ k ∧ k ≤ 25)) : Calls Tryd.prog 7 #[.int .i64 k] w fun e w' => e = .returned (.tuple #[.string ⟨#[]⟩, .int .i64 74]) ∧ w' = w := by
  have HI : Hid (Calls Tryd.prog 22 #[.int .i64 k] w fun e w' => e = .returned (.bool false) ∧ w' = w) := hide (by have := isCommand_any w k; rw [show (decide (1 ≤ k) && decide (k ≤ 25)) = false by simp; omega] at this; exact this)
  go_enter Tryd.func7, Tryd.ntmps7
  go_wp2_with (go_at_call 22; refine HI.out.mono ?_; rintro e x ⟨rfl, hw⟩; rw [hw]; clear hw)
  go_ret2
  exact ⟨rfl, rfl⟩
theorem nameR_yes (w : World) (k : Nat) (h1 : 1 ≤ k) (h2 : k ≤ 25) (hT : STab w 1) : Calls Tryd.prog 8 #[.int .i64 (k : Int)] w fun e w' => e = .returned (.tuple #[.string (nmB k), .int .i64 0]) ∧ w' = w := by
  have hc := hT k (by omega)
  clear hT
  generalize nmB k = s at *
  go_enter Tryd.func8, Tryd.ntmps8
  go_wp2
  go_ret2
  exact ⟨rfl, rfl⟩
theorem nameR_no (w : World) (k : Int) (h : ¬ (1 ≤ k ∧ k ≤ 25)) : Calls Tryd.prog 8 #[.int .i64 k] w fun e w' => e = .returned (.tuple #[.string ⟨#[]⟩, .int .i64 74]) ∧ w' = w := by
  by_cases h1 : k < 1
  · go_enter Tryd.func8, Tryd.ntmps8
    go_wp2
    go_ret2
    exact ⟨rfl, rfl⟩
  · have h2 : 25 < k := by omega
    go_enter Tryd.func8, Tryd.ntmps8
    go_wp2
    go_ret2
    exact ⟨rfl, rfl⟩
theorem numN_any (w : World) (x : Int) : Calls Tryd.prog 9 #[.int .i64 x] w fun e w' => e = .returned (.int .i64 x) ∧ w' = w := by
  go_enter Tryd.func9, Tryd.ntmps9
  go_wp2
  go_ret
  exact ⟨rfl, rfl⟩

set_option maxHeartbeats 1000000 in
theorem wireName_law (w : World) (k : Int) (h0 : STab w 0) (h1 : STab w 1) : Calls Tryd.prog 3 #[.int .i64 k] w fun e w' => e = .returned (.bool true) ∧ Below w.heap.size w w' := by
  obtain ⟨s, q, HP, HR⟩ : ∃ (s : ByteArray) (q : Int), (Calls Tryd.prog 7 #[.int .i64 k] w fun e w' => e = .returned (.tuple #[.string s, .int .i64 q]) ∧ w' = w) ∧ (Calls Tryd.prog 8 #[.int .i64 k] w fun e w' => e = .returned (.tuple #[.string s, .int .i64 q]) ∧ w' = w) := by
    by_cases h : 1 ≤ k ∧ k ≤ 25
    · obtain ⟨kk, rfl⟩ : ∃ kk : Nat, k = (kk : Int) := ⟨k.toNat, by omega⟩
      exact ⟨_, _, nameP_yes w kk (by omega) (by omega) h0, nameR_yes w kk (by omega) (by omega) h1⟩
    · exact ⟨_, _, nameP_no w k h, nameR_no w k h⟩
  clear h0 h1
  have HP := hide HP
  have HR := hide HR
  go_enter Tryd.func3, Tryd.ntmps3
  go_wp2_with (first
    | (go_at_call 7; refine HP.out.mono ?_; rintro e x ⟨rfl, hw⟩; rw [hw]; clear hw)
    | (go_at_call 8; refine HR.out.mono ?_; rintro e x ⟨rfl, hw⟩; rw [hw]; clear hw)
    | (go_at_call 9; refine (numN_any _ _).mono ?_; rintro e x ⟨rfl, hw⟩; rw [hw]; clear hw))
  go_ret
  exact ⟨by simp, Below.refl _ _⟩

def relay (cs : List Value) : Obj → Obj
  | .cells _ t frozen => .cells cs.toArray t frozen
  | o => o
/-- a world for the witness: the settled one, with the two tables in it -/
def laidIn (w : World) : World := { w with heap := (w.heap.modify 0 (relay (nms.map fun z => Value.string ⟨z.toArray⟩))).modify 1 (relay (nms.map fun z => Value.string ⟨z.toArray⟩)) }
end Go.Proofs.YtacjibfmhhmbcaaDoor
