import Derived.Test.YtlpmpicmpklaoacGreatDImage
import Derived.Test.YtlpmpicmpklaoacGreatDCrash
import Derived.Test.YtlpmpicmpklaoacGreatDZero
import Derived.Test.YtlpmpicmpklaoacGreatDCached
import Derived.Test.YtlpmpicmpklaoacGreatDNew2
namespace Go.Proofs.YtlpmpicmpklaoacGreat
open Go.RowKit Go.Maps
set_option linter.unusedVariables false
set_option linter.unusedSimpArgs false
set_option maxRecDepth 20000

theorem trouble_nil (w : World) :
    Calls Tryz.prog 25 #[.nilIface] w fun e w' => e = .returned (.tuple #[.int .i64 0, .int .i64 (-1)]) ∧ w' = w := by
  have q := nilEq
  go_enter Tryz.func25, Tryz.ntmps25
  go_wp2
  go_ret2
  exact ⟨rfl, rfl⟩

theorem assertPbe (v : Value) (xT : TypeId) (w : World) : (Instr.typeAssert (.iface 58 v) xT 58 true).run Tryz.prog w = .ok (.tuple #[v, .bool true]) w := by kernel_rfl
theorem trouble_err (w : World) (g : Nat) (b n : Int) (hg : w.heap[g]? = some (berr b n)) :
    Calls Tryz.prog 25 #[errV g] w fun e w' => e = .returned (.tuple #[.int .i64 n, .int .i64 b]) ∧ ∃ k, w' = w.drewN k := by
  have c0 : w.cell? ⟨g, 0, none⟩ = some (.int .i64 b) := by rw [cell_of_row _ _ _ _ _ _ hg]; rfl
  have c1 : w.cell? ⟨g, 1, none⟩ = some (.int .i64 n) := by rw [cell_of_row _ _ _ _ _ _ hg]; rfl
  clear hg
  have q := ifaceEq
  have qa := assertPbe
  unfold errV
  go_enter Tryz.func25, Tryz.ntmps25
  go_wp2
  go_quiet (fail)
  go_wp2
  go_ret2
  exact ⟨rfl, _, rfl⟩

set_option maxHeartbeats 400000 in
theorem same_any (v1 v2 : Value) (l1 l2 : List Nat) (w : World) (h1 : BSl w v1 l1) (h2 : BSl w v2 l2) :
    Calls Tryz.prog 26 #[v1, v2] w fun e w' => e = .returned (.bool (decide (l1 = l2))) ∧ ∃ n, w' = w.drewN n := by
  obtain ⟨a, cap, rfl, hl, hm, hn, hb, hcell⟩ := h1
  obtain ⟨a2, cap2, rfl, hl2, hm2, hn2, hb2, hcell2⟩ := h2
  unfold maxLen at hm hm2
  clear hn hn2
  by_cases hle : l1.length = l2.length
  · have HB : Hid (∀ b ∈ l1, b < 256) := hb
    have HB2 : Hid (∀ b ∈ l2, b < 256) := hb2
    rw [← hle] at hl2 hcell2 ⊢
    have HC := hide hcell
    have HC2 := hide hcell2
    have HLE := hide hle
    clear hb hb2 hcell hcell2 hle
    go_enter Tryz.func26, Tryz.ntmps26
    go_wp2
    go_loopw [5] (fun i wr => ∃ k : Nat, k ≤ l1.length ∧ i = .int .i64 k ∧ l1.take k = l2.take k ∧ ∃ n, wr = w.drewN n) (fun i _ => l1.length - (intOf i).toNat)
    case atStart => exact ⟨0, Nat.zero_le _, rfl, rfl, 0, rfl⟩
    case round =>
      obtain ⟨k, hk, rfl, hpre, n, rfl⟩ := hrel
      have HPRE := hide hpre
      clear hpre
      by_cases hlt : k < l1.length
      · obtain ⟨b, off, rfl, hcell⟩ := HC.out (by omega)
        obtain ⟨b2, off2, rfl, hcell2⟩ := HC2.out (by omega)
        have hck := hcell k hlt
        have hck2 := hcell2 k (by omega)
        have hx : l1.getD k 0 < 256 := HB.out _ (mem_getD hlt)
        have hk2 : k < l2.length := by have := HLE.out; omega
        have hx2 : l2.getD k 0 < 256 := HB2.out _ (mem_getD hk2)
        have HS1 : Hid (l1.take (k + 1) = l1.take k ++ [l1.getD k 0]) := hide (by rw [List.take_add_one, getD_get 0 hlt]; rfl)
        have HS2 : Hid (l2.take (k + 1) = l2.take k ++ [l2.getD k 0]) := hide (by rw [List.take_add_one, getD_get 0 hk2]; rfl)
        have HD : Hid (l1 = l2 → l1.getD k 0 = l2.getD k 0) := hide (fun h => by rw [h])
        clear hcell hcell2 HB HC HC2 HB2 hk2
        generalize hxx : l1.getD k 0 = x at *
        generalize hyy : l2.getD k 0 = y at *
        clear hxx hyy
        by_cases hxy : x = y
        · subst hxy
          go_wp2
          go_quiet (fail)
          go_wp2
          go_roundw
          case rel => exact ⟨k + 1, by omega, by go_num, by rw [HS1.out, HS2.out, HPRE.out], _, rfl⟩
          case measure => simp [intOf]; omega
        · have hxy' : ¬ (x : Int) = (y : Int) := by omega
          have e : decide (l1 = l2) = false := decide_eq_false (fun h => hxy (HD.out h))
          have HE := hide e
          clear e
          go_wp2
          go_quiet (fail)
          go_wp2
          go_ret
          exact ⟨by rw [HE.out]; rfl, n + nq, by simp [World.drewN_drewN]⟩
      · have e : decide (l1 = l2) = true := decide_eq_true (by
          have := HPRE.out
          rwa [List.take_of_length_le (by omega), List.take_of_length_le (by have := HLE.out; omega)] at this)
        have HE := hide e
        clear e
        go_wp2
        go_ret
        exact ⟨by rw [HE.out]; rfl, n, rfl⟩
  · have e : decide (l1 = l2) = false := decide_eq_false (fun h => hle (by rw [h]))
    rw [e]
    have hle' : ¬ (l1.length : Int) = (l2.length : Int) := by omega
    clear hcell hcell2 hb hb2
    go_enter Tryz.func26, Tryz.ntmps26
    go_wp2
    go_ret
    exact ⟨rfl, 0, rfl⟩

/-- a disk among the worlds that a call of a law goes through: w0 the world at its start -/
structure Dk (w0 w : World) (L : Lay) (S : St) : Prop where
  rep : Rep w L S
  be : Below w0.heap.size w0 w
  up : ∀ b, L.U b → w0.heap.size ≤ b

theorem Dk.grow {w0 w w' : World} {L : Lay} {U' : Nat → Prop} {S S' : St} (h : Dk w0 w L S) (hr : Rep w' { L with U := U' } S') (hg : Grow w w' L.U U') : Dk w0 w' { L with U := U' } S' :=
  ⟨hr, h.be.trans ⟨hg.os, hg.tape, hg.output, hg.size, fun b hb => hg.keep b (Nat.lt_of_lt_of_le hb h.be.size) (fun hu => by have := h.up b hu; omega)⟩, fun b hb => by
    by_cases hlt : b < w.heap.size
    · exact h.up b (hg.new b hlt hb)
    · have := h.be.size; omega⟩
theorem Dk.growS {w0 w w' : World} {L : Lay} {S S' : St} (h : Dk w0 w L S) (hr : Rep w' L S') (hg : Grow w w' L.U L.U) : Dk w0 w' L S' := h.grow (U' := L.U) hr hg
theorem Dk.below {w0 w w' : World} {L : Lay} {S : St} (h : Dk w0 w L S) (hb : Below w.heap.size w w') : Dk w0 w' L S := h.growS (h.rep.below hb) (Grow.ofBelow _ hb)
theorem Dk.bsl {w0 w : World} {L : Lay} {S : St} (h : Dk w0 w L S) {v : Value} {l : List Nat} (hv : BSl w0 v l) : BSl w v l := hv.below h.be
theorem BSl.old {w : World} {v : Value} {l : List Nat} (h : BSl w v l) (hp : 0 < l.length) : ∀ g, blockOf v = some g → g < w.heap.size := by
  obtain ⟨a, cap, rfl, h1, h2, h3, h4, h5⟩ := h
  obtain ⟨b, off, rfl, hc⟩ := h5 hp
  intro g hg
  simp only [blockOf, Option.some.injEq] at hg
  subst hg
  exact World.block_lt_of_cell? w _ (hc 0 hp)
end Go.Proofs.YtlpmpicmpklaoacGreat
