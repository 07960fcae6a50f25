import Derived.Test.YtepgiomgkgfioaaDoorDMeth
import Derived.Deep.RegionHeld3
namespace Go.Proofs.YtepgiomgkgfioaaDoor.K
open Go.RowKit Go.Maps
set_option linter.unusedVariables false
set_option linter.unusedSimpArgs false
set_option maxRecDepth 20000

def St.wait (S : St) (b : Int) : Nat := if 0 ≤ b ∧ b < S.nb then (S.cache b.toNat).length else 0
theorem wf_i {b : Int} (h : -9223372036854775808 ≤ b ∧ b ≤ 9223372036854775807) : (Lit.int .i64 b).wf = true := by
  have h1 : IntKind.i64.min = -9223372036854775808 := by decide
  have h2 : IntKind.i64.max = 9223372036854775807 := by decide
  simp only [Lit.wf, h1, h2, Bool.and_eq_true, decide_eq_true_eq]
  omega
theorem look_run_out {w : World} {L : Lay} {A : Nat → Value} {D : DataW Value} {S : St} (ho : w.ownsMap Tryd.prog 3 Rv L.cb 8192 D) (h : Core w L A D S) {b : Int} (hb : -9223372036854775808 ≤ b ∧ b ≤ 9223372036854775807) (hout : ¬ (0 ≤ b ∧ b < S.nb)) :
    (Instr.lookup 56 (.map (some L.cb)) (.int .i64 b) false).run Tryd.prog w = .ok (.slice none 0 0) w := by
  obtain ⟨v, ps, hr, hv⟩ := ho.lookup kInt (t := 56) Tryd.underlying56 (zeroBB w) (zd := .held nilS) (zp := []) rfl (key := .int .i64 b) (kl := .int .i64 b) (keyOf_int_mk Tryd.underlying3 (wf_i hb))
  have hn : has D (.int .i64 b) = false := by
    cases hq : has D (.int .i64 b) with
    | false => rfl
    | true =>
      obtain ⟨k, hk, e⟩ := h.keys _ hq
      simp only [kL, Lit.int.injEq, true_and] at e
      exact absurd ⟨by omega, by omega⟩ hout
  rw [atKey_of_not_has hn] at hv
  simp only [Rv, Option.some.injEq, Prod.mk.injEq, DataW.held.injEq] at hv
  rw [hr, hv.1]
  rfl

theorem Row.form {w : World} {U : Nat → Prop} {v : Value} {ls : List (List Nat)} (h : Row w U v ls) : ∃ a c, v = .slice a ls.length c := by
  obtain ⟨gs, r1, r2, r3, r4, r5⟩ := h
  rcases r2.2 with ⟨rfl, h0⟩ | ⟨g, cap, cur, rfl, _⟩
  · exact ⟨none, 0, by rw [h0]⟩
  · exact ⟨_, _, rfl⟩

/-- what a block reads as -/
def St.val (S : St) (k : Nat) : Option (List Nat) := match (S.cache k).getLast? with
  | some l => some l
  | none => S.med k
def St.readErr (S : St) (b : Int) : Int := if ¬ (0 ≤ b ∧ b < S.nb) then 2 else if S.off = true then 22 else if S.val b.toNat = none then 21 else 0
def St.read (S : St) (b : Int) : St := if S.readErr b = 0 then S.addRd else S
def St.durErr (S : St) (b : Int) : Int := if ¬ (0 ≤ b ∧ b < S.nb) then 2 else if S.med b.toNat = none then 21 else 0

/-- bytes that are new, and no disk's -/
def Fresh (w w' : World) (U : Nat → Prop) (v : Value) (l : List Nat) : Prop := ∃ g, v = sl g l.length ∧ w.heap.size ≤ g ∧ PieceAt w' g l ∧ ¬ U g
def ReadPost (w : World) (L : Lay) (b n : Int) (o : Option (List Nat)) (S' : St) (e : Ending) (w' : World) : Prop :=
  ∃ v u, e = .returned (.tuple #[v, u]) ∧ ErrIs w w' L.U u b n ∧ (n = 0 → ∃ l, o = some l ∧ Fresh w w' L.U v l) ∧ (n ≠ 0 → v = nilS) ∧ Rep w' L S' ∧ Grow w w' L.U L.U
theorem ReadPost.mk {w : World} {L : Lay} {b n : Int} {o : Option (List Nat)} {S' : St} {w' : World} (v u : Value) (h1 : ErrIs w w' L.U u b n) (h2 : n = 0 → ∃ l, o = some l ∧ Fresh w w' L.U v l) (h3 : n ≠ 0 → v = nilS) (h4 : Rep w' L S') (h5 : Grow w w' L.U L.U) : ReadPost w L b n o S' (.returned (.tuple #[v, u])) w' := ⟨v, u, rfl, h1, h2, h3, h4, h5⟩

def fetched (w : World) (k : Int) (o : Option (List Nat)) (e : Ending) (w' : World) : Prop := match o with
  | some l => e = .returned (.tuple #[sl w.heap.size l.length, .nilIface]) ∧ w' = w.alloc (.cells (l.map byteV).toArray 5)
  | none => e = .returned (.tuple #[nilS, errV w.heap.size]) ∧ w' = w.alloc (berr k 21)

theorem Core.lens {w : World} {L : Lay} {A : Nat → Value} {D : DataW Value} {S : St} (h : Core w L A D S) : 0 < S.sz ∧ S.sz ≤ 1024 := by
  rcases h.sz with e | e | e | e <;> omega

theorem fetch_m {w : World} {L : Lay} {S : St} (hR : Rep w L S) {k B : Nat} (hk : k < S.nb) (c0 : w.cell? ⟨B, 0, none⟩ = some (.iface 53 (medV L S))) :
    Calls Tryd.prog 26 #[.int .i64 (k : Int), .slice (some ⟨B, 0, none⟩) 1 1] w fun e w' => fetched w k (S.med k) e w' := by
  obtain ⟨A, D, ho, hc⟩ := hR
  have hl := hc.lens
  have m1 := lookM
  have q1 := ifaceNe
  have q2 := nilNe
  have q3 := neNil_some
  cases hq : S.med k with
  | none =>
    have HL := hide (mlook_none hc hk hq)
    clear hc ho hq hl
    go_enter Tryd.func26, Tryd.ntmps26
    go_wp2
    refine wp_loop_rounds 2 ?_
    rw [rounds_succ]
    go_wp2_with (go_at_call 77; refine HL.out.mono ?_; rintro e w' ⟨rfl, rfl⟩)
    go_ret2
    exact ⟨rfl, rfl⟩
  | some l =>
    have HL := hide (mlook_some hc hk hq)
    have hlen : l.length = S.sz := hc.mlen k l hk hq
    have hl0 : 0 < l.length := by omega
    have hl1 : l.length ≤ 140737488355328 := by omega
    clear hc ho hq hl hlen
    go_enter Tryd.func26, Tryd.ntmps26
    go_wp2
    refine wp_loop_rounds 2 ?_
    rw [rounds_succ]
    go_wp2_with (first
      | (go_at_call 77; refine HL.out.mono ?_; rintro e w' ⟨g, rfl, rfl, hP, -⟩; have HP := hide hP; clear hP)
      | (go_at_call 35; refine (copied_any _ l _ HP.out.bsl hl1 hl0).mono ?_; rintro e w' ⟨rfl, -, rfl⟩))
    go_ret2
    exact ⟨rfl, rfl⟩
end Go.Proofs.YtepgiomgkgfioaaDoor.K
