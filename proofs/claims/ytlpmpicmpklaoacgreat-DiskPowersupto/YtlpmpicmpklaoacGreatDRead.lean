import Derived.Test.YtlpmpicmpklaoacGreatDMeth
import Derived.Deep.RegionHeld3
namespace Go.Proofs.YtlpmpicmpklaoacGreat
open Go.RowKit Go.Maps
set_option linter.unusedVariables false
set_option linter.unusedSimpArgs false
set_option maxRecDepth 20000

def St.wait (S : St) (b : Int) : Nat := if 0 ≤ b ∧ b < S.nb then (S.cache b.toNat).length else 0
theorem wf_i {b : Int} (h : -9223372036854775808 ≤ b ∧ b ≤ 9223372036854775807) : (Lit.int .i64 b).wf = true := by
  have h1 : IntKind.i64.min = -9223372036854775808 := by decide
  have h2 : IntKind.i64.max = 9223372036854775807 := by decide
  simp only [Lit.wf, h1, h2, Bool.and_eq_true, decide_eq_true_eq]
  omega
theorem look_run_out {w : World} {L : Lay} {A : Nat → Value} {D : DataW Value} {S : St} (ho : w.ownsMap Tryz.prog 3 Rv L.cb 8192 D) (h : Core w L A D S) {b : Int} (hb : -9223372036854775808 ≤ b ∧ b ≤ 9223372036854775807) (hout : ¬ (0 ≤ b ∧ b < S.nb)) :
    (Instr.lookup 99 (.map (some L.cb)) (.int .i64 b) false).run Tryz.prog w = .ok (.slice none 0 0) w := by
  obtain ⟨v, ps, hr, hv⟩ := ho.lookup kInt (t := 99) Tryz.underlying99 (zeroBB w) (zd := .held nilS) (zp := []) rfl (key := .int .i64 b) (kl := .int .i64 b) (keyOf_int_mk Tryz.underlying3 (wf_i hb))
  have hn : has D (.int .i64 b) = false := by
    cases hq : has D (.int .i64 b) with
    | false => rfl
    | true =>
      obtain ⟨k, hk, e⟩ := h.keys _ hq
      simp only [kL, Lit.int.injEq, true_and] at e
      exact absurd ⟨by omega, by omega⟩ hout
  rw [atKey_of_not_has hn] at hv
  simp only [Rv, Option.some.injEq, Prod.mk.injEq, DataW.held.injEq] at hv
  rw [hr, hv.1]
  rfl

theorem Row.form {w : World} {U : Nat → Prop} {v : Value} {ls : List (List Nat)} (h : Row w U v ls) : ∃ a c, v = .slice a ls.length c := by
  obtain ⟨gs, r1, r2, r3, r4, r5⟩ := h
  rcases r2.2 with ⟨rfl, h0⟩ | ⟨g, cap, cur, rfl, _⟩
  · exact ⟨none, 0, by rw [h0]⟩
  · exact ⟨_, _, rfl⟩

theorem Waiting_any {w : World} {L : Lay} {S : St} (hR : Rep w L S) (b : Int) (hb : -9223372036854775808 ≤ b ∧ b ≤ 9223372036854775807) :
    Calls Tryz.prog 43 #[PD L, .int .i64 b] w fun e w' => e = .returned (.int .i64 (S.wait b : Int)) ∧ w' = w := by
  obtain ⟨A, D, ho, hc⟩ := hR
  have c3 : w.cell? ⟨L.p, 3, none⟩ = some (.map (some L.cb)) := dcell hc.hp 3
  unfold PD
  by_cases h1 : 0 ≤ b ∧ b < S.nb
  · obtain ⟨k, rfl⟩ : ∃ k : Nat, b = (k : Int) := ⟨b.toNat, by omega⟩
    have hr := look_run ho hc (k := k) (by omega)
    obtain ⟨a, c, e⟩ := (hc.row k (by omega)).form
    rw [e] at hr
    have e2 : S.wait k = (S.cache k).length := by simp [St.wait, h1.2]
    rw [e2]
    clear ho hc e e2 h1
    go_enter Tryz.func43, Tryz.ntmps43
    go_wp2
    go_ret
    exact ⟨rfl, rfl⟩
  · have hr := look_run_out ho hc hb h1
    have e2 : S.wait b = 0 := by simp only [St.wait]; rw [if_neg h1]
    rw [e2]
    clear ho hc e2 h1
    go_enter Tryz.func43, Tryz.ntmps43
    go_wp2
    go_ret
    exact ⟨rfl, rfl⟩

theorem Counts_any {w : World} {L : Lay} {S : St} (hR : Rep w L S) :
    Calls Tryz.prog 47 #[PD L] w fun e w' => e = .returned (.agg #[.int .i64 S.rd, .int .i64 S.wr, .int .i64 S.th, .int .i64 S.fl]) ∧ Below w.heap.size w w' := by
  obtain ⟨A, D, ho, hc⟩ := hR
  have c6 : w.cell? ⟨L.p, 6, none⟩ = some (.int .i64 S.rd) := dcell hc.hp 6
  have c7 : w.cell? ⟨L.p, 7, none⟩ = some (.int .i64 S.wr) := dcell hc.hp 7
  have c8 : w.cell? ⟨L.p, 8, none⟩ = some (.int .i64 S.th) := dcell hc.hp 8
  have c9 : w.cell? ⟨L.p, 9, none⟩ = some (.int .i64 S.fl) := dcell hc.hp 9
  have hlt := (Array.getElem?_eq_some_iff.1 hc.hp).1
  clear ho hc
  unfold PD
  go_enter Tryz.func47, Tryz.ntmps47
  go_wp2
  exact bodyPost_ret (v := .agg #[.int .i64 S.rd, .int .i64 S.wr, .int .i64 S.th, .int .i64 S.fl]) (results_cell_row rfl _ _ w.heap.size 70 _ (0, 0) _ rfl (Go.heap_alloc_new w _) Tryz.underlying70 rfl (by kernel_rfl)) rfl ⟨rfl, (Below.refl _ _).alloc (Nat.le_refl _) _⟩

/-- what a block reads as -/
def St.val (S : St) (k : Nat) : Option (List Nat) := match (S.cache k).getLast? with
  | some l => some l
  | none => S.med k
def St.readErr (S : St) (b : Int) : Int := if ¬ (0 ≤ b ∧ b < S.nb) then 2 else if S.off = true then 22 else if S.val b.toNat = none then 21 else 0
def St.read (S : St) (b : Int) : St := if S.readErr b = 0 then S.addRd else S
def St.durErr (S : St) (b : Int) : Int := if ¬ (0 ≤ b ∧ b < S.nb) then 2 else if S.med b.toNat = none then 21 else 0

/-- bytes that are new, and no disk's -/
def Fresh (w w' : World) (U : Nat → Prop) (v : Value) (l : List Nat) : Prop := ∃ g, v = sl g l.length ∧ w.heap.size ≤ g ∧ PieceAt w' g l ∧ ¬ U g
def ReadPost (w : World) (L : Lay) (b n : Int) (o : Option (List Nat)) (S' : St) (e : Ending) (w' : World) : Prop :=
  ∃ v u, e = .returned (.tuple #[v, u]) ∧ ErrIs w w' L.U u b n ∧ (n = 0 → ∃ l, o = some l ∧ Fresh w w' L.U v l) ∧ (n ≠ 0 → v = nilS) ∧ Rep w' L S' ∧ Grow w w' L.U L.U
theorem ReadPost.mk {w : World} {L : Lay} {b n : Int} {o : Option (List Nat)} {S' : St} {w' : World} (v u : Value) (h1 : ErrIs w w' L.U u b n) (h2 : n = 0 → ∃ l, o = some l ∧ Fresh w w' L.U v l) (h3 : n ≠ 0 → v = nilS) (h4 : Rep w' L S') (h5 : Grow w w' L.U L.U) : ReadPost w L b n o S' (.returned (.tuple #[v, u])) w' := ⟨v, u, rfl, h1, h2, h3, h4, h5⟩

def fetched (w : World) (k : Int) (o : Option (List Nat)) (e : Ending) (w' : World) : Prop := match o with
  | some l => e = .returned (.tuple #[sl w.heap.size l.length, .nilIface]) ∧ w' = w.alloc (.cells (l.map byteV).toArray 5)
  | none => e = .returned (.tuple #[nilS, errV w.heap.size]) ∧ w' = w.alloc (berr k 21)

theorem Core.lens {w : World} {L : Lay} {A : Nat → Value} {D : DataW Value} {S : St} (h : Core w L A D S) : 0 < S.sz ∧ S.sz ≤ 1024 := by
  rcases h.sz with e | e | e | e <;> omega

theorem fetch_m {w : World} {L : Lay} {S : St} (hR : Rep w L S) {k B : Nat} (hk : k < S.nb) (c0 : w.cell? ⟨B, 0, none⟩ = some (.iface 81 (medV L S))) :
    Calls Tryz.prog 67 #[.int .i64 (k : Int), .slice (some ⟨B, 0, none⟩) 1 1] w fun e w' => fetched w k (S.med k) e w' := by
  obtain ⟨A, D, ho, hc⟩ := hR
  have hl := hc.lens
  have m1 := lookM
  have q1 := ifaceNe
  have q2 := nilNe
  have q3 := neNil_some
  cases hq : S.med k with
  | none =>
    have HL := hide (mlook_none hc hk hq)
    clear hc ho hq hl
    go_enter Tryz.func67, Tryz.ntmps67
    go_wp2
    refine wp_loop_rounds 2 ?_
    rw [rounds_succ]
    go_wp2_with (go_at_call 134; refine HL.out.mono ?_; rintro e w' ⟨rfl, rfl⟩)
    go_ret2
    exact ⟨rfl, rfl⟩
  | some l =>
    have HL := hide (mlook_some hc hk hq)
    have hlen : l.length = S.sz := hc.mlen k l hk hq
    have hl0 : 0 < l.length := by omega
    have hl1 : l.length ≤ 140737488355328 := by omega
    clear hc ho hq hl hlen
    go_enter Tryz.func67, Tryz.ntmps67
    go_wp2
    refine wp_loop_rounds 2 ?_
    rw [rounds_succ]
    go_wp2_with (first
      | (go_at_call 134; refine HL.out.mono ?_; rintro e w' ⟨g, rfl, rfl, hP, -⟩; have HP := hide hP; clear hP)
      | (go_at_call 77; refine (copied_any _ l _ HP.out.bsl hl1 hl0).mono ?_; rintro e w' ⟨rfl, -, rfl⟩))
    go_ret2
    exact ⟨rfl, rfl⟩
end Go.Proofs.YtlpmpicmpklaoacGreat
