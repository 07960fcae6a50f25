import Derived.Test.YtcdmkbjibcahcabTMp
import Derived.ProofKit
import Derived.OpenShut
import Derived.ChangeOld
import Derived.SizedLaws
import Derived.ChangeSlices
import Derived.Deep.Slices
import Derived.ChangeSame
namespace Go.Proofs.Ytcdmkbjibcahcab
open Go.ChangeShapes Go.WideShapes Go.ChangeAt Go.RowKit
set_option linter.unusedVariables false
set_option linter.unusedSimpArgs false
set_option maxRecDepth 20000

theorem own : ownKnob Try.prog.godebug = none := by kernel_rfl
theorem laidOut : laidOutB Try.prog = true := by kernel_rfl
theorem cellsI : Try.prog.cellsOf 3 = 1 := by kernel_rfl
theorem trod_place_lt {H : Type} {enc : TypeId × Value → H} {W : World} {t : TypeId} {v : Value} {d : DataW H} {p : List MemPlace} (h1 : DataW.Trod enc Try.prog W 0 (fun _ => true) true t v d p) : ∀ x ∈ p, x.block < W.heap.size := by
  obtain ⟨m, hm⟩ := h1; exact DataW.trod_lt m _ _ _ hm
theorem below_cell {w w' : World} {n : Nat} (hb : Below n w w') {b : Nat} (h : b < n) (o : Nat) : w'.cell? ⟨b, o, none⟩ = w.cell? ⟨b, o, none⟩ := World.cell?_of_block (hb.block b h)
/-- an operation of a script -/
structure OpV where
  kind : Int
  of : Int
  a : Int
  b : Int
instance : Inhabited OpV := ⟨⟨0, 0, 0, 0⟩⟩
def OpV.ok (s : OpV) : Prop := i64ok s.kind ∧ i64ok s.of ∧ i64ok s.a ∧ i64ok s.b
/-- a script in memory -/
def OSl (w : World) (v : Value) (os : List OpV) : Prop := ∃ a cap, v = .slice a os.length cap ∧ os.length ≤ cap ∧ cap ≤ maxLen ∧ (0 < os.length → ∃ b off, a = some ⟨b, off, none⟩ ∧ ∀ i (h : i < os.length), (w.cell? ⟨b, off + i * 4, none⟩ = some (.int .i64 os[i].kind) ∧ w.cell? ⟨b, off + i * 4 + 1, none⟩ = some (.int .i64 os[i].of)) ∧ w.cell? ⟨b, off + i * 4 + 2, none⟩ = some (.int .i64 os[i].a) ∧ w.cell? ⟨b, off + i * 4 + 3, none⟩ = some (.int .i64 os[i].b))
theorem OSl.below {w w' : World} {v : Value} {os : List OpV} (h : OSl w v os) (hb : Below w.heap.size w w') : OSl w' v os := by
  obtain ⟨a, cap, rfl, h1, h2, h3⟩ := h
  refine ⟨a, cap, rfl, h1, h2, fun hp => ?_⟩
  obtain ⟨b, off, rfl, hc⟩ := h3 hp
  have hlt := World.block_lt_of_cell? w _ (hc 0 hp).1.1
  refine ⟨b, off, rfl, fun i hi => ?_⟩
  obtain ⟨⟨c0, c1⟩, c2, c3⟩ := hc i hi
  exact ⟨⟨(below_cell hb hlt _).trans c0, (below_cell hb hlt _).trans c1⟩, (below_cell hb hlt _).trans c2, (below_cell hb hlt _).trans c3⟩
theorem ok_wf {z : Int} (h : (Lit.int .i64 z).wf = true) : i64ok z := by
  simp [Lit.wf, IntKind.min, IntKind.max, IntKind.signed, IntKind.bits] at h
  unfold i64ok
  omega
theorem cellsOp : Try.prog.cellsOf 34 = 4 := by kernel_rfl
theorem open_ops {H : Type} {enc : TypeId × Value → H} {W : World} {base : Nat} {v : Value} {d : DataW H} {p : List MemPlace} {ts : List TypeId} {ds : List (DataW H)} (j : Nat) (hts : ts[j]? = some 22) (hds : ds[j]? = some d)
    (hsz : (DataW.weightsEach Try.prog ts ds).all (· ≤ reachBytes) = true)
    (hok : Value.okWide Try.prog W .any base 22 v) (h1 : DataW.Trod enc Try.prog W 0 (fun _ => true) true 22 v d p) : ∃ os : List OpV, OSl W v os ∧ os.length ≤ 4398046511104 ∧ ∀ s ∈ os, s.ok := by
  obtain ⟨a1, len1, cap1, rfl⟩ := okWide_slice Try.underlying22 hok
  obtain ⟨fuel, hf⟩ := h1
  rcases Go.Deep.open_slice Try.underlying22 hf with ⟨hcs, _⟩ | ⟨a, len, cap, m, n, D, Pl, hcs, _, hl, hm, hmm, hx, hel⟩
  · simp [Value.cells] at hcs
    obtain ⟨rfl, rfl, rfl⟩ := hcs
    exact ⟨[], ⟨none, 0, rfl, Nat.le_refl _, by unfold maxLen; omega, by simp⟩, Nat.zero_le _, by simp⟩
  · simp [Value.cells] at hcs
    obtain ⟨rfl, rfl, rfl⟩ := hcs
    simp only [if_true] at hmm
    subst hmm
    have each : ∀ i, i < len1 → ∃ s : OpV, s.ok ∧ (W.cell? (a.add (i * 4)) = some (.int .i64 s.kind) ∧ W.cell? (a.add (i * 4 + 1)) = some (.int .i64 s.of)) ∧ W.cell? (a.add (i * 4 + 2)) = some (.int .i64 s.a) ∧ W.cell? (a.add (i * 4 + 3)) = some (.int .i64 s.b) := by
      intro i hi
      obtain ⟨cs', h1, h2⟩ := hel i (by omega)
      rw [cellsOp] at h1
      obtain ⟨_, hlen, hcell⟩ := World.cells?_some h1
      obtain ⟨xs, k, hk, hxy, _, hxl, hfd⟩ := DataW.trod_struct Try.underlying34 h2
      match xs, hxl, cs', hlen with
      | [y0, y1, y2, y3], _, [v0, v1, v2, v3], _ =>
        have g0 := hfd 0 _ rfl
        have g1 := hfd 1 _ rfl
        have g2 := hfd 2 _ rfl
        have g3 := hfd 3 _ rfl
        simp [cellsI] at g0 g1 g2 g3
        have e0 := hcell 0 (by omega)
        have e1 := hcell 1 (by omega)
        have e2 := hcell 2 (by omega)
        have e3 := hcell 3 (by omega)
        rw [Go.Deep.add_add] at e0 e1 e2 e3
        obtain ⟨z0, hz0, _, wf0⟩ := DataW.trod_int Try.underlying3 g0
        obtain ⟨z1, hz1, _, wf1⟩ := DataW.trod_int Try.underlying3 g1
        obtain ⟨z2, hz2, _, wf2⟩ := DataW.trod_int Try.underlying3 g2
        obtain ⟨z3, hz3, _, wf3⟩ := DataW.trod_int Try.underlying3 g3
        simp at hz0 hz1 hz2 hz3
        subst hz0
        subst hz1
        subst hz2
        subst hz3
        exact ⟨⟨z0, z1, z2, z3⟩, ⟨ok_wf wf0, ok_wf wf1, ok_wf wf2, ok_wf wf3⟩, ⟨by simpa using e0, by simpa using e1⟩, by simpa using e2, by simpa using e3⟩
    obtain ⟨f, hfa⟩ := Go.Deep.choose_lt each
    have hw := sized_slice hsz (j := j) (t := 22) (e := 34) hts (by rw [hds]; simp only [Prod.mk.injEq] at hx; rw [hx.1]) Try.underlying22
    rw [show Try.prog.bytesOf 34 = 32 from by kernel_rfl] at hw
    simp only [List.length_map, List.length_range, reachBytes] at hw
    refine ⟨(List.range len1).map f, ⟨some a, m, by simp, by simpa using hl, hm, ?_⟩, by simp; omega, by
      intro s hs
      obtain ⟨i, hi, rfl⟩ := List.mem_map.1 hs
      exact (hfa i (List.mem_range.1 hi)).1⟩
    intro hpos
    simp only [List.length_map, List.length_range] at hpos
    obtain ⟨b, off, spot⟩ := a
    have hspot : spot = none := by simpa [Addr.add] using World.cell?_spot (hfa 0 hpos).2.1.1
    subst hspot
    refine ⟨b, off, rfl, fun i hi => ?_⟩
    simp only [List.length_map, List.length_range] at hi
    have h := (hfa i hi).2
    simp only [List.getElem_map, List.getElem_range]
    refine ⟨⟨?_, ?_⟩, ?_, ?_⟩
    · rw [← Addr.add_lit]; exact h.1.1
    · rw [Nat.add_assoc, ← Addr.add_lit]; exact h.1.2
    · rw [Nat.add_assoc, ← Addr.add_lit]; exact h.2.1
    · rw [Nat.add_assoc, ← Addr.add_lit]; exact h.2.2
theorem again_ops {H : Type} {enc : TypeId × Value → H} {W W' : World} {v : Value} {d : DataW H} {p : List MemPlace} (h1 : DataW.Trod enc Try.prog W 0 (fun _ => true) true 22 v d p) (bel : Below W.heap.size W W') :
    DataW.Trod enc Try.prog W' 0 (fun b => decide (b < W.heap.size)) true 22 v d p := Below.trod laidOut (by kernel_rfl) (of_decide_eq_true (by kernel_rfl)) h1 bel (trod_place_lt h1)
end Go.Proofs.Ytcdmkbjibcahcab
