import Derived.Test.YtophcdfaflehcaaRows
import Derived.WalkKit
import Derived.ProofKit
import Derived.OpenShut
import Derived.ChangeOld
import Derived.SizedLaws
import Derived.ChangeSlices
import Derived.Deep.Slices
import Derived.ChangeSame
namespace Go.Proofs.Ytophcdfaflehcaa
open Go.ChangeShapes Go.WideShapes Go.ChangeAt Go.RowKit
set_option linter.unusedVariables false
set_option linter.unusedSimpArgs false
set_option maxRecDepth 20000

theorem own : ownKnob Try.prog.godebug = none := by kernel_rfl
theorem laidOut : laidOutB Try.prog = true := by kernel_rfl
theorem cellsI : Try.prog.cellsOf 3 = 1 := by kernel_rfl
theorem trod_place_lt {H : Type} {enc : TypeId × Value → H} {W : World} {t : TypeId} {v : Value} {d : DataW H} {p : List MemPlace} (h1 : DataW.Trod enc Try.prog W 0 (fun _ => true) true t v d p) : ∀ x ∈ p, x.block < W.heap.size := by
  obtain ⟨m, hm⟩ := h1; exact DataW.trod_lt m _ _ _ hm
theorem below_cellW {w w' : World} {n : Nat} (hb : Below n w w') {b : Nat} (h : b < n) (o : Nat) : w'.cell? ⟨b, o, none⟩ = w.cell? ⟨b, o, none⟩ := World.cell?_of_block (hb.block b h)
/-- an operation of a script -/
structure OpV where
  kind : Int
  n : Int
instance : Inhabited OpV := ⟨⟨0, 0⟩⟩
/-- a script in memory -/
def OSl (w : World) (v : Value) (os : List OpV) : Prop := ∃ a cap, v = .slice a os.length cap ∧ os.length ≤ cap ∧ cap ≤ maxLen ∧ (0 < os.length → ∃ b off, a = some ⟨b, off, none⟩ ∧ ∀ i, i < os.length → w.cell? ⟨b, off + i * 2, none⟩ = some (.int .i64 (os.getD i default).kind) ∧ w.cell? ⟨b, off + i * 2 + 1, none⟩ = some (.int .i64 (os.getD i default).n))
theorem OSl.below {w w' : World} {v : Value} {os : List OpV} (h : OSl w v os) (hb : Below w.heap.size w w') : OSl w' v os := by
  obtain ⟨a, cap, rfl, h1, h2, h3⟩ := h
  refine ⟨a, cap, rfl, h1, h2, fun hp => ?_⟩
  obtain ⟨b, off, rfl, hc⟩ := h3 hp
  have hlt := World.block_lt_of_cell? w _ (hc 0 hp).1
  refine ⟨b, off, rfl, fun i hi => ?_⟩
  obtain ⟨c0, c1⟩ := hc i hi
  exact ⟨(below_cellW hb hlt _).trans c0, (below_cellW hb hlt _).trans c1⟩
theorem cellsOp : Try.prog.cellsOf 35 = 2 := by kernel_rfl
theorem open_ops {H : Type} {enc : TypeId × Value → H} {W : World} {base : Nat} {v : Value} {d : DataW H} {p : List MemPlace} {ts : List TypeId} {ds : List (DataW H)} (j : Nat) (hts : ts[j]? = some 30) (hds : ds[j]? = some d)
    (hsz : (DataW.weightsEach Try.prog ts ds).all (· ≤ reachBytes) = true)
    (hok : Value.okWide Try.prog W .any base 30 v) (h1 : DataW.Trod enc Try.prog W 0 (fun _ => true) true 30 v d p) : ∃ os : List OpV, OSl W v os ∧ os.length ≤ 8796093022208 := by
  obtain ⟨a1, len1, cap1, rfl⟩ := okWide_slice Try.underlying30 hok
  obtain ⟨fuel, hf⟩ := h1
  rcases Go.Deep.open_slice Try.underlying30 hf with ⟨hcs, _⟩ | ⟨a, len, cap, m, n, D, Pl, hcs, _, hl, hm, hmm, hx, hel⟩
  · simp [Value.cells] at hcs
    obtain ⟨rfl, rfl, rfl⟩ := hcs
    exact ⟨[], ⟨none, 0, rfl, Nat.le_refl _, by unfold maxLen; omega, by simp⟩, Nat.zero_le _⟩
  · simp [Value.cells] at hcs
    obtain ⟨rfl, rfl, rfl⟩ := hcs
    simp only [if_true] at hmm
    subst hmm
    have each : ∀ i, i < len1 → ∃ s : OpV, W.cell? (a.add (i * 2)) = some (.int .i64 s.kind) ∧ W.cell? (a.add (i * 2 + 1)) = some (.int .i64 s.n) := by
      intro i hi
      obtain ⟨cs', h1, h2⟩ := hel i (by omega)
      rw [cellsOp] at h1
      obtain ⟨_, hlen, hcell⟩ := World.cells?_some h1
      obtain ⟨xs, k, hk, hxy, _, hxl, hfd⟩ := DataW.trod_struct Try.underlying35 h2
      match xs, hxl, cs', hlen with
      | [y0, y1], _, [v0, v1], _ =>
        have g0 := hfd 0 _ rfl
        have g1 := hfd 1 _ rfl
        simp [cellsI] at g0 g1
        have e0 := hcell 0 (by omega)
        have e1 := hcell 1 (by omega)
        rw [Go.Deep.add_add] at e0 e1
        obtain ⟨z0, hz0, _, wf0⟩ := DataW.trod_int Try.underlying3 g0
        obtain ⟨z1, hz1, _, wf1⟩ := DataW.trod_int Try.underlying3 g1
        simp at hz0 hz1
        subst hz0
        subst hz1
        exact ⟨⟨z0, z1⟩, by simpa using e0, by simpa using e1⟩
    obtain ⟨f, hfa⟩ := Go.Deep.choose_lt each
    have hw := sized_slice hsz (j := j) (t := 30) (e := 35) hts (by rw [hds]; simp only [Prod.mk.injEq] at hx; rw [hx.1]) Try.underlying30
    rw [show Try.prog.bytesOf 35 = 16 from by kernel_rfl] at hw
    simp only [List.length_map, List.length_range, reachBytes] at hw
    refine ⟨(List.range len1).map f, ⟨some a, m, by simp, by simpa using hl, hm, ?_⟩, by simp; omega⟩
    intro hpos
    simp only [List.length_map, List.length_range] at hpos
    obtain ⟨b, off, spot⟩ := a
    have hspot : spot = none := by simpa [Addr.add] using World.cell?_spot (hfa 0 hpos).1
    subst hspot
    refine ⟨b, off, rfl, fun i hi => ?_⟩
    simp only [List.length_map, List.length_range] at hi
    have h := hfa i hi
    rw [show ((List.range len1).map f).getD i default = f i by simp [List.getD, hi]]
    refine ⟨?_, ?_⟩
    · rw [← Addr.add_lit]; exact h.1
    · rw [Nat.add_assoc, ← Addr.add_lit]; exact h.2
theorem again_ops {H : Type} {enc : TypeId × Value → H} {W W' : World} {v : Value} {d : DataW H} {p : List MemPlace} (h1 : DataW.Trod enc Try.prog W 0 (fun _ => true) true 30 v d p) (bel : Below W.heap.size W W') :
    DataW.Trod enc Try.prog W' 0 (fun b => decide (b < W.heap.size)) true 30 v d p := Below.trod laidOut (by kernel_rfl) (of_decide_eq_true (by kernel_rfl)) h1 bel (trod_place_lt h1)
end Go.Proofs.Ytophcdfaflehcaa
