import Derived.Test.YtlpmpicmpklaoacGreatDLaw5
import Derived.ProofKit
import Derived.OpenShut
import Derived.ChangeOld
import Derived.SizedLaws
import Derived.ChangeSlices
import Derived.Deep.Slices
import Derived.ChangeSame
namespace Go.Proofs.YtlpmpicmpklaoacGreat
open Go.ChangeShapes Go.WideShapes Go.ChangeAt Go.RowKit
set_option linter.unusedVariables false
set_option linter.unusedSimpArgs false
set_option maxRecDepth 20000

theorem own : ownKnob Tryz.prog.godebug = none := by kernel_rfl
theorem laidOut : laidOutB Tryz.prog = true := by kernel_rfl
theorem cellsOp : Tryz.prog.cellsOf 43 = 4 := by kernel_rfl
theorem cellsInt : Tryz.prog.cellsOf 3 = 1 := by kernel_rfl
theorem cellsBytes : Tryz.prog.cellsOf 22 = 1 := by kernel_rfl
theorem cellsBool : Tryz.prog.cellsOf 4 = 1 := by kernel_rfl

def IsRow (k : IntKind) (w : World) (a : Option Addr) (len cap : Nat) (zs : List Int) : Prop :=
  (a = none ∧ len = 0 ∧ cap = 0 ∧ zs = []) ∨
  ∃ x, a = some x ∧ len ≤ cap ∧ cap ≤ maxLen ∧ zs.length = cap ∧ (∀ i, i < zs.length → w.cell? (x.add i) = some (.int k (zs.getD i 0))) ∧ ∀ n ∈ zs, (Lit.int k n).wf = true

theorem bsl_of_row {w : World} {a : Option Addr} {len cap : Nat} {zs : List Int} (h : IsRow .u8 w a len cap zs) : ∃ l : List Nat, l.length = len ∧ BSl w (.slice a len cap) l := by
  rcases h with ⟨rfl, rfl, rfl, rfl⟩ | ⟨x, rfl, hl, hm, hz, hcell, hwz⟩
  · exact ⟨[], rfl, none, 0, rfl, Nat.le_refl _, by unfold maxLen; omega, fun _ => rfl, by simp, by simp⟩
  · have hlen : ((zs.take len).map Int.toNat).length = len := by simp; omega
    refine ⟨(zs.take len).map Int.toNat, hlen, _, cap, by rw [hlen], by omega, hm, by simp, ?_, ?_⟩
    · intro b hb
      obtain ⟨n, hn, rfl⟩ := List.mem_map.1 hb
      have := bounds_u8 (hwz n (List.mem_of_mem_take hn))
      omega
    · intro hp
      obtain ⟨b, off, rfl, hc⟩ := ints_at hcell (by omega)
      refine ⟨b, off, rfl, fun i hi => ?_⟩
      rw [hc i (by omega)]
      have hi' : i < zs.length := by omega
      have hb := bounds_u8 (hwz zs[i] (List.getElem_mem hi'))
      have hi2 : i < len := by omega
      have e2 : ((zs.take len).map Int.toNat).getD i 0 = zs[i].toNat := by
        simp [List.getD, hi', hi2]
      have e3 : zs.getD i 0 = zs[i] := by simp [List.getD, hi']
      rw [e2, e3, Int.toNat_of_nonneg hb.1]

/-- a field of bytes -/
theorem open_field {H : Type} {enc : TypeId × Value → H} {W : World} {n : Nat} {v : Value} {y : DataW H × List MemPlace} (h : DataW.trod enc Tryz.prog W 0 (fun _ => true) true n 22 [v] = some y) : ∃ l : List Nat, BSl W v l := by
  rcases open_ints Tryz.underlying22 Tryz.underlying5 (by kernel_rfl) h with ⟨hcs, hy⟩ | ⟨x, len, cap, zs, hcs, _, hl, hm, hz, hx, hcell, hwz⟩
  · simp at hcs
    subst hcs
    exact ⟨[], ⟨none, 0, rfl, Nat.le_refl _, by unfold maxLen; omega, fun _ => rfl, by simp, by simp⟩⟩
  · simp at hcs
    subst hcs
    simp only [if_true] at hz
    obtain ⟨l, hll, hb⟩ := bsl_of_row (.inr ⟨_, rfl, hl, hm, hz, hcell, hwz⟩)
    exact ⟨l, hb⟩
theorem open_bytes {H : Type} {enc : TypeId × Value → H} {W : World} {base : Nat} {v : Value} {d : DataW H} {p : List MemPlace} (hok : Value.okWide Tryz.prog W .any base 22 v) (h1 : DataW.Trod enc Tryz.prog W 0 (fun _ => true) true 22 v d p) : ∃ l : List Nat, BSl W v l := by
  obtain ⟨a1, len1, cap1, rfl⟩ := okWide_slice Tryz.underlying22 hok
  obtain ⟨fuel, hf⟩ := h1
  exact open_field hf

theorem open_ops48 {H : Type} {enc : TypeId × Value → H} {W : World} {base : Nat} {v : Value} {d : DataW H} {p : List MemPlace} {ts : List TypeId} {ds : List (DataW H)} (j : Nat) (hts : ts[j]? = some 25) (hds : ds[j]? = some d)
    (hsz : (DataW.weightsEach Tryz.prog ts ds).all (· ≤ reachBytes) = true)
    (hok : Value.okWide Tryz.prog W .any base 25 v) (h1 : DataW.Trod enc Tryz.prog W 0 (fun _ => true) true 25 v d p) : ∃ os : List OpV, OSl W v os ∧ os.length ≤ 2932031007320 := by
  obtain ⟨a1, len1, cap1, rfl⟩ := okWide_slice Tryz.underlying25 hok
  obtain ⟨fuel, hf⟩ := h1
  rcases Go.Deep.open_slice Tryz.underlying25 hf with ⟨hcs, _⟩ | ⟨a, len, cap, m, n, D, Pl, hcs, _, hl, hm, hmm, hx, hel⟩
  · simp [Value.cells] at hcs
    obtain ⟨rfl, rfl, rfl⟩ := hcs
    exact ⟨[], ⟨none, 0, rfl, Nat.le_refl _, by unfold maxLen; omega, by simp, by simp⟩, Nat.zero_le _⟩
  · simp [Value.cells] at hcs
    obtain ⟨rfl, rfl, rfl⟩ := hcs
    simp only [if_true] at hmm
    subst hmm
    have each : ∀ i, i < len1 → ∃ s : OpV, (i64ok s.kind ∧ i64ok s.block ∧ i64ok s.count) ∧ BSl W s.dv s.dl ∧ W.cell? (a.add (i * 4)) = some (.int .i64 s.kind) ∧ W.cell? (a.add (i * 4 + 1)) = some (.int .i64 s.block) ∧ W.cell? (a.add (i * 4 + 2)) = some (.int .i64 s.count) ∧ W.cell? (a.add (i * 4 + 3)) = some s.dv := by
      intro i hi
      obtain ⟨cs', h1, h2⟩ := hel i (by omega)
      rw [cellsOp] at h1
      obtain ⟨_, hlen, hcell⟩ := World.cells?_some h1
      obtain ⟨xs, k, hk, hxy, _, hxl, hfd⟩ := DataW.trod_struct Tryz.underlying43 h2
      match xs, hxl, cs', hlen with
      | [y0, y1, y2, y3], _, [v0, v1, v2, v3], _ =>
        have g0 := hfd 0 _ rfl
        have g1 := hfd 1 _ rfl
        have g2 := hfd 2 _ rfl
        have g3 := hfd 3 _ rfl
        simp [cellsInt, cellsBytes] at g0 g1 g2 g3
        have e0 := hcell 0 (by omega)
        have e1 := hcell 1 (by omega)
        have e2 := hcell 2 (by omega)
        have e3 := hcell 3 (by omega)
        rw [Go.Deep.add_add] at e0 e1 e2 e3
        obtain ⟨z0, hz0, _, wf0⟩ := DataW.trod_int Tryz.underlying3 g0
        obtain ⟨z1, hz1, _, wf1⟩ := DataW.trod_int Tryz.underlying3 g1
        obtain ⟨z2, hz2, _, wf2⟩ := DataW.trod_int Tryz.underlying3 g2
        simp at hz0 hz1 hz2
        subst hz0
        subst hz1
        subst hz2
        obtain ⟨l, hb⟩ := open_field g3
        exact ⟨⟨z0, z1, z2, v3, l⟩, ⟨bounds_i64 wf0, bounds_i64 wf1, bounds_i64 wf2⟩, hb, by simpa using e0, by simpa using e1, by simpa using e2, by simpa using e3⟩
    haveI : Inhabited OpV := ⟨⟨0, 0, 0, .slice none 0 0, []⟩⟩
    obtain ⟨f, hfa⟩ := Go.Deep.choose_lt each
    have hw := sized_slice hsz (j := j) (t := 25) (e := 43) hts (by rw [hds]; simp only [Prod.mk.injEq] at hx; rw [hx.1]) Tryz.underlying25
    rw [show Tryz.prog.bytesOf 43 = 48 from by kernel_rfl] at hw
    simp only [List.length_map, List.length_range, reachBytes] at hw
    refine ⟨(List.range len1).map f, ⟨some a, m, by simp, by simpa using hl, hm, ?_, ?_⟩, by simp; omega⟩
    · intro s hs
      obtain ⟨i, hi, rfl⟩ := List.mem_map.1 hs
      have h := hfa i (List.mem_range.1 hi)
      exact ⟨h.2.1, h.1.1, h.1.2.1, h.1.2.2⟩
    · intro hpos
      simp only [List.length_map, List.length_range] at hpos
      obtain ⟨b, off, spot⟩ := a
      have hspot : spot = none := by simpa [Addr.add] using World.cell?_spot (hfa 0 hpos).2.2.1
      subst hspot
      refine ⟨b, off, rfl, fun i hi => ?_⟩
      simp only [List.length_map, List.length_range] at hi
      have h := hfa i hi
      simp only [List.getElem_map, List.getElem_range]
      refine ⟨?_, ?_, ?_, ?_⟩
      · rw [← Addr.add_lit]; exact h.2.2.1
      · rw [Nat.add_assoc, ← Addr.add_lit]; exact h.2.2.2.1
      · rw [Nat.add_assoc, ← Addr.add_lit]; exact h.2.2.2.2.1
      · rw [Nat.add_assoc, ← Addr.add_lit]; exact h.2.2.2.2.2

theorem open_ops {H : Type} {enc : TypeId × Value → H} {W : World} {base : Nat} {v : Value} {d : DataW H} {p : List MemPlace} {ts : List TypeId} {ds : List (DataW H)} (j : Nat) (hts : ts[j]? = some 25) (hds : ds[j]? = some d)
    (hsz : (DataW.weightsEach Tryz.prog ts ds).all (· ≤ reachBytes) = true)
    (hok : Value.okWide Tryz.prog W .any base 25 v) (h1 : DataW.Trod enc Tryz.prog W 0 (fun _ => true) true 25 v d p) : ∃ os : List OpV, OSl W v os ∧ os.length ≤ 5864062014800 := by
  obtain ⟨ps, h, hl⟩ := open_ops48 j hts hds hsz hok h1
  exact ⟨ps, h, by omega⟩

theorem trod_place_lt {H : Type} {enc : TypeId × Value → H} {W : World} {t : TypeId} {v : Value} {d : DataW H} {p : List MemPlace} (h1 : DataW.Trod enc Tryz.prog W 0 (fun _ => true) true t v d p) : ∀ x ∈ p, x.block < W.heap.size := by
  obtain ⟨m, hm⟩ := h1; exact DataW.trod_lt m _ _ _ hm
theorem again_bytes {H : Type} {enc : TypeId × Value → H} {W W' : World} {v : Value} {d : DataW H} {p : List MemPlace} (h1 : DataW.Trod enc Tryz.prog W 0 (fun _ => true) true 22 v d p) (bel : Below W.heap.size W W') :
    DataW.Trod enc Tryz.prog W' 0 (fun b => decide (b < W.heap.size)) true 22 v d p := Below.trod laidOut (by kernel_rfl) (of_decide_eq_true (by kernel_rfl)) h1 bel (trod_place_lt h1)
theorem again_ops {H : Type} {enc : TypeId × Value → H} {W W' : World} {v : Value} {d : DataW H} {p : List MemPlace} (h1 : DataW.Trod enc Tryz.prog W 0 (fun _ => true) true 25 v d p) (bel : Below W.heap.size W W') :
    DataW.Trod enc Tryz.prog W' 0 (fun b => decide (b < W.heap.size)) true 25 v d p := Below.trod laidOut (by kernel_rfl) (of_decide_eq_true (by kernel_rfl)) h1 bel (trod_place_lt h1)
end Go.Proofs.YtlpmpicmpklaoacGreat
