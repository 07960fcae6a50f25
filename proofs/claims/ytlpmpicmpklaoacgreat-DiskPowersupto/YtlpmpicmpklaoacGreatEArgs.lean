import Derived.Test.YtlpmpicmpklaoacGreatDArgs
import Derived.JoinedCond
import Derived.Deep.CondSized
namespace Go.Proofs.YtlpmpicmpklaoacGreat
open Go.ChangeShapes Go.WideShapes Go.ChangeAt Go.RowKit
set_option linter.unusedVariables false
set_option linter.unusedSimpArgs false
set_option maxRecDepth 20000

theorem bulk_pos {H : Type} (d : DataW H) : 1 ≤ Rows.uptoBulk d := by
  cases d with
  | lit l => cases l <;> simp [Rows.uptoBulk]
  | _ => simp [Rows.uptoBulk]
theorem bulk_len {H : Type} (l : List (DataW H)) : l.length ≤ Rows.uptoBulkAll l := by
  induction l with
  | nil => exact Nat.zero_le _
  | cons x r ih => have := bulk_pos x; rw [Rows.uptoBulkAll, List.length_cons]; omega
theorem bulk_mem {H : Type} {x : DataW H} : ∀ {l : List (DataW H)}, x ∈ l → Rows.uptoBulk x ≤ Rows.uptoBulkAll l
  | y :: r, h => by
    rw [Rows.uptoBulkAll]
    rcases List.mem_cons.1 h with rfl | h
    · omega
    · have := bulk_mem h
      omega
/-- a field of bytes, and how long it may be -/
theorem open_fieldB {H : Type} {enc : TypeId × Value → H} {W : World} {n : Nat} {v : Value} {y : DataW H × List MemPlace} (h : DataW.trod enc Tryz.prog W 0 (fun _ => true) true n 22 [v] = some y) :
    ∃ l : List Nat, BSl W v l ∧ l.length ≤ Rows.uptoBulk y.1 ∧ (l = [] ∨ ∃ e s, y.1 = .slice e s ∧ l.length ≤ e.length + s.length) := by
  rcases open_ints Tryz.underlying22 Tryz.underlying5 (by kernel_rfl) h with ⟨hcs, hy⟩ | ⟨x, len, cap, zs, hcs, _, hl, hm, hz, hx, hcell, hwz⟩
  · simp at hcs
    subst hcs
    exact ⟨[], ⟨none, 0, rfl, Nat.le_refl _, by unfold maxLen; omega, fun _ => rfl, by simp, by simp⟩, Nat.zero_le _, .inl rfl⟩
  · simp at hcs
    subst hcs
    simp only [if_true] at hz
    obtain ⟨l, hll, hb⟩ := bsl_of_row (.inr ⟨_, rfl, hl, hm, hz, hcell, hwz⟩)
    have hy1 : y.1 = .slice (lits .u8 (zs.take len)) (lits .u8 (zs.drop len)) := by rw [hx]
    have h2 := bulk_len (lits (H := H) .u8 (zs.take len))
    refine ⟨l, hb, ?_, .inr ⟨_, _, hy1, ?_⟩⟩
    · rw [hy1, Rows.uptoBulk]
      simp only [lits, List.length_map, List.length_take] at h2 ⊢
      omega
    · simp only [lits, List.length_map, List.length_take, List.length_drop] at h2 ⊢
      omega

theorem cellsMade : Tryz.prog.cellsOf 24 = 4 := by kernel_rfl
theorem fieldsMade : ∃ fs, Tryz.prog.underlying 24 = some (.struct fs) ∧ fs.toList.map (·.type) = [4, 3, 3, 22] := ⟨_, Tryz.underlying24, rfl⟩
theorem open_made {H : Type} {enc : TypeId × Value → H} {W : World} {base : Nat} {v : Value} {d : DataW H} {p : List MemPlace} (hok : Value.okWide Tryz.prog W .any base 24 v) (h1 : DataW.Trod enc Tryz.prog W 0 (fun _ => true) true 24 v d p) :
    ∃ (ld : Bool) (n s : Int) (iv : Value) (l : List Nat), v = .agg #[.bool ld, .int .i64 n, .int .i64 s, iv] ∧ i64ok n ∧ i64ok s ∧ BSl W iv l ∧ l.length ≤ Rows.uptoBulk d ∧
      ∀ (ts : List TypeId) (ds : List (DataW H)) (j : Nat), ts[j]? = some 24 → ds[j]? = some d → (DataW.weightsEach Tryz.prog ts ds).all (· ≤ reachBytes) = true → l.length ≤ reachBytes := by
  obtain ⟨cs, rfl, hcs⟩ := okWide_struct Tryz.underlying24 hok
  rw [cellsMade] at hcs
  obtain ⟨fuel, hf⟩ := h1
  obtain ⟨l⟩ := cs
  match l, hcs with
  | [v0, v1, v2, v3], _ =>
    obtain ⟨xs, k, hk, hxy, _, hxl, hfd⟩ := DataW.trod_struct Tryz.underlying24 hf
    match xs, hxl with
    | [y0, y1, y2, y3], _ =>
      have g0 := hfd 0 _ rfl
      have g1 := hfd 1 _ rfl
      have g2 := hfd 2 _ rfl
      have g3 := hfd 3 _ rfl
      simp [cellsInt, cellsBytes, cellsBool, Value.cells] at g0 g1 g2 g3
      obtain ⟨z0, hz0, _⟩ := DataW.trod_bool Tryz.underlying4 g0
      obtain ⟨z1, hz1, _, wf1⟩ := DataW.trod_int Tryz.underlying3 g1
      obtain ⟨z2, hz2, _, wf2⟩ := DataW.trod_int Tryz.underlying3 g2
      simp at hz0 hz1 hz2
      subst hz0
      subst hz1
      subst hz2
      obtain ⟨l, hb, hlb, hsl⟩ := open_fieldB g3
      simp only [Prod.mk.injEq] at hxy
      refine ⟨z0, z1, z2, v3, l, rfl, bounds_i64 wf1, bounds_i64 wf2, hb, ?_, ?_⟩
      · rw [hxy.1]
        simp only [List.map_cons, List.map_nil, Rows.uptoBulk, Rows.uptoBulkAll]
        omega
      · intro ts ds j ht hd hsz
        rcases hsl with rfl | ⟨e, s, hy, hl⟩
        · simp
        · rw [hxy.1] at hd
          have hm : (e.length + s.length) * Tryz.prog.bytesOf 5 ∈ (DataW.agg (H := H) ([y0, y1, y2, y3].map (·.1))).weights Tryz.prog 24 := by
            obtain ⟨fs, hfs, hft⟩ := fieldsMade
            simp only [DataW.weights, hfs, hft, List.map_cons, List.map_nil, hy, DataW.weightsEach, Tryz.underlying22]
            simp
          have := List.all_eq_true.1 hsz _ (DataW.weights_mem_each ht hd _ hm)
          rw [show Tryz.prog.bytesOf 5 = 1 from by kernel_rfl] at this
          simp at this
          omega
theorem again_made {H : Type} {enc : TypeId × Value → H} {W W' : World} {v : Value} {d : DataW H} {p : List MemPlace} (h1 : DataW.Trod enc Tryz.prog W 0 (fun _ => true) true 24 v d p) (bel : Below W.heap.size W W') :
    DataW.Trod enc Tryz.prog W' 0 (fun b => decide (b < W.heap.size)) true 24 v d p := Below.trod laidOut (by kernel_rfl) (of_decide_eq_true (by kernel_rfl)) h1 bel (trod_place_lt h1)

theorem open_opsB {H : Type} {enc : TypeId × Value → H} {W : World} {base : Nat} {v : Value} {d : DataW H} {p : List MemPlace}
    (hok : Value.okWide Tryz.prog W .any base 25 v) (h1 : DataW.Trod enc Tryz.prog W 0 (fun _ => true) true 25 v d p) : ∃ os : List OpV, OSl W v os ∧ os.length ≤ Rows.uptoBulk d ∧ ∀ o ∈ os, o.dl.length ≤ Rows.uptoBulk d := by
  obtain ⟨a1, len1, cap1, rfl⟩ := okWide_slice Tryz.underlying25 hok
  obtain ⟨fuel, hf⟩ := h1
  rcases Go.Deep.open_slice Tryz.underlying25 hf with ⟨hcs, _⟩ | ⟨a, len, cap, m, n, D, Pl, hcs, _, hl, hm, hmm, hx, hel⟩
  · simp [Value.cells] at hcs
    obtain ⟨rfl, rfl, rfl⟩ := hcs
    exact ⟨[], ⟨none, 0, rfl, Nat.le_refl _, by unfold maxLen; omega, by simp, by simp⟩, Nat.zero_le _, by simp⟩
  · simp [Value.cells] at hcs
    obtain ⟨rfl, rfl, rfl⟩ := hcs
    simp only [if_true] at hmm
    subst hmm
    have each : ∀ i, i < len1 → ∃ s : OpV, (i64ok s.kind ∧ i64ok s.block ∧ i64ok s.count) ∧ BSl W s.dv s.dl ∧ W.cell? (a.add (i * 4)) = some (.int .i64 s.kind) ∧ W.cell? (a.add (i * 4 + 1)) = some (.int .i64 s.block) ∧ W.cell? (a.add (i * 4 + 2)) = some (.int .i64 s.count) ∧ W.cell? (a.add (i * 4 + 3)) = some s.dv ∧ s.dl.length ≤ Rows.uptoBulk (D i) := by
      intro i hi
      obtain ⟨cs', h1, h2⟩ := hel i (by omega)
      rw [cellsOp] at h1
      obtain ⟨_, hlen, hcell⟩ := World.cells?_some h1
      obtain ⟨xs, k, hk, hxy, _, hxl, hfd⟩ := DataW.trod_struct Tryz.underlying43 h2
      match xs, hxl, cs', hlen with
      | [y0, y1, y2, y3], _, [v0, v1, v2, v3], _ =>
        have g0 := hfd 0 _ rfl
        have g1 := hfd 1 _ rfl
        have g2 := hfd 2 _ rfl
        have g3 := hfd 3 _ rfl
        simp [cellsInt, cellsBytes] at g0 g1 g2 g3
        have e0 := hcell 0 (by omega)
        have e1 := hcell 1 (by omega)
        have e2 := hcell 2 (by omega)
        have e3 := hcell 3 (by omega)
        rw [Go.Deep.add_add] at e0 e1 e2 e3
        obtain ⟨z0, hz0, _, wf0⟩ := DataW.trod_int Tryz.underlying3 g0
        obtain ⟨z1, hz1, _, wf1⟩ := DataW.trod_int Tryz.underlying3 g1
        obtain ⟨z2, hz2, _, wf2⟩ := DataW.trod_int Tryz.underlying3 g2
        simp at hz0 hz1 hz2
        subst hz0
        subst hz1
        subst hz2
        obtain ⟨l, hb, hlb, -⟩ := open_fieldB g3
        refine ⟨⟨z0, z1, z2, v3, l⟩, ⟨bounds_i64 wf0, bounds_i64 wf1, bounds_i64 wf2⟩, hb, by simpa using e0, by simpa using e1, by simpa using e2, by simpa using e3, ?_⟩
        simp only [Prod.mk.injEq] at hxy
        rw [hxy.1]
        simp only [List.map_cons, List.map_nil, Rows.uptoBulk, Rows.uptoBulkAll]
        omega
    haveI : Inhabited OpV := ⟨⟨0, 0, 0, .slice none 0 0, []⟩⟩
    obtain ⟨f, hfa⟩ := Go.Deep.choose_lt each
    have hd : Rows.uptoBulkAll ((List.range len1).map D) + 1 ≤ Rows.uptoBulk d := by
      simp only [Prod.mk.injEq] at hx
      rw [hx.1, Rows.uptoBulk]; omega
    have hlen1 := bulk_len ((List.range len1).map D)
    simp only [List.length_map, List.length_range] at hlen1
    refine ⟨(List.range len1).map f, ⟨some a, m, by simp, by simpa using hl, hm, ?_, ?_⟩, by simp; omega, ?_⟩
    · intro s hs
      obtain ⟨i, hi, rfl⟩ := List.mem_map.1 hs
      have h := hfa i (List.mem_range.1 hi)
      exact ⟨h.2.1, h.1.1, h.1.2.1, h.1.2.2⟩
    · intro hpos
      simp only [List.length_map, List.length_range] at hpos
      obtain ⟨b, off, spot⟩ := a
      have hspot : spot = none := by simpa [Addr.add] using World.cell?_spot (hfa 0 hpos).2.2.1
      subst hspot
      refine ⟨b, off, rfl, fun i hi => ?_⟩
      simp only [List.length_map, List.length_range] at hi
      have h := hfa i hi
      simp only [List.getElem_map, List.getElem_range]
      refine ⟨?_, ?_, ?_, ?_⟩
      · rw [← Addr.add_lit]; exact h.2.2.1
      · rw [Nat.add_assoc, ← Addr.add_lit]; exact h.2.2.2.1
      · rw [Nat.add_assoc, ← Addr.add_lit]; exact h.2.2.2.2.1
      · rw [Nat.add_assoc, ← Addr.add_lit]; exact h.2.2.2.2.2.1
    · intro o ho
      obtain ⟨i, hi, rfl⟩ := List.mem_map.1 ho
      have h := (hfa i (List.mem_range.1 hi)).2.2.2.2.2.2
      have := bulk_mem (List.mem_map.2 ⟨i, hi, rfl⟩ : D i ∈ (List.range len1).map D)
      omega
end Go.Proofs.YtlpmpicmpklaoacGreat
