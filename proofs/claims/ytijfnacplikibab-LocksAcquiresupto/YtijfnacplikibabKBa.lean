import Derived.Test.YtijfnacplikibabKBq
namespace Go.Proofs.Ytijfnacplikibab
open Go.RowKit
set_option linter.unusedVariables false
set_option linter.unusedSimpArgs false
set_option maxRecDepth 20000

/-- the book in memory: its lists, and what it keeps as it came -/
structure BkS (w : World) (k : Nat) (late : Bool) (bv raw was : Value) (ys vs us : List Value) : Prop where
  row : w.heap[k]? = some (.cells #[bv, .bool late, raw, was] 31 (0, 0))
  bo : w.ownsRow 0 50 1 bv ys.length ys
  ro : w.ownsRow 0 50 1 raw vs.length vs
  wo : w.ownsRow 0 50 1 was us.length us
  len : us.length = vs.length
  re : ∀ (j : Nat) (u v : Value), vs[j]? = some v → us[j]? = some u → ∃ l1 l2, ISl w v l1 ∧ ISl w u l2 ∧ (late = true → l1 = l2)
  le : ∀ (j : Nat) (v : Value), ys[j]? = some v → ∃ m, ISl w v (List.replicate m (mk (j - j % 2)))
theorem BkS.heap {w w' : World} {k : Nat} {late : Bool} {bv raw was : Value} {ys vs us : List Value} (h : BkS w k late bv raw was ys vs us) (e : w'.heap = w.heap) : BkS w' k late bv raw was ys vs us := by
  have hk : ∀ b : Nat, w'.heap[b]? = w.heap[b]? := fun b => by rw [e]
  refine ⟨(hk _).trans h.row, rowKept h.bo fun g _ => hk g, rowKept h.ro fun g _ => hk g, rowKept h.wo fun g _ => hk g, h.len, fun j u v h1 h2 => ?_, fun j v h1 => ?_⟩
  · obtain ⟨l1, l2, a, b, c⟩ := h.re j u v h1 h2
    exact ⟨l1, l2, a.keptIf fun g _ _ => hk g, b.keptIf fun g _ _ => hk g, c⟩
  · obtain ⟨m, a⟩ := h.le j v h1
    exact ⟨m, a.keptIf fun g _ _ => hk g⟩
theorem BkS.c {w : World} {k : Nat} {late : Bool} {bv raw was : Value} {ys vs us : List Value} (h : BkS w k late bv raw was ys vs us) (i : Nat) : w.cell? ⟨k, i, none⟩ = (#[bv, .bool late, raw, was] : Array Value)[i]? := cell_of_row _ _ _ _ _ _ h.row
theorem rowCellL {w : World} {e : TypeId} {v : Value} {xs : List Value} (h : w.ownsRow 0 e 1 v xs.length xs) {j : Nat} {x : Value} (hj : xs[j]? = some x) : ∃ g cap, v = .slice (some ⟨g, 0, none⟩) xs.length cap ∧ w.cell? ⟨g, j, none⟩ = some x := by
  have hl : j < xs.length := (List.getElem?_eq_some_iff.1 hj).1
  have h' := h
  rcases h.2 with ⟨_, e⟩ | ⟨g, cap, cur, rfl, _, hg, _⟩
  · omega
  · exact ⟨g, cap, rfl, by rw [h'.cellAt j (by omega)]; exact hj⟩

set_option maxHeartbeats 2000000 in
theorem kept_any {w : World} {k : Nat} {late : Bool} {bv raw was : Value} {ys vs us : List Value} (h : BkS w k late bv raw was ys vs us) (hy : ys.length ≤ 9000000000000) :
    Calls Try.prog 11 #[.pointer (some ⟨k, 0, none⟩)] w fun e w' => e = .returned (.bool true) ∧ Qt w w' := by
  obtain ⟨ab, cb, eb, hb1, hb2⟩ := rowForm h.bo
  obtain ⟨ar, cr, er, hr1, hr2⟩ := rowForm h.ro
  obtain ⟨aw, cw, ew, hw1, hw2⟩ := rowForm h.wo
  subst eb er ew
  unfold maxLen at hb2 hr2 hw2
  have HS : Hid (∀ x, Qt w x → BkS x k late (.slice ab ys.length cb) (.slice ar vs.length cr) (.slice aw us.length cw) ys vs us) := hide fun x hx => h.heap hx.1
  have HLEN := hide h.len
  have HVG : Hid (∀ j, j < vs.length → ∃ v, vs[j]? = some v) := hide fun j hj => ⟨_, List.getElem?_eq_getElem hj⟩
  have HUG : Hid (∀ j, j < us.length → ∃ v, us[j]? = some v) := hide fun j hj => ⟨_, List.getElem?_eq_getElem hj⟩
  have HYG : Hid (∀ j, j < ys.length → ∃ v, ys[j]? = some v) := hide fun j hj => ⟨_, List.getElem?_eq_getElem hj⟩
  have c2 : w.cell? ⟨k, 2, none⟩ = some (.slice ar vs.length cr) := h.c 2
  clear h
  generalize hnv : vs.length = nv at *
  generalize hnu : us.length = nu at *
  generalize hny : ys.length = ny at *
  have HNV := hide hnv
  have HNU := hide hnu
  have HNY := hide hny
  clear hnv hnu hny
  go_enter Try.func11, Try.ntmps11
  go_wp2_with fail
  go_loopw [3] (fun x wr => ∃ i : Nat, i ≤ nv ∧ x = .int .i64 (i : Int) ∧ Qt w wr) (fun x _ => nv - (intOf x).toNat)
  case atStart => exact ⟨0, Nat.zero_le _, rfl, Qt.refl _⟩
  case round =>
    obtain ⟨i, hin, rfl, hq⟩ := hrel
    have HQ := hide hq
    have HB := hide (HS.out _ hq)
    have b2 : wr.cell? ⟨k, 2, none⟩ = some (.slice ar nv cr) := HB.out.c 2
    clear hq c2
    by_cases hlt : i < nv
    · obtain ⟨v, hv⟩ := HVG.out i hlt
      obtain ⟨u, hu⟩ := HUG.out i (by have := HLEN.out; omega)
      obtain ⟨l1, l2, hw1', hw2', hll⟩ := HB.out.re i u v hv hu
      have r1 := HB.out.ro
      have r2 := HB.out.wo
      rw [← HNV.out] at r1
      rw [← HNU.out] at r2
      obtain ⟨g, cg, eg, hcg⟩ := rowCellL r1 hv
      obtain ⟨g', cg', eg', hcg'⟩ := rowCellL r2 hu
      simp only [Value.slice.injEq] at eg eg'
      obtain ⟨rfl, -, -⟩ := eg
      obtain ⟨rfl, -, -⟩ := eg'
      have b1 : wr.cell? ⟨k, 1, none⟩ = some (.bool late) := HB.out.c 1
      have b3 : wr.cell? ⟨k, 3, none⟩ = some (.slice (some ⟨g', 0, none⟩) nu cw) := HB.out.c 3
      have HSW := hide (same_isl (w := wr.drew) (hw1'.keptIf fun _ _ _ => rfl) (hw2'.keptIf fun _ _ _ => rfl))
      have HLL : Hid (late = true → decide (l1 = l2) = true) := hide fun e => by simp [hll e]
      obtain ⟨a1, d1, e1, -⟩ := hw1'
      obtain ⟨a2, d2, e2, -⟩ := hw2'
      subst e1 e2
      have hiu : (i : Int) < (nu : Int) := by have := HLEN.out; omega
      clear hv hu hll r1 r2
      generalize decide (l1 = l2) = dd at *
      generalize l1.length = x1 at *
      generalize l2.length = x2 at *
      go_wp2_with fail
      go_region_held3 (fun w' => w'.cell? ⟨k, 2, none⟩ = some (.slice (some ⟨g, 0, none⟩) nv cr) ∧ w'.cell? ⟨k, 3, none⟩ = some (.slice (some ⟨g', 0, none⟩) nu cw) ∧ w'.cell? ⟨g, i, none⟩ = some (.slice a1 x1 d1) ∧ w'.cell? ⟨g', i, none⟩ = some (.slice a2 x2 d2))
        (first | exact ⟨b2, b3, hcg, hcg'⟩ | exact ⟨z2, z3, zg, zg'⟩)
        ((go_at_call 19; refine HSW.out.mono ?_; rintro e w2 ⟨rfl, hq2⟩; have HQ2 := hide (HQ.out.drew.trans hq2); have hcc : ∀ a, w2.cell? a = wr.cell? a := (fun a => World.cell?_of_block (by rw [hq2.1]; rfl)); have z1 := (hcc _).trans b1; have z2 := (hcc _).trans b2; have z3 := (hcc _).trans b3; have zg := (hcc _).trans hcg; have zg' := (hcc _).trans hcg'; clear hq2 hcc))
      all_goals
        cases late with
        | false =>
          go_wp2_with fail
          go_roundw
          case rel => exact ⟨i + 1, by omega, by go_num, HQ2.out⟩
          case measure => simp [intOf]; omega
        | true =>
          have hdd := HLL.out rfl
          subst hdd
          go_wp2_with fail
          go_roundw
          case rel => exact ⟨i + 1, by omega, by go_num, HQ2.out⟩
          case measure => simp [intOf]; omega
    · have b0 : wr.cell? ⟨k, 0, none⟩ = some (.slice ab ny cb) := HB.out.c 0
      go_wp2_with fail
      go_loopw [5] (fun x wr => ∃ i : Nat, i ≤ ny ∧ x = .int .i64 (i : Int) ∧ Qt w wr) (fun x _ => ny - (intOf x).toNat)
      case atStart => exact ⟨0, Nat.zero_le _, rfl, HQ.out⟩
      case round =>
        clear HQ HB b2 b0 hlt
        obtain ⟨i2, hin2, rfl, hq⟩ := hrel
        have HQ := hide hq
        have HB := hide (HS.out _ hq)
        have b0 : wr.cell? ⟨k, 0, none⟩ = some (.slice ab ny cb) := HB.out.c 0
        clear hq
        by_cases hlt : i2 < ny
        · obtain ⟨v, hv⟩ := HYG.out i2 hlt
          obtain ⟨m, hwm⟩ := HB.out.le i2 v hv
          have r1 := HB.out.bo
          rw [← HNY.out] at r1
          obtain ⟨g, cg, eg, hcg⟩ := rowCellL r1 hv
          simp only [Value.slice.injEq] at eg
          obtain ⟨rfl, -, -⟩ := eg
          have hmod : Int.tmod (i2 : Int) 2 = ((i2 % 2 : Nat) : Int) := rfl
          have hsub : (i2 : Int) - ((i2 % 2 : Nat) : Int) = ((i2 - i2 % 2 : Nat) : Int) := by omega
          have hmk1 : IntKind.i64.wrap (-1000000 - ((i2 - i2 % 2 : Nat) : Int)) = mk (i2 - i2 % 2) := by unfold mk; simp [IntKind.wrap, IntKind.bits, IntKind.signed]; omega
          have hmk2 : -1000000 - ((i2 - i2 % 2 : Nat) : Int) = mk (i2 - i2 % 2) := by unfold mk; omega
          have hsl : i2 - i2 % 2 ≤ 9000000000000 := by omega
          have hwr : IntKind.i64.wrap ((i2 : Int) - ((i2 % 2 : Nat) : Int)) = ((i2 - i2 % 2 : Nat) : Int) := by simp [IntKind.wrap, IntKind.bits, IntKind.signed]; omega
          obtain ⟨av, cv, ev, e1, e2, -, e5⟩ := hwm
          rw [List.length_replicate] at ev e1 e5
          unfold maxLen at e2
          subst ev
          generalize hMM : mk (i2 - i2 % 2) = M at *
          have HE : Hid (∀ j, j < m → ∃ b off, av = some ⟨b, off, none⟩ ∧ wr.cell? ⟨b, off + j, none⟩ = some (.int .i64 M)) := hide fun j hj => by
            obtain ⟨b, off, e, hc⟩ := e5 (by omega)
            refine ⟨b, off, e, ?_⟩
            rw [hc j hj]
            simp [List.getD, hj]
          clear e5 hMM hv r1
          generalize i2 - i2 % 2 = q at *
          generalize ((i2 % 2 : Nat) : Int) = t at *
          obtain ⟨wo, ewo⟩ : ∃ wo, wr = wo := ⟨wr, rfl⟩
          subst ewo
          go_wp2_with fail
          obtain ⟨wo, ewo⟩ : ∃ wo, wr = wo := ⟨wr, rfl⟩
          rw [ewo] at HQ HB b0 hcg HE
          go_loopw [7] (fun x wr => ∃ j : Nat, j ≤ m ∧ x = .int .i64 (j : Int) ∧ wr = wo) (fun x _ => m - (intOf x).toNat)
          case atStart => exact ⟨0, Nat.zero_le _, rfl, ewo⟩
          case round =>
            clear ewo
            obtain ⟨j, hjm, rfl, rfl⟩ := hrel
            by_cases hlj : j < m
            · obtain ⟨b, off, rfl, hcell⟩ := HE.out j hlj
              clear hmk1 hmk2 hmod hsub hwr
              go_wp2_with fail
              go_roundw
              case rel => exact ⟨j + 1, by omega, by go_num, trivial⟩
              case measure => simp [intOf]; omega
            · clear hmk1 hmk2 hmod hsub hwr
              go_wp2_with fail
              go_roundw
              case rel => exact ⟨i2 + 1, by omega, by go_num, HQ.out⟩
              case measure => simp [intOf]; omega
        · go_wp2_with fail
          go_ret
          exact ⟨rfl, HQ.out⟩
end Go.Proofs.Ytijfnacplikibab
