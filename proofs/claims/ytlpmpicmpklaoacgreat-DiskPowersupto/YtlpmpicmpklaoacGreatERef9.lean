import Derived.Test.YtlpmpicmpklaoacGreatERef8
namespace Go.Proofs.YtlpmpicmpklaoacGreat
open Go.RowKit Go.Maps
set_option linter.unusedVariables false
set_option linter.unusedSimpArgs false
set_option maxRecDepth 20000

theorem rKeep {w : World} {v : Value} {p : List Nat} (hv : BSl w v p) (k n : Nat) (hk : k < 8192) (hn : n < 9223372036854775807) :
    Calls Tryz.prog 88 #[v, .int .i64 (k : Int), .int .i64 (n : Int)] w fun e w' => e = .returned (.int .i64 (keptN p k n : Int)) ∧ w' = w := by
  obtain ⟨a, cap, rfl, hl, hm, hn', hb, hcell⟩ := hv
  unfold maxLen at hm
  by_cases h0 : p.length = 0
  · have e1 : keptN p k n = 0 := by simp [keptN, h0]
    rw [e1, h0]
    clear hcell hb
    go_enter Tryz.func88, Tryz.ntmps88
    go_wp2
    go_ret
    exact ⟨rfl, rfl⟩
  · obtain ⟨g, off, rfl, hc⟩ := hcell (by omega)
    have e1 : keptN p k n = p.getD (k % p.length) 0 % (n + 1) := by simp [keptN, h0]
    have hkm : k % p.length < p.length := Nat.mod_lt _ (by omega)
    have hck := hc _ hkm
    have hx : p.getD (k % p.length) 0 < 256 := hb _ (mem_getD hkm)
    have t1 := tmod_nat k p.length
    have t2 := tmod_nat (p.getD (k % p.length) 0) (n + 1)
    rw [e1]
    clear hc hcell hb hn' e1
    generalize hj : k % p.length = j at *
    clear hj
    generalize p.getD j 0 = x at *
    have hN0 : ¬ (p.length : Int) = 0 := by omega
    generalize p.length = N at *
    have t2' : Int.tmod (x : Int) ((n : Int) + 1) = ((x % (n + 1) : Nat) : Int) := by rw [← t2]; rfl
    clear t2
    generalize x % (n + 1) = y at *
    go_enter Tryz.func88, Tryz.ntmps88
    go_wp2
    go_ret
    exact ⟨rfl, rfl⟩

/-- a list of numbers, one a block -/
def IntsAt (w : World) (g n : Nat) (f : Nat → Nat) : Prop := ∃ cs : Array Value, w.heap[g]? = some (.cells cs 3 (0, 0)) ∧ cs.size = n ∧ ∀ k, k < n → cs[k]? = some (.int .i64 (f k : Int))
theorem IntsAt.kept {w w' : World} {g n : Nat} {f : Nat → Nat} (h : IntsAt w g n f) (hk : w'.heap[g]? = w.heap[g]?) : IntsAt w' g n f := by
  obtain ⟨cs, h1, h2⟩ := h
  exact ⟨cs, hk.trans h1, h2⟩
theorem IntsAt.drew {w : World} {g n : Nat} {f : Nat → Nat} (h : IntsAt w g n f) : IntsAt w.drew g n f := h
theorem IntsAt.cell {w : World} {g n : Nat} {f : Nat → Nat} (h : IntsAt w g n f) {k : Nat} (hk : k < n) : w.cell? ⟨g, k, none⟩ = some (.int .i64 (f k : Int)) ∧ w.frozen? ⟨g, k, none⟩ = false := by
  obtain ⟨cs, h1, h2, h3⟩ := h
  exact ⟨by rw [cell_of_row _ _ _ _ _ _ h1]; exact h3 k hk, frozen_of_row _ _ _ _ 3 h1⟩
theorem IntsAt.set {w : World} {g n : Nat} {f : Nat → Nat} (h : IntsAt w g n f) {k : Nat} (hk : k < n) (x : Nat) {f' : Nat → Nat} (hf : ∀ j, f' j = if j = k then x else f j) : IntsAt (w.setCell ⟨g, k, none⟩ (.int .i64 (x : Int))) g n f' := by
  obtain ⟨cs, h1, h2, h3⟩ := h
  refine ⟨_, Go.heap_setCell_same w g k _ 3 _ h1, by simpa using h2, fun j hj => ?_⟩
  rw [hf j]
  by_cases e : j = k
  · rw [if_pos e, e, Array.getElem?_setIfInBounds_self_of_lt (by omega)]
  · rw [if_neg e, Array.getElem?_setIfInBounds_ne (by omega)]; exact h3 j hj
theorem IntsAt.ne {w : World} {g n : Nat} {f : Nat → Nat} (h : IntsAt w g n f) {b : Nat} {cs : Array Value} {t : TypeId} (hb : w.heap[b]? = some (.cells cs t (0, 0))) (ht : t ≠ 3) : g ≠ b := by
  obtain ⟨ds, h1, _⟩ := h
  exact neType h1 hb (Ne.symm ht)
theorem made_ints (n : Nat) : ∃ Z : Array Value, madeCells (Value.int .i64 0).cells (n * 1) = Z ∧ Z.size = n ∧ ∀ k, k < n → Z[k]? = some (.int .i64 ((0 : Nat) : Int)) := by
  refine ⟨_, rfl, by simp [madeCells, Value.cells], fun k hk => ?_⟩
  simp [madeCells, Value.cells, hk, Nat.mod_one]
theorem run_ints (n : Nat) (hn : n ≤ 8192) : ∃ Z : Array Value, (∀ w : World, (Instr.makeSlice 36 (.int .i64 (n : Int)) (.int .i64 (n : Int))).run Tryz.prog w = .ok (sl w.heap.size n) (w.alloc (.cells Z 3))) ∧ ∀ w : World, IntsAt (w.alloc (.cells Z 3)) w.heap.size n fun _ => 0 := by
  obtain ⟨i0, hi, hz0, hz1, hz2⟩ := info_parts info_int
  obtain ⟨Z, z1, z2, z3⟩ := made_ints n
  refine ⟨Z, fun w => ?_, fun w => ⟨Z, Go.heap_alloc_new w _, z2, z3⟩⟩
  have hr := run_make (P := Tryz.prog) w 36 3 i0 (.int .i64 0) Tryz.underlying36 hi hz0 .i64 .i64 (n : Int) (n : Int) (by omega) (Int.le_refl _) (by rw [hz2]; omega) (by omega)
  simp only [Int.toNat_natCast] at hr
  rw [hz1, z1] at hr
  exact hr

set_option maxHeartbeats 2000000 in
theorem rCrash {w : World} {L : RLay} {S : St} {wh : Int} (h : RD w L S wh) {v : Value} {p : List Nat} (hv : BSl w v p) (hvU : 0 < p.length → ∀ g, blockOf v = some g → ¬ L.U g) (hb : ∀ k, (S.cache k).length + 1 ≤ 268435456) :
    Calls Tryz.prog 64 #[PR L, v] w fun e w' => e = .returned (.tuple #[]) ∧ ∃ L' : RLay, L'.p = L.p ∧ RD w' L' (S.crash p) wh ∧ Grow w w' L.U L'.U := by
  obtain ⟨R, r1, r2, r3⟩ := h
  have hil := items_lt r1 r2 hb
  obtain ⟨ac, cc, ec, hc1, hc2⟩ := rowForm r1.hc
  unfold maxLen at hc2
  obtain ⟨m1, m2⟩ := r1.mc
  obtain ⟨s1, s2⟩ := r1.sc
  unfold maxLen at m2 s2
  have hnb := r1.nb2
  have HR := hide r1
  have HSM := hide r2
  have HW := hide r3
  have HV := hide hv
  have HVU := hide hvU
  have HCB := hide hb
  have hul := r1.uLt
  have HUL := hide hul
  have HCE : Hid (∀ w' Q, RRep w' L Q → Q = { R with med := Q.med, sp := Q.sp } → w'.cell? ⟨L.p, 4, none⟩ = some (.slice ac R.items.length cc) ∧ w'.cell? ⟨L.p, 2, none⟩ = some (.slice (some ⟨L.mb, 0, none⟩) R.nb L.mc) ∧ w'.cell? ⟨L.p, 3, none⟩ = some (.slice (some ⟨L.sb, 0, none⟩) R.nb L.sc) ∧ w'.cell? ⟨L.p, 0, none⟩ = some (.int .i64 (R.nb : Int))) := hide fun w' Q h' hs => by
    have e4 := h'.cell 4
    have e2 := h'.cell 2
    have e3 := h'.cell 3
    have e0 := h'.cell 0
    rw [hs] at e2 e3 e0
    exact ⟨by rw [← ec]; exact e4, e2, e3, e0⟩
  have HEC := hide ec
  obtain ⟨-, -, -, c0⟩ := HCE.out _ _ r1 rfl
  obtain ⟨Z, hmk, hZi⟩ := run_ints R.nb hnb
  have HZI := hide hZi
  have START : Hid (Below w.heap.size w (w.alloc (.cells Z 3)) ∧ IntsAt (w.alloc (.cells Z 3)) w.heap.size R.nb (cntOf R.items 0)) := hide ⟨(Below.refl _ _).alloc (Nat.le_refl _) _, by
    have e : cntOf R.items 0 = fun _ => 0 := funext fun k => cnt_zero _ k
    rw [e]; exact hZi w⟩
  clear r1 r2 r3 hv hvU hb ec hul hZi
  unfold PR
  go_enter Tryz.func64, Tryz.ntmps64
  go_wp2
  go_loopw [5] (fun x wr => ∃ (i : Nat), i ≤ R.items.length ∧ x = .int .i64 (i : Int) ∧ Below w.heap.size w wr ∧ IntsAt wr w.heap.size R.nb (cntOf R.items i)) (fun x _ => R.items.length - (intOf x).toNat)
  case atStart => exact ⟨0, Nat.zero_le _, rfl, START.out.1, START.out.2⟩
  case round =>
    clear START
    obtain ⟨i, hi', rfl, hbr, hin⟩ := hrel
    have HRr := hide (HR.out.below hbr)
    have HIN := hide hin
    clear hin
    obtain ⟨c4, c2, c3, c0r⟩ := HCE.out _ _ HRr.out rfl
    by_cases hlt : i < R.items.length
    · obtain ⟨g, cap, eg, -, -, k0, k1⟩ := HRr.out.itemAt hlt
      rw [HEC.out] at eg
      simp only [Value.slice.injEq] at eg
      obtain ⟨rfl, -, rfl⟩ := eg
      have hbk := (HR.out.pi _ (List.getElem_mem hlt)).1
      obtain ⟨n1, n2⟩ := HIN.out.cell hbk
      have hcl := cnt_le R.items i R.items[i].1
      have HNX : Hid (Below w.heap.size w (wr.setCell ⟨w.heap.size, R.items[i].1, none⟩ (.int .i64 ((cntOf R.items i R.items[i].1 + 1 : Nat) : Int))) ∧ IntsAt (wr.setCell ⟨w.heap.size, R.items[i].1, none⟩ (.int .i64 ((cntOf R.items i R.items[i].1 + 1 : Nat) : Int))) w.heap.size R.nb (cntOf R.items (i + 1))) := hide
        ⟨hbr.setCell (p := ⟨w.heap.size, R.items[i].1, none⟩) (Nat.le_refl _) _, HIN.out.set hbk _ fun j => by
          rw [cnt_succ _ hlt]
          by_cases e : j = R.items[i].1
          · rw [if_pos e, if_pos e.symm, e]
          · rw [if_neg e, if_neg (fun h => e h.symm)]; rfl⟩
      have hcast : ((cntOf R.items i R.items[i].1 + 1 : Nat) : Int) = (cntOf R.items i R.items[i].1 : Int) + 1 := by omega
      rw [hcast] at HNX
      generalize cntOf R.items i R.items[i].1 = cn at *
      generalize R.items[i] = X at *
      obtain ⟨b, pc⟩ := X
      simp only at *
      clear hcast
      go_wp2
      go_roundw
      case rel => exact ⟨i + 1, by omega, by go_num, HNX.out.1, HNX.out.2⟩
      case measure => simp [intOf]; omega
    · have ei : i = R.items.length := by omega
      have HTOT : Hid (cntOf R.items i = fun k => (S.cache k).length) := hide (funext fun k => by rw [ei, cnt_all, HSM.out.cache k]; simp)
      rw [HTOT.out] at HIN
      have HB1 := hide hbr
      have hsz1 := hbr.size
      have HTN := hide (HIN.out)
      have htl : w.heap.size < wr.heap.size := by
        obtain ⟨cs, h1, _⟩ := HIN.out
        exact (Array.getElem?_eq_some_iff.1 h1).1
      have hbA := (Below.refl wr.heap.size wr).alloc (Nat.le_refl _) (.cells Z 3)
      have START : Hid (RRep (wr.alloc (.cells Z 3)) L R ∧ Down S R R (fun k => min (cntOf R.items 0 k) (keptN p k (S.cache k).length)) ∧ Grow w (wr.alloc (.cells Z 3)) L.U L.U ∧ IntsAt (wr.alloc (.cells Z 3)) w.heap.size R.nb (fun k => (S.cache k).length) ∧ IntsAt (wr.alloc (.cells Z 3)) wr.heap.size R.nb (cntOf R.items 0)) := hide
        ⟨HRr.out.below hbA, Down.start HSM.out (fun k => by rw [cnt_zero]; exact Nat.zero_min _), (Grow.ofBelow L.U hbr).trans (Grow.ofBelow L.U hbA), HIN.out.kept (hbA.block _ htl), by
          have e : cntOf R.items 0 = fun _ => 0 := funext fun k => cnt_zero _ k
          rw [e]; exact HZI.out wr⟩
      obtain ⟨w1, hw1⟩ : ∃ w1, w1 = wr := ⟨_, rfl⟩
      subst hw1
      clear hbA hbr c2 c3 HRr HIN ei
      go_wp2
      go_loopw [7] (fun x wr => ∃ (i : Nat) (Q : RSt), i ≤ R.items.length ∧ x = .int .i64 (i : Int) ∧ RRep wr L Q ∧ Down S R Q (fun k => min (cntOf R.items i k) (keptN p k (S.cache k).length)) ∧ Grow w wr L.U L.U ∧ IntsAt wr w.heap.size R.nb (fun k => (S.cache k).length) ∧ IntsAt wr w1.heap.size R.nb (cntOf R.items i)) (fun x _ => R.items.length - (intOf x).toNat)
      case atStart => exact ⟨0, R, Nat.zero_le _, rfl, START.out⟩
      case round =>
        clear START
        obtain ⟨i, Q, hi', rfl, hQ, hDn, hGr, hTot, hSee⟩ := hrel
        have HQ := hide hQ
        have HDN := hide hDn
        have HGR := hide hGr
        have HTO := hide hTot
        have HSE := hide hSee
        clear hQ hDn hGr hTot hSee
        obtain ⟨c4, c2, c3, -⟩ := HCE.out _ _ HQ.out HDN.out.same
        by_cases hlt : i < R.items.length
        · have hqi : i < Q.items.length := by rw [show Q.items = R.items by rw [HDN.out.same]]; exact hlt
          obtain ⟨g, cap, eg, -, -, k0, -⟩ := HQ.out.itemAt hqi
          have ex : Q.items[i] = R.items[i] := by
            have : Q.items = R.items := by rw [HDN.out.same]
            simp [this]
          rw [ex] at k0
          rw [HEC.out] at eg
          simp only [Value.slice.injEq] at eg
          obtain ⟨rfl, -, rfl⟩ := eg
          have hbk := (HR.out.pi _ (List.getElem_mem hlt)).1
          have hcl := cnt_le R.items i R.items[i].1
          obtain ⟨n1, n2⟩ := HSE.out.cell hbk
          -- behind seen[b]++
          have hne : ∀ b, L.U b → b ≠ w1.heap.size := fun b hb => by have := HUL.out b hb; omega
          have hkA : ∀ b, b ≠ w1.heap.size → (wr.setCell ⟨w1.heap.size, R.items[i].1, none⟩ (.int .i64 ((cntOf R.items i R.items[i].1 + 1 : Nat) : Int))).heap[b]? = wr.heap[b]? := fun b hb => Go.heap_setCell_other _ _ _ _ hb
          have HQA := hide (HQ.out.kept (w' := wr.setCell ⟨w1.heap.size, R.items[i].1, none⟩ (.int .i64 ((cntOf R.items i R.items[i].1 + 1 : Nat) : Int))) (fun b hb => hkA b (hne b hb)) (by simp [World.setCell]))
          have HTA := hide (HTO.out.kept (hkA _ (by omega)))
          have HSA : Hid (IntsAt (wr.setCell ⟨w1.heap.size, R.items[i].1, none⟩ (.int .i64 ((cntOf R.items i R.items[i].1 + 1 : Nat) : Int))) w1.heap.size R.nb (cntOf R.items (i + 1))) := hide (HSE.out.set hbk _ fun j => by
            rw [cnt_succ _ hlt]
            by_cases e : j = R.items[i].1
            · rw [if_pos e, if_pos e.symm, e]
            · rw [if_neg e, if_neg (fun h => e h.symm)]; rfl)
          have HGA : Hid (Grow w (wr.setCell ⟨w1.heap.size, R.items[i].1, none⟩ (.int .i64 ((cntOf R.items i R.items[i].1 + 1 : Nat) : Int))) L.U L.U) := hide
            ⟨HGR.out.os, HGR.out.tape, HGR.out.output, by have := HGR.out.size; simp [World.setCell]; exact this, fun b hb hu => (hkA b (by omega)).trans (HGR.out.keep b hb hu), fun _ _ h => h, fun _ h => h⟩
          have HVA : Hid (BSl (wr.setCell ⟨w1.heap.size, R.items[i].1, none⟩ (.int .i64 ((cntOf R.items i R.items[i].1 + 1 : Nat) : Int))) v p) := hide (by
            by_cases h0 : 0 < p.length
            · exact HV.out.keptIf fun g hg hlt => HGA.out.keep g hlt (HVU.out h0 g hg)
            · obtain ⟨a, cap, e1, e2, e3, e4, e5, e6⟩ := HV.out
              exact ⟨a, cap, e1, e2, e3, e4, e5, fun h => absurd h h0⟩)
          have hcast : ((cntOf R.items i R.items[i].1 + 1 : Nat) : Int) = (cntOf R.items i R.items[i].1 : Int) + 1 := by omega
          have hcs1 : cntOf R.items (i + 1) R.items[i].1 = cntOf R.items i R.items[i].1 + 1 := by rw [cnt_succ _ hlt, if_pos rfl]
          obtain ⟨t1, -⟩ := HTA.out.cell hbk
          obtain ⟨z1, -⟩ := HSA.out.cell hbk
          rw [hcs1] at z1
          have hkp := HCB.out R.items[i].1
          have HKE := hide (rKeep HVA.out R.items[i].1 (S.cache R.items[i].1).length (by omega) (by omega))
          obtain ⟨d4, d2, d3, -⟩ := HCE.out _ _ HQA.out HDN.out.same
          obtain ⟨g', cap', eg', -, -, -, k1⟩ := HQA.out.itemAt hqi
          rw [ex, show Q.sz = R.sz by rw [HDN.out.same]] at k1
          rw [HEC.out] at eg'
          simp only [Value.slice.injEq, Option.some.injEq, Addr.mk.injEq] at eg'
          obtain ⟨⟨rfl, -, -⟩, -, -⟩ := eg'
          obtain ⟨-, l1, l2, l3⟩ := HQA.out.layItem HDN.out.same hlt
          have hnbQ : R.items[i].1 < Q.nb := by rw [show Q.nb = R.nb by rw [HDN.out.same]]; exact hbk
          obtain ⟨o1, o2⟩ := HQA.out.medAt hnbQ
          obtain ⟨b4, b2, b3, -⟩ := HCE.out _ _ l1 (by show _ = _; rw [HDN.out.same])
          obtain ⟨o3, o4⟩ := l1.spAt (k := R.items[i].1) hnbQ
          obtain ⟨cs0, hcs0⟩ := rowCells HQA.out.hc (g := g) (by rw [HEC.out]; rfl)
          have hg6 : g ≠ L.mb := by
            obtain ⟨ms, hms, _⟩ := HQA.out.hm
            exact neType hcs0 hms (by decide)
          have k1' := cellOther (i := R.items[i].1) (v := sl R.items[i].2.g R.sz) k1 hg6 ⟨_, _, hcs0⟩
          have hkM : ∀ x, L.U L.mb → L.U L.sb → x ≠ L.mb → x ≠ L.sb → ∀ (w0 : World) (v0 : Value), ((w0.setCell ⟨L.mb, R.items[i].1, none⟩ v0).setCell ⟨L.sb, R.items[i].1, none⟩ (.bool false)).heap[x]? = w0.heap[x]? := fun x _ _ h1 h2 w0 v0 => (Go.heap_setCell_other _ _ _ _ h2).trans (Go.heap_setCell_other _ _ _ _ h1)
          obtain ⟨ms0, hms0, -⟩ := HQA.out.hm
          obtain ⟨ss0, hss0, -⟩ := HQA.out.hs
          have HTB := hide ((HTA.out.kept (hkM _ HQA.out.uM HQA.out.uS (HTA.out.ne hms0 (by decide)) (HTA.out.ne hss0 (by decide)) _ (sl R.items[i].2.g R.sz))).drew)
          have HSB := hide ((HSA.out.kept (hkM _ HQA.out.uM HQA.out.uS (HSA.out.ne hms0 (by decide)) (HSA.out.ne hss0 (by decide)) _ (sl R.items[i].2.g R.sz))).drew)
          have HL2 := hide (l2.below (Below.drew (Below.refl _ _)))
          have HL3 := hide ((HGA.out.trans l3).trans (Grow.ofBelow L.U (Below.drew (Below.refl _ _))))
          have HDL : Hid (cntOf R.items i R.items[i].1 + 1 ≤ keptN p R.items[i].1 (S.cache R.items[i].1).length → Down S R { Q with med := updF Q.med R.items[i].1 R.items[i].2, sp := updF Q.sp R.items[i].1 false } (fun k => min (cntOf R.items (i + 1) k) (keptN p k (S.cache k).length))) := hide fun hle => HDN.out.lay HSM.out hlt fun k => by
            rw [cnt_succ _ hlt]
            by_cases e : k = R.items[i].1
            · subst e
              rw [if_pos rfl, if_pos rfl]
              exact Nat.min_eq_left hle
            · rw [if_neg e, if_neg (fun h => e h.symm)]; rfl
          have HDS : Hid (¬ cntOf R.items i R.items[i].1 + 1 ≤ keptN p R.items[i].1 (S.cache R.items[i].1).length → Down S R Q (fun k => min (cntOf R.items (i + 1) k) (keptN p k (S.cache k).length))) := hide fun hle => HDN.out.skip fun k => by
            rw [cnt_succ _ hlt]
            by_cases e : k = R.items[i].1
            · subst e
              rw [if_pos rfl]
              omega
            · rw [if_neg (fun h => e h.symm)]; rfl
          rw [hcast] at HQA HTA HSA HGA HVA t1 z1 HKE d4 d2 d3 k1 o1 o2 b4 b2 b3 o3 o4 k1' HTB HSB HL2 HL3
          have hkn := keptN_le p R.items[i].1 (S.cache R.items[i].1).length
          clear l1 l2 l3 ex hqi hcs0 hms0 hss0 hkM hkA hne hcs1 hcast
          generalize cntOf R.items i R.items[i].1 = cn at *
          generalize keptN p R.items[i].1 (S.cache R.items[i].1).length = kp at *
          generalize R.items[i] = X at *
          obtain ⟨b, pc⟩ := X
          simp only at *
          generalize (S.cache b).length = tl at *
          by_cases hle : cn + 1 ≤ kp
          · have hle2 : (cn : Int) + 1 ≤ (kp : Int) := by omega
            have HDL2 := hide (HDL.out hle)
            go_wp2_with (go_at_call 88; refine HKE.out.mono ?_; rintro e w' ⟨rfl, hw⟩; cases hw)
            go_region_held3 (fun w' => w'.cell? ⟨L.p, 2, none⟩ = some (.slice (some ⟨L.mb, 0, none⟩) R.nb L.mc) ∧ w'.cell? ⟨L.p, 4, none⟩ = some (.slice (some ⟨g, 0, none⟩) R.items.length cc) ∧ w'.cell? ⟨g, i * 2 + 1, none⟩ = some (sl pc.g R.sz))
              (first | exact ⟨d2, d4, k1⟩ | exact ⟨b2, b4, k1'⟩) (fail)
            go_wp2
            go_roundw
            case rel => exact ⟨i + 1, _, by omega, by go_num, HL2.out, HDL2.out, HL3.out, HTB.out, HSB.out⟩
            case measure => simp [intOf]; omega
          · have hle2 : ¬ (cn : Int) + 1 ≤ (kp : Int) := by omega
            have HDS2 := hide (HDS.out hle)
            go_wp2_with (go_at_call 88; refine HKE.out.mono ?_; rintro e w' ⟨rfl, hw⟩; cases hw)
            go_roundw
            case rel => exact ⟨i + 1, Q, by omega, by go_num, HQA.out, HDS2.out, HGA.out, HTA.out, HSA.out⟩
            case measure => simp [intOf]; omega
        · have ei : i = R.items.length := by omega
          obtain ⟨t1, t2, t3⟩ := HQ.out.empty
          have hfin := HDN.out.done HSM.out
          have hal : S.allDown (fun k => min (cntOf R.items i k) (keptN p k (S.cache k).length)) = S.allDown fun k => keptN p k (S.cache k).length := by
            congr 1
            funext k
            have h1 : cntOf R.items i k = (S.cache k).length := by rw [ei, cnt_all, HSM.out.cache k]; simp
            rw [h1]
            exact Nat.min_eq_right (keptN_le _ _ _)
          rw [hal] at hfin
          have hD : RD (wr.setCell ⟨L.p, 4, none⟩ (.slice none 0 0)) { L with cv := .slice none 0 0 } (S.allDown fun k => keptN p k (S.cache k).length) wh := ⟨_, t1, hfin, by show Q.wh = wh; rw [HDN.out.same]; exact HW.out⟩
          have f4 := HQ.out.free 4
          have c5 := hD.cells.1.c5
          have f5 := hD.cells.1.free 5
          obtain ⟨q1, q2, q3⟩ := hD.store 5 (.bool true) false S.fuse S.rd S.wr S.th S.fl wh hD.fz (fun R h1 h2 h3 h4 h5 h6 h7 => by
            have e2 : R.left = S.fuse := h2
            have e3 : R.rd = S.rd := h3
            have e4 : R.wr = S.wr := h4
            have e5 : R.th = S.th := h5
            have e6 : R.fl = S.fl := h6
            simp only [refRow, ← e2, ← e3, ← e4, ← e5, ← e6, ← h7]; rfl)
          have c6 := q1.cells.1.c6
          have f6 := q1.cells.1.free 6
          obtain ⟨x1, x2, x3⟩ := q1.store 6 (.int .i64 (-1)) false (-1) S.rd S.wr S.th S.fl wh ⟨by omega, by omega⟩ (fun R h1 h2 h3 h4 h5 h6 h7 => by
            have e1 : R.on = true := h1
            have e3 : R.rd = S.rd := h3
            have e4 : R.wr = S.wr := h4
            have e5 : R.th = S.th := h5
            have e6 : R.fl = S.fl := h6
            simp only [refRow, e1, ← e3, ← e4, ← e5, ← e6, ← h7]; rfl)
          have HX1 := hide x1
          have HX2 := hide (((HGR.out.trans t2).trans q2).trans x2)
          clear t1 t2 t3 q1 q2 q3 x1 x2 x3 hD hfin hal
          simp only at c5 f5 c6 f6
          go_wp2
          go_end0
          exact ⟨rfl, { L with cv := .slice none 0 0 }, rfl, HX1.out, HX2.out⟩
end Go.Proofs.YtlpmpicmpklaoacGreat
