import Derived.Test.YtlpmpicmpklaoacGreatERef7
namespace Go.Proofs.YtlpmpicmpklaoacGreat
open Go.RowKit Go.Maps
set_option linter.unusedVariables false
set_option linter.unusedSimpArgs false
set_option maxRecDepth 20000

theorem RD.whAny {w : World} {L : RLay} {S : St} {wh : Int} (h : RD w L S wh) : ∃ R, RRep w L R ∧ Sim S R := by
  obtain ⟨R, h1, h2, _⟩ := h
  exact ⟨R, h1, h2⟩

set_option maxHeartbeats 1000000 in
theorem rFlush {w : World} {L : RLay} {S : St} {wh : Int} (h : RD w L S wh) (hb : ∀ k, (S.cache k).length + 1 ≤ 268435456) :
    Calls Tryz.prog 58 #[PR L] w fun e w' => e = .returned (.int .i64 (if S.stepOk then 0 else 22)) ∧ ∃ L' : RLay, L'.p = L.p ∧ RD w' L' S.flush (-1) ∧ Grow w w' L.U L'.U := by
  obtain ⟨a1, a2⟩ := h.where_ (-1)
  have c11 := h.cells.2
  have f11 := h.cells.1.free 11
  have HG1 := hide a2
  have HS := hide (rstep a1)
  unfold PR at HS
  clear a1 a2 h
  unfold PR
  cases hok : S.stepOk with
  | false =>
    rw [hok] at HS
    have e1 : S.flush = S.step := by rw [St.flush, hok]; rfl
    rw [e1]
    clear e1
    go_enter Tryz.func58, Tryz.ntmps58
    go_wp2_with (go_at_call 81; refine HS.out.mono ?_; rintro e w2 ⟨rfl, hx, hy, hz⟩)
    go_ret
    exact ⟨rfl, L, rfl, hx, HG1.out.trans hy⟩
  | true =>
    rw [hok] at HS
    have e1 : S.flush = (S.step.allDown fun k => (S.cache k).length).addFl := by rw [St.flush, hok]; rfl
    rw [e1]
    clear e1
    go_enter Tryz.func58, Tryz.ntmps58
    go_wp2_with (go_at_call 81; refine HS.out.mono ?_; rintro e w2 ⟨rfl, hx, hy, hz⟩)
    obtain ⟨R, r1, r2, r3⟩ := hx
    have hb2 : ∀ k, (S.step.cache k).length + 1 ≤ 268435456 := fun k => by rw [step_cache]; exact hb k
    have hil := items_lt r1 r2 hb2
    obtain ⟨ac, cc, ec, hc1, hc2⟩ := rowForm r1.hc
    unfold maxLen at hc2
    obtain ⟨m1, m2⟩ := r1.mc
    obtain ⟨s1, s2⟩ := r1.sc
    unfold maxLen at m2 s2
    have hnb := r1.nb2
    have HR2 := hide r1
    have HSM := hide r2
    have HW := hide r3
    have HG2 := hide (HG1.out.trans hy)
    have HCE : Hid (∀ w' Q, RRep w' L Q → Q = { R with med := Q.med, sp := Q.sp } → w'.cell? ⟨L.p, 4, none⟩ = some (.slice ac R.items.length cc) ∧ w'.cell? ⟨L.p, 2, none⟩ = some (.slice (some ⟨L.mb, 0, none⟩) R.nb L.mc) ∧ w'.cell? ⟨L.p, 3, none⟩ = some (.slice (some ⟨L.sb, 0, none⟩) R.nb L.sc)) := hide fun w' Q h' hs => by
      have e4 := h'.cell 4
      have e2 := h'.cell 2
      have e3 := h'.cell 3
      rw [hs] at e2 e3
      exact ⟨by rw [← ec]; exact e4, e2, e3⟩
    have HEC := hide ec
    clear r1 r2 r3 hy hz hb2 ec HS HG1 c11 f11
    go_wp2
    go_loopw [4] (fun x wr => ∃ (i : Nat) (Q : RSt), i ≤ R.items.length ∧ x = .int .i64 (i : Int) ∧ RRep wr L Q ∧ Down S.step R Q (cntOf R.items i) ∧ Grow w wr L.U L.U) (fun x _ => R.items.length - (intOf x).toNat)
    case atStart => exact ⟨0, R, Nat.zero_le _, rfl, HR2.out, Down.start HSM.out (cnt_zero _), HG2.out⟩
    case round =>
      obtain ⟨i, Q, hi', rfl, hQ, hDn, hGr⟩ := hrel
      have HQ := hide hQ
      have HDN := hide hDn
      have HGR := hide hGr
      clear hQ hDn hGr
      obtain ⟨c4, c2, c3⟩ := HCE.out _ _ HQ.out HDN.out.same
      by_cases hlt : i < R.items.length
      · have hqi : i < Q.items.length := by rw [show Q.items = R.items by rw [HDN.out.same]]; exact hlt
        obtain ⟨g, cap, eg, -, -, k0, k1⟩ := HQ.out.itemAt hqi
        have ex : Q.items[i] = R.items[i] := by
          have : Q.items = R.items := by rw [HDN.out.same]
          simp [this]
        have esz : Q.sz = R.sz := by rw [HDN.out.same]
        rw [ex] at k0 k1
        rw [esz] at k1
        have eQ : Q.items.length = R.items.length := by rw [show Q.items = R.items by rw [HDN.out.same]]
        rw [HEC.out] at eg
        simp only [Value.slice.injEq] at eg
        obtain ⟨rfl, -, rfl⟩ := eg
        have HQd := HQ
        obtain ⟨hbk, t1, t2, t3⟩ := HQd.out.layItem HDN.out.same hlt
        have n1 := (HQd.out.medAt (k := R.items[i].1) (by rw [show Q.nb = R.nb by rw [HDN.out.same]]; exact hbk))
        obtain ⟨d4, d2, d3⟩ := HCE.out _ _ t1 (by show _ = _; rw [HDN.out.same])
        have n2 := (t1.spAt (k := R.items[i].1) (by show _ < Q.nb; rw [show Q.nb = R.nb by rw [HDN.out.same]]; exact hbk))
        have HT2 := hide (t2.below (Below.drew (Below.refl _ _)))
        have HT3 := hide ((HGR.out.trans t3).trans (Grow.ofBelow L.U (Below.drew (Below.refl _ _))))
        have HDL : Hid (Down S.step R { Q with med := updF Q.med R.items[i].1 R.items[i].2, sp := updF Q.sp R.items[i].1 false } (cntOf R.items (i + 1))) := hide (HDN.out.lay HSM.out hlt fun k => by
          rw [cnt_succ _ hlt]
          by_cases e : k = R.items[i].1
          · rw [if_pos e, if_pos e.symm]
          · rw [if_neg e, if_neg (fun h => e h.symm)]; rfl)
        obtain ⟨cs0, hcs0⟩ := rowCells HQd.out.hc (g := g) (by rw [HEC.out]; rfl)
        have hg6 : g ≠ L.mb := by
          obtain ⟨ms, hms, _⟩ := HQd.out.hm
          exact neType hcs0 hms (by decide)
        have k1d : wr.cell? ⟨g, i * 2 + 1, none⟩ = some (sl R.items[i].2.g R.sz) := k1
        have k1' := cellOther (i := R.items[i].1) (v := sl R.items[i].2.g R.sz) k1d hg6 ⟨_, _, hcs0⟩
        have c2d : wr.cell? ⟨L.p, 2, none⟩ = some (.slice (some ⟨L.mb, 0, none⟩) R.nb L.mc) := c2
        have c4d : wr.cell? ⟨L.p, 4, none⟩ = some (.slice (some ⟨g, 0, none⟩) R.items.length cc) := c4
        obtain ⟨n1a, n1b⟩ := n1
        obtain ⟨n2a, n2b⟩ := n2
        clear t1 t2 t3 ex eQ hqi hcs0
        generalize R.items[i] = X at *
        obtain ⟨b, pc⟩ := X
        simp only at *
        go_wp2_with fail
        go_region_held3 (fun w' => w'.cell? ⟨L.p, 2, none⟩ = some (.slice (some ⟨L.mb, 0, none⟩) R.nb L.mc) ∧ w'.cell? ⟨L.p, 4, none⟩ = some (.slice (some ⟨g, 0, none⟩) R.items.length cc) ∧ w'.cell? ⟨g, i * 2 + 1, none⟩ = some (sl pc.g R.sz))
          (first | exact ⟨c2d, c4d, k1d⟩ | exact ⟨d2, d4, k1'⟩) (fail)
        go_wp2
        go_roundw
        case rel => exact ⟨i + 1, _, by omega, by go_num, HT2.out, HDL.out, HT3.out⟩
        case measure => simp [intOf]; omega
      · have ei : i = R.items.length := by omega
        obtain ⟨t1, t2, t3⟩ := HQ.out.empty
        have hfin := HDN.out.done HSM.out
        have hal : S.step.allDown (cntOf R.items i) = S.step.allDown fun k => (S.cache k).length := by
          congr 1
          funext k
          rw [ei, cnt_all, ← step_cache S, HSM.out.cache k]; simp
        rw [hal] at hfin
        have hD : RD (wr.setCell ⟨L.p, 4, none⟩ (.slice none 0 0)) { L with cv := .slice none 0 0 } (S.step.allDown fun k => (S.cache k).length) (-1) := ⟨_, t1, hfin, by show Q.wh = -1; rw [HDN.out.same]; exact HW.out⟩
        have f4 := HQ.out.free 4
        have c10 := hD.cells.1.c10
        have f10 := hD.cells.1.free 10
        obtain ⟨q1, q2, q3⟩ := hD.addFl
        have HQ1 := hide q1
        have HQ2 := hide ((HGR.out.trans t2).trans q2)
        clear t1 t2 t3 q1 q2 q3 hD hfin hal
        simp only at c10 f10
        go_wp2
        go_ret
        exact ⟨rfl, { L with cv := .slice none 0 0 }, rfl, HQ1.out, HQ2.out⟩
end Go.Proofs.YtlpmpicmpklaoacGreat
