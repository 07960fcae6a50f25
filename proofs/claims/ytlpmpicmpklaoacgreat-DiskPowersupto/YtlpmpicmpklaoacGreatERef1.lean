import Derived.Test.YtlpmpicmpklaoacGreatEBase
namespace Go.Proofs.YtlpmpicmpklaoacGreat
open Go.RowKit Go.Maps
set_option linter.unusedVariables false
set_option linter.unusedSimpArgs false
set_option maxRecDepth 20000

/-- the document's disk says of itself what the program's does -/
structure Sim (S : St) (R : RSt) : Prop where
  nb : R.nb = S.nb
  sz : R.sz = S.sz
  on : R.on = !S.off
  left : R.left = S.fuse
  rd : R.rd = S.rd
  wr : R.wr = S.wr
  th : R.th = S.th
  fl : R.fl = S.fl
  cache : ∀ k, S.cache k = (R.items.filter fun x => x.1 == k).map fun x => x.2.l
  med : ∀ k, S.med k = if R.sp k then none else some (R.med k).l
def RD (w : World) (L : RLay) (S : St) (wh : Int) : Prop := ∃ R, RRep w L R ∧ Sim S R ∧ R.wh = wh
theorem RD.below {w w' : World} {L : RLay} {S : St} {wh : Int} (h : RD w L S wh) (hb : Below w.heap.size w w') : RD w' L S wh := by
  obtain ⟨R, h1, h2⟩ := h
  exact ⟨R, h1.below hb, h2⟩
theorem RD.kept {w w' : World} {L : RLay} {S : St} {wh : Int} (h : RD w L S wh) (hk : ∀ b, L.U b → w'.heap[b]? = w.heap[b]?) (hs : w.heap.size ≤ w'.heap.size) : RD w' L S wh := by
  obtain ⟨R, h1, h2⟩ := h
  exact ⟨R, h1.kept hk hs, h2⟩
theorem RD.uLt {w : World} {L : RLay} {S : St} {wh : Int} (h : RD w L S wh) : ∀ b, L.U b → b < w.heap.size := by
  obtain ⟨R, h1, h2⟩ := h
  exact h1.uLt
theorem RD.nb {w : World} {L : RLay} {S : St} {wh : Int} (h : RD w L S wh) : 1 ≤ S.nb ∧ S.nb ≤ 8192 := by
  obtain ⟨R, h1, h2, _⟩ := h
  rw [← h2.nb]; exact ⟨h1.nb1, h1.nb2⟩
theorem RD.szs {w : World} {L : RLay} {S : St} {wh : Int} (h : RD w L S wh) : S.sz = 128 ∨ S.sz = 256 ∨ S.sz = 512 ∨ S.sz = 1024 := by
  obtain ⟨R, h1, h2, _⟩ := h
  rw [← h2.sz]; exact h1.szs
/-- the plain fields -/
structure RCells (w : World) (L : RLay) (S : St) : Prop where
  c0 : w.cell? ⟨L.p, 0, none⟩ = some (.int .i64 (S.nb : Int))
  c1 : w.cell? ⟨L.p, 1, none⟩ = some (.int .i64 (S.sz : Int))
  c2 : w.cell? ⟨L.p, 2, none⟩ = some (.slice (some ⟨L.mb, 0, none⟩) S.nb L.mc)
  c3 : w.cell? ⟨L.p, 3, none⟩ = some (.slice (some ⟨L.sb, 0, none⟩) S.nb L.sc)
  c4 : w.cell? ⟨L.p, 4, none⟩ = some L.cv
  c5 : w.cell? ⟨L.p, 5, none⟩ = some (.bool (!S.off))
  c6 : w.cell? ⟨L.p, 6, none⟩ = some (.int .i64 S.fuse)
  c7 : w.cell? ⟨L.p, 7, none⟩ = some (.int .i64 S.rd)
  c8 : w.cell? ⟨L.p, 8, none⟩ = some (.int .i64 S.wr)
  c9 : w.cell? ⟨L.p, 9, none⟩ = some (.int .i64 S.th)
  c10 : w.cell? ⟨L.p, 10, none⟩ = some (.int .i64 S.fl)
  free : ∀ i, w.frozen? ⟨L.p, i, none⟩ = false
theorem RD.cells {w : World} {L : RLay} {S : St} {wh : Int} (h : RD w L S wh) : RCells w L S ∧ w.cell? ⟨L.p, 11, none⟩ = some (.int .i64 wh) := by
  obtain ⟨R, h1, h2, h3⟩ := h
  have e : refRow L R = #[.int .i64 (S.nb : Int), .int .i64 (S.sz : Int), .slice (some ⟨L.mb, 0, none⟩) S.nb L.mc, .slice (some ⟨L.sb, 0, none⟩) S.nb L.sc, L.cv, .bool (!S.off), .int .i64 S.fuse, .int .i64 S.rd, .int .i64 S.wr, .int .i64 S.th, .int .i64 S.fl, .int .i64 wh] := by
    unfold refRow
    rw [h2.nb, h2.sz, h2.on, h2.left, h2.rd, h2.wr, h2.th, h2.fl, h3]
  have hc := fun i => h1.cell i
  simp only [e] at hc
  exact ⟨⟨hc 0, hc 1, hc 2, hc 3, hc 4, hc 5, hc 6, hc 7, hc 8, hc 9, hc 10, h1.free⟩, hc 11⟩
/-- a plain field is written -/
theorem RD.store {w : World} {L : RLay} {S : St} {wh : Int} (h : RD w L S wh) (i : Nat) (v : Value) (o : Bool) (f a b c d e : Int) (hf : -9223372036854775808 ≤ f ∧ f ≤ 9223372036854775807)
    (hrow : ∀ R : RSt, R.on = (!S.off) → R.left = S.fuse → R.rd = S.rd → R.wr = S.wr → R.th = S.th → R.fl = S.fl → R.wh = wh → (refRow L R).setIfInBounds i v = refRow L { R with on := !o, left := f, rd := a, wr := b, th := c, fl := d, wh := e }) :
    RD (w.setCell ⟨L.p, i, none⟩ v) L { S with off := o, fuse := f, rd := a, wr := b, th := c, fl := d } e ∧ Grow w (w.setCell ⟨L.p, i, none⟩ v) L.U L.U ∧ (w.setCell ⟨L.p, i, none⟩ v).heap.size = w.heap.size := by
  obtain ⟨R, h1, h2, h3⟩ := h
  obtain ⟨k1, k2, k3⟩ := h1.store i v (!o) f a b c d e hf (hrow R h2.on h2.left h2.rd h2.wr h2.th h2.fl h3)
  exact ⟨⟨_, k1, ⟨h2.nb, h2.sz, rfl, rfl, rfl, rfl, rfl, rfl, h2.cache, h2.med⟩, rfl⟩, k2, k3⟩
theorem RD.fz {w : World} {L : RLay} {S : St} {wh : Int} (h : RD w L S wh) : -9223372036854775808 ≤ S.fuse ∧ S.fuse ≤ 9223372036854775807 := by
  obtain ⟨R, h1, h2, _⟩ := h
  rw [← h2.left]; exact h1.lf
/-- the error's block -/
theorem RD.where_ {w : World} {L : RLay} {S : St} {wh : Int} (h : RD w L S wh) (e : Int) : RD (w.setCell ⟨L.p, 11, none⟩ (.int .i64 e)) L S e ∧ Grow w (w.setCell ⟨L.p, 11, none⟩ (.int .i64 e)) L.U L.U := by
  obtain ⟨k1, k2, k3⟩ := h.store 11 (.int .i64 e) S.off S.fuse S.rd S.wr S.th S.fl e h.fz (fun R h1 h2 h3 h4 h5 h6 h7 => by simp only [refRow, ← h1, ← h2, ← h3, ← h4, ← h5, ← h6]; rfl)
  exact ⟨k1, k2⟩

theorem sizes_any (w : World) (n : Int) (hn : -9223372036854775808 ≤ n ∧ n ≤ 9223372036854775807) : Calls Tryz.prog 40 #[.int .i64 n] w fun e w' => e = .returned (.bool (decide (n = 128 ∨ n = 256 ∨ n = 512 ∨ n = 1024))) ∧ w' = w := by
  by_cases h1 : n = 128
  · subst h1
    go_enter Tryz.func40, Tryz.ntmps40
    go_wp2
    go_ret
    exact ⟨rfl, rfl⟩
  · by_cases h2 : n = 256
    · subst h2
      go_enter Tryz.func40, Tryz.ntmps40
      go_wp2
      go_ret
      exact ⟨rfl, rfl⟩
    · by_cases h3 : n = 512
      · subst h3
        go_enter Tryz.func40, Tryz.ntmps40
        go_wp2
        go_ret
        exact ⟨rfl, rfl⟩
      · have e : decide (n = 128 ∨ n = 256 ∨ n = 512 ∨ n = 1024) = decide (n = 1024) := by simp [h1, h2, h3]
        rw [e]
        by_cases h4 : n = 1024
        · subst h4
          go_enter Tryz.func40, Tryz.ntmps40
          go_wp2
          go_ret
          exact ⟨rfl, rfl⟩
        · go_enter Tryz.func40, Tryz.ntmps40
          go_wp2
          go_ret
          simp [h1, h2, h3, h4]

theorem rthere {w : World} {L : RLay} {S : St} {wh : Int} (h : RD w L S wh) (b : Int) :
    Calls Tryz.prog 68 #[PR L, .int .i64 b] w fun e w' => e = .returned (.bool (decide (0 ≤ b ∧ b < S.nb))) ∧ w' = w := by
  have c0 := h.cells.1.c0
  unfold PR
  by_cases h1 : 0 ≤ b <;> by_cases h2 : b < S.nb
  all_goals
    go_enter Tryz.func68, Tryz.ntmps68
    go_wp2
    go_ret
    simp [h1, h2]
theorem rfine {w : World} {L : RLay} {S : St} {wh : Int} (h : RD w L S wh) :
    Calls Tryz.prog 71 #[PR L] w fun e w' => e = .returned (.int .i64 0) ∧ RD w' L S (-1) ∧ Grow w w' L.U L.U := by
  have c := h.cells.2
  have f := h.cells.1.free 11
  have H := hide (h.where_ (-1))
  unfold PR
  clear h
  go_enter Tryz.func71, Tryz.ntmps71
  go_wp2
  go_ret
  exact ⟨rfl, H.out⟩
theorem rrefuse {w : World} {L : RLay} {S : St} {wh : Int} (h : RD w L S wh) (n b : Int) :
    Calls Tryz.prog 80 #[PR L, .int .i64 n, .int .i64 b] w fun e w' => e = .returned (.int .i64 n) ∧ RD w' L S b ∧ Grow w w' L.U L.U := by
  have c := h.cells.2
  have f := h.cells.1.free 11
  have H := hide (h.where_ b)
  unfold PR
  clear h
  go_enter Tryz.func80, Tryz.ntmps80
  go_wp2
  go_ret
  exact ⟨rfl, H.out⟩
theorem rnone {w : World} {L : RLay} {S : St} {wh : Int} (h : RD w L S wh) (n b : Int) :
    Calls Tryz.prog 69 #[PR L, .int .i64 n, .int .i64 b] w fun e w' => e = .returned (.tuple #[nilS, .int .i64 n]) ∧ RD w' L S b ∧ Grow w w' L.U L.U := by
  have c := h.cells.2
  have f := h.cells.1.free 11
  have H := hide (h.where_ b)
  unfold PR
  clear h
  go_enter Tryz.func69, Tryz.ntmps69
  go_wp2
  go_ret2
  exact ⟨rfl, H.out⟩
theorem rOn {w : World} {L : RLay} {S : St} {wh : Int} (h : RD w L S wh) :
    Calls Tryz.prog 46 #[PR L] w fun e w' => e = .returned (.bool (!S.off)) ∧ w' = w := by
  have c := h.cells.1.c5
  unfold PR
  clear h
  go_enter Tryz.func46, Tryz.ntmps46
  go_wp2
  go_ret
  exact ⟨rfl, rfl⟩
theorem rGeometry {w : World} {L : RLay} {S : St} {wh : Int} (h : RD w L S wh) :
    Calls Tryz.prog 50 #[PR L] w fun e w' => e = .returned (.tuple #[.int .i64 (S.nb : Int), .int .i64 (S.sz : Int)]) ∧ ∃ n, w' = w.drewN n := by
  have c0 := h.cells.1.c0
  have c1 := h.cells.1.c1
  unfold PR
  clear h
  go_enter Tryz.func50, Tryz.ntmps50
  go_wp2
  go_quiet (fail)
  go_wp2
  go_ret2
  exact ⟨rfl, _, rfl⟩
theorem rCounts {w : World} {L : RLay} {S : St} {wh : Int} (h : RD w L S wh) :
    Calls Tryz.prog 48 #[PR L] w fun e w' => e = .returned (.agg #[.int .i64 S.rd, .int .i64 S.wr, .int .i64 S.th, .int .i64 S.fl]) ∧ Below w.heap.size w w' := by
  have c7 := h.cells.1.c7
  have c8 := h.cells.1.c8
  have c9 := h.cells.1.c9
  have c10 := h.cells.1.c10
  have hlt := World.block_lt_of_cell? w _ c7
  unfold PR
  clear h
  go_enter Tryz.func48, Tryz.ntmps48
  go_wp2
  exact bodyPost_ret (v := .agg #[.int .i64 S.rd, .int .i64 S.wr, .int .i64 S.th, .int .i64 S.fl]) (results_cell_row rfl _ _ w.heap.size 70 _ (0, 0) _ rfl (Go.heap_alloc_new w _) Tryz.underlying70 rfl (by kernel_rfl)) rfl ⟨rfl, (Below.refl _ _).alloc (Nat.le_refl _) _⟩
theorem Geometry_any {w : World} {L : Lay} {S : St} (hR : Rep w L S) :
    Calls Tryz.prog 49 #[PD L] w fun e w' => e = .returned (.tuple #[.int .i64 (S.nb : Int), .int .i64 (S.sz : Int)]) ∧ ∃ n, w' = w.drewN n := by
  have c0 : w.cell? ⟨L.p, 0, none⟩ = some (.int .i64 (S.nb : Int)) := rcell (U' := L.U) hR 0
  have c1 : w.cell? ⟨L.p, 1, none⟩ = some (.int .i64 (S.sz : Int)) := rcell (U' := L.U) hR 1
  unfold PD
  clear hR
  go_enter Tryz.func49, Tryz.ntmps49
  go_wp2
  go_quiet (fail)
  go_wp2
  go_ret2
  exact ⟨rfl, _, rfl⟩
theorem rFuse {w : World} {L : RLay} {S : St} {wh : Int} (h : RD w L S wh) (n : Int) (hn : -9223372036854775808 ≤ n ∧ n ≤ 9223372036854775807) :
    Calls Tryz.prog 62 #[PR L, .int .i64 n] w fun e w' => e = .returned (.tuple #[]) ∧ RD w' L (S.fused n) wh ∧ Grow w w' L.U L.U := by
  obtain ⟨n1, n2⟩ := hn
  have c := h.cells.1.c6
  have f := h.cells.1.free 6
  have H := hide h
  have fz := h.fz
  unfold PR
  clear h
  have row : ∀ (R : RSt) (f : Int), R.on = (!S.off) → R.left = S.fuse → R.rd = S.rd → R.wr = S.wr → R.th = S.th → R.fl = S.fl → R.wh = wh → (refRow L R).setIfInBounds 6 (.int .i64 f) = refRow L { R with on := !S.off, left := f, rd := S.rd, wr := S.wr, th := S.th, fl := S.fl, wh := wh } := fun R f h1 h2 h3 h4 h5 h6 h7 => by simp only [refRow, ← h1, ← h2, ← h3, ← h4, ← h5, ← h6, ← h7]; rfl
  have ROW := hide row
  clear row
  obtain ⟨a1, a2, a3⟩ := H.out.store 6 (.int .i64 n) S.off n S.rd S.wr S.th S.fl wh ⟨n1, n2⟩ (fun R => ROW.out R n)
  have HA1 := hide a1
  have HA2 := hide a2
  have c2 := a1.cells.1.c6
  have f2 := a1.cells.1.free 6
  clear a1 a2 a3
  by_cases hneg : n < 0
  · have e : S.fused n = { S with fuse := -1 } := by simp [St.fused]; omega
    rw [e]
    have row : ∀ (R : RSt), R.on = (!S.off) → R.left = n → R.rd = S.rd → R.wr = S.wr → R.th = S.th → R.fl = S.fl → R.wh = wh → (refRow L R).setIfInBounds 6 (.int .i64 (-1)) = refRow L { R with on := !S.off, left := -1, rd := S.rd, wr := S.wr, th := S.th, fl := S.fl, wh := wh } := fun R h1 h2 h3 h4 h5 h6 h7 => by simp only [refRow, ← h1, ← h2, ← h3, ← h4, ← h5, ← h6, ← h7]; rfl
    obtain ⟨b1, b2, b3⟩ := HA1.out.store 6 (.int .i64 (-1)) S.off (-1) S.rd S.wr S.th S.fl wh ⟨by omega, by omega⟩ row
    have HB1 := hide b1
    have HB2 := hide (HA2.out.trans b2)
    clear b1 b2 b3 row
    go_enter Tryz.func62, Tryz.ntmps62
    go_wp2
    go_end0
    exact ⟨rfl, HB1.out, HB2.out⟩
  · have e : S.fused n = { S with fuse := n } := by simp [St.fused]; omega
    rw [e]
    go_enter Tryz.func62, Tryz.ntmps62
    go_wp2
    go_end0
    exact ⟨rfl, HA1.out, HA2.out⟩

theorem rstep {w : World} {L : RLay} {S : St} {wh : Int} (h : RD w L S wh) :
    Calls Tryz.prog 81 #[PR L] w fun e w' => e = .returned (.bool S.stepOk) ∧ RD w' L S.step wh ∧ Grow w w' L.U L.U ∧ w'.heap.size = w.heap.size := by
  have c5 := h.cells.1.c5
  have c6 := h.cells.1.c6
  have f5 := h.cells.1.free 5
  have f6 := h.cells.1.free 6
  obtain ⟨z1, z2⟩ := h.fz
  have H := hide h
  unfold PR
  clear h
  cases ho : S.off with
  | true =>
    have e1 : S.stepOk = false := by simp [St.stepOk, ho]
    have e2 : S.step = S := by
      unfold St.step
      split
      · cases S; simp_all
      · first | rfl | rw [if_pos ho]
    rw [e1, e2]
    rw [ho] at c5
    clear e1 e2
    go_enter Tryz.func81, Tryz.ntmps81
    go_wp2
    go_ret
    exact ⟨rfl, H.out, Grow.refl _ _, rfl⟩
  | false =>
    rw [ho] at c5
    by_cases h0 : S.fuse = 0
    · have e1 : S.stepOk = false := by simp [St.stepOk, h0]
      have e2 : S.step = { S with off := true } := by simp [St.step, h0]
      rw [e1, e2]
      rw [h0] at c6
      obtain ⟨k1, k2, k3⟩ := H.out.store 5 (.bool false) true S.fuse S.rd S.wr S.th S.fl wh ⟨z1, z2⟩ (fun R h1 h2 h3 h4 h5 h6 h7 => by simp only [refRow, ← h1, ← h2, ← h3, ← h4, ← h5, ← h6, ← h7]; rfl)
      have HK1 := hide k1
      have HK2 := hide k2
      have HK3 := hide k3
      clear k1 k2 k3 e1 e2
      go_enter Tryz.func81, Tryz.ntmps81
      go_wp2
      go_ret
      exact ⟨rfl, HK1.out, HK2.out, HK3.out⟩
    · have e1 : S.stepOk = true := by simp [St.stepOk, h0, ho]
      by_cases h1 : 0 < S.fuse
      · have e2 : S.step = { S with fuse := S.fuse - 1 } := by
          unfold St.step
          rw [if_neg h0, ho, if_neg (by simp), if_pos h1]
        rw [e1, e2]
        obtain ⟨k1, k2, k3⟩ := H.out.store 6 (.int .i64 (S.fuse - 1)) S.off (S.fuse - 1) S.rd S.wr S.th S.fl wh ⟨by omega, by omega⟩ (fun R h1 h2 h3 h4 h5 h6 h7 => by simp only [refRow, ← h1, ← h2, ← h3, ← h4, ← h5, ← h6, ← h7]; rfl)
        have HK1 := hide k1
        have HK2 := hide k2
        have HK3 := hide k3
        clear k1 k2 k3 e1 e2
        go_enter Tryz.func81, Tryz.ntmps81
        go_wp2
        go_ret
        exact ⟨rfl, HK1.out, HK2.out, HK3.out⟩
      · have e2 : S.step = S := by
          unfold St.step
          rw [if_neg h0, ho, if_neg (by simp), if_neg h1]
        rw [e1, e2]
        clear e1 e2
        go_enter Tryz.func81, Tryz.ntmps81
        go_wp2
        go_ret
        exact ⟨rfl, H.out, Grow.refl _ _, rfl⟩

def St.fitErr (S : St) (b : Int) (n : Nat) : Int := if ¬ (0 ≤ b ∧ b < S.nb) then 2 else if n ≠ S.sz then 3 else 0
theorem rfits {w : World} {L : RLay} {S : St} {wh : Int} (h : RD w L S wh) (b : Int) (v : Value) {l : List Nat} (hv : BSl w v l) :
    Calls Tryz.prog 79 #[PR L, .int .i64 b, v] w fun e w' => e = .returned (.int .i64 (S.fitErr b l.length)) ∧ w' = w := by
  have c1 := h.cells.1.c1
  have H := hide (rthere h b)
  obtain ⟨a, cap, rfl, h1, h2, -⟩ := hv
  have hz : S.sz ≤ 1024 := by have := h.szs; omega
  unfold maxLen at h2
  unfold PR at *
  unfold St.fitErr
  clear h
  by_cases hb : 0 ≤ b ∧ b < S.nb
  · have e : decide (0 ≤ b ∧ b < S.nb) = true := decide_eq_true hb
    rw [e] at H
    rw [if_neg (not_not_intro hb)]
    clear e
    by_cases hl : l.length = S.sz
    · rw [if_neg (not_not_intro hl)]
      rw [← hl] at c1
      go_enter Tryz.func79, Tryz.ntmps79
      go_wp2_with (go_at_call 68; refine H.out.mono ?_; rintro e w' ⟨rfl, hw⟩; cases hw)
      go_ret
      exact ⟨rfl, rfl⟩
    · rw [if_pos hl]
      have hl2 : ¬ (l.length : Int) = (S.sz : Int) := by omega
      go_enter Tryz.func79, Tryz.ntmps79
      go_wp2_with (go_at_call 68; refine H.out.mono ?_; rintro e w' ⟨rfl, hw⟩; cases hw)
      go_ret
      exact ⟨rfl, rfl⟩
  · have e : decide (0 ≤ b ∧ b < S.nb) = false := decide_eq_false hb
    rw [e] at H
    rw [if_pos hb]
    go_enter Tryz.func79, Tryz.ntmps79
    go_wp2_with (go_at_call 68; refine H.out.mono ?_; rintro e w' ⟨rfl, hw⟩; cases hw)
    go_ret
    exact ⟨rfl, rfl⟩
theorem rSpoil {w : World} {L : RLay} {S : St} {wh : Int} (h : RD w L S wh) (b : Int) :
    Calls Tryz.prog 60 #[PR L, .int .i64 b] w fun e w' => e = .returned (.int .i64 (S.spoilErr b)) ∧ RD w' L (S.spoil b) (if S.spoilErr b = 0 then -1 else b) ∧ Grow w w' L.U L.U := by
  have H := hide (rthere h b)
  have HD := hide h
  unfold PR at *
  by_cases hb : 0 ≤ b ∧ b < S.nb
  · have e1 : S.spoilErr b = 0 := if_pos hb
    have e2 : S.spoil b = { S with med := updF S.med b.toNat none } := if_pos hb
    rw [e1, e2]
    obtain ⟨k, rfl⟩ : ∃ k : Nat, b = (k : Int) := ⟨b.toNat, by omega⟩
    have hk : k < S.nb := by omega
    have e : decide (0 ≤ (k : Int) ∧ (k : Int) < S.nb) = true := decide_eq_true hb
    rw [e] at H
    obtain ⟨R, r1, r2, r3⟩ := h
    obtain ⟨m1, m2⟩ := r1.spAt (k := k) (by rw [r2.nb]; exact hk)
    have c3 := HD.out.cells.1.c3
    obtain ⟨k1, k2, k3⟩ := r1.setSp (k := k) (by rw [r2.nb]; exact hk) true
    have HN : Hid (RD (w.setCell ⟨L.sb, k, none⟩ (.bool true)) L { S with med := updF S.med k none } wh) := hide ⟨_, k1, ⟨r2.nb, r2.sz, r2.on, r2.left, r2.rd, r2.wr, r2.th, r2.fl, r2.cache, fun j => by
      show updF S.med k none j = if updF R.sp k true j then none else some (R.med j).l
      by_cases ej : j = k
      · subst ej; simp [updF_same]
      · rw [updF_other _ _ ej, updF_other _ _ ej]; exact r2.med j⟩, r3⟩
    have hnb := HD.out.nb.2
    have HF := hide (rfine HN.out)
    have HG := hide k2
    have hsc := r1.sc
    rw [r2.nb] at hsc
    obtain ⟨hsc1, hsc2⟩ := hsc
    unfold maxLen at hsc2
    unfold PR at HF
    rw [Int.toNat_natCast]
    clear k1 k2 k3 r1 r2 r3 e1 e2 e
    go_enter Tryz.func60, Tryz.ntmps60
    go_wp2_with (first
      | (go_at_call 68; refine H.out.mono ?_; rintro e w' ⟨rfl, hw⟩; cases hw)
      | (go_at_call 71; refine HF.out.mono ?_; rintro e w2 ⟨rfl, hx, hy⟩))
    go_ret
    exact ⟨rfl, hx, HG.out.trans hy⟩
  · have e1 : S.spoilErr b = 2 := if_neg hb
    have e2 : S.spoil b = S := if_neg hb
    have e : decide (0 ≤ b ∧ b < S.nb) = false := decide_eq_false hb
    rw [e] at H
    rw [e1, e2]
    have HR := hide (rrefuse HD.out 2 b)
    unfold PR at HR
    go_enter Tryz.func60, Tryz.ntmps60
    go_wp2_with (first
      | (go_at_call 68; refine H.out.mono ?_; rintro e w' ⟨rfl, hw⟩; cases hw)
      | (go_at_call 80; refine HR.out.mono ?_; rintro e w2 ⟨rfl, hx, hy⟩))
    go_ret
    exact ⟨rfl, hx, hy⟩
end Go.Proofs.YtlpmpicmpklaoacGreat
