import Derived.Test.YtlpmpicmpklaoacGreatERefB
import Derived.Test.YtlpmpicmpklaoacGreatDLaw3
namespace Go.Proofs.YtlpmpicmpklaoacGreat
open Go.RowKit Go.Maps Go.Sort
set_option linter.unusedVariables false
set_option linter.unusedSimpArgs false
set_option maxRecDepth 20000

def medVals (sz : Nat) (gs : Nat → Nat) (n : Nat) : List Value := (List.range n).map fun j => sl (gs j) sz
theorem medVals_succ (sz : Nat) (gs : Nat → Nat) (n g : Nat) : medVals sz (updF gs n g) (n + 1) = medVals sz gs n ++ [sl g sz] := by
  unfold medVals
  rw [List.range_succ, List.map_append]
  congr 1
  · apply List.map_congr_left
    intro j hj
    rw [updF_other _ _ (by have := List.mem_range.1 hj; omega)]
  · simp [updF_same]
def newRow2 (nb sz : Nat) (mv sv : Value) : Array Value := #[.int .i64 (nb : Int), .int .i64 (sz : Int), mv, sv, .slice none 0 0, .bool true, .int .i64 (-1), .int .i64 0, .int .i64 0, .int .i64 0, .int .i64 0, .int .i64 (-1)]
structure NwInv (w wr : World) (nb sz i : Nat) (gs : Nat → Nat) (mv sv : Value) : Prop where
  hi : i ≤ nb
  be : Below w.heap.size w wr
  row : wr.heap[w.heap.size]? = some (.cells (newRow2 nb sz mv sv) 72 (0, 0))
  hm : wr.ownsRow w.heap.size 22 1 mv i (medVals sz gs i)
  hs : wr.ownsRow w.heap.size 4 1 sv i (List.replicate i (.bool false))
  pc : ∀ j, j < i → PieceAt wr (gs j) (zeros sz) ∧ w.heap.size ≤ gs j
/-- a block is appended to the medium, and stored -/
theorem NwInv.pushM {w wr w6 : World} {nb sz i g cap gp : Nat} {gs : Nat → Nat} {mv sv : Value} (h : NwInv w wr nb sz i gs mv sv) {wa : World} (hwa : Below wr.heap.size wr wa) (hp : PieceAt wa gp (zeros sz)) (hgp : w.heap.size ≤ gp)
    (ho : w6.ownsRow w.heap.size 22 1 (.slice (some ⟨g, 0, none⟩) (i + 1) cap) (i + 1) (medVals sz gs i ++ [sl gp sz])) (hg : wa.grownBy w6 mv.ownBlock) :
    let w7 := w6.setCell ⟨w.heap.size, 2, none⟩ (.slice (some ⟨g, 0, none⟩) (i + 1) cap)
    Below w.heap.size w w7 ∧ w7.heap[w.heap.size]? = some (.cells (newRow2 nb sz (.slice (some ⟨g, 0, none⟩) (i + 1) cap) sv) 72 (0, 0)) ∧ w7.ownsRow w.heap.size 22 1 (.slice (some ⟨g, 0, none⟩) (i + 1) cap) (i + 1) (medVals sz (updF gs i gp) (i + 1)) ∧ w7.ownsRow w.heap.size 4 1 sv i (List.replicate i (.bool false)) ∧ ∀ j, j < i + 1 → PieceAt w7 (updF gs i gp j) (zeros sz) ∧ w.heap.size ≤ updF gs i gp j := by
  intro w7
  have hs1 := h.be.size
  have hs2 := hwa.size
  have hs3 := hg.size
  have hrowlt := (Array.getElem?_eq_some_iff.1 h.row).1
  have mvc : ∀ b, mv.ownBlock = some b → w.heap.size ≤ b ∧ b < wr.heap.size ∧ ∃ cs, wr.heap[b]? = some (.cells cs 22 (0, 0)) := fun b hb => ⟨(h.hm.lt b hb).1, (h.hm.lt b hb).2, rowCells h.hm hb⟩
  have k6 : ∀ b, b < wa.heap.size → (∀ cs, wa.heap[b]? ≠ some (.cells cs 22 (0, 0))) → w6.heap[b]? = wa.heap[b]? := fun b hb hne => hg.block b hb fun e => by
    obtain ⟨_, h2, cs, h3⟩ := mvc b e.symm
    exact hne cs ((hwa.block b h2).trans h3)
  have old : ∀ b, b < w.heap.size → w6.heap[b]? = w.heap[b]? := fun b hb => by
    rw [hg.block b (by omega) fun e => by have := (mvc b e.symm).1; omega, hwa.block b (by omega)]
    exact h.be.block b hb
  have row6 : w6.heap[w.heap.size]? = some (.cells (newRow2 nb sz mv sv) 72 (0, 0)) := (k6 _ (by omega) (fun cs e => by rw [hwa.block _ hrowlt, h.row] at e; simp at e)).trans ((hwa.block _ hrowlt).trans h.row)
  have k7 : ∀ b, b ≠ w.heap.size → w7.heap[b]? = w6.heap[b]? := fun b hb => Go.heap_setCell_other _ _ _ _ hb
  have pk : ∀ x l, PieceAt wa x l → PieceAt w7 x l := fun x l hx => by
    have e6 : w6.heap[x]? = wa.heap[x]? := k6 x hx.lt (fun cs e => by rw [hx.1] at e; simp at e)
    refine hx.kept ((k7 x fun e => ?_).trans e6)
    have := (e6.trans hx.1)
    rw [e, row6] at this
    simp at this
  refine ⟨⟨hg.os.trans (hwa.os.trans h.be.os), hg.tape.trans (hwa.tape.trans h.be.tape), hg.output.trans (hwa.output.trans h.be.output), by simp [w7, World.setCell]; omega, fun b hb => (k7 b (by omega)).trans (old b hb)⟩, ?_, ?_, ?_, fun j hj => ?_⟩
  · exact Go.heap_setCell_same w6 w.heap.size 2 _ 72 _ row6
  · rw [medVals_succ]
    exact rowKept ho fun b hb => k7 b fun e => by
      obtain ⟨cs, hcs⟩ := rowCells ho hb
      rw [e, row6] at hcs; simp at hcs
  · refine rowKept h.hs fun b hb => ?_
    obtain ⟨cs, hcs⟩ := rowCells h.hs hb
    have hb2 := (h.hs.lt b hb).2
    have e6 : w6.heap[b]? = wa.heap[b]? := k6 b (by omega) (fun ds e => by rw [hwa.block b hb2, hcs] at e; simp at e)
    refine (k7 b fun e => ?_).trans (e6.trans (hwa.block b hb2))
    have := e6.trans ((hwa.block b hb2).trans hcs)
    rw [e, row6] at this; simp at this
  · by_cases e : j = i
    · subst e
      rw [updF_same]
      exact ⟨pk _ _ hp, hgp⟩
    · rw [updF_other _ _ e]
      obtain ⟨a, b⟩ := h.pc j (by omega)
      exact ⟨pk _ _ (a.kept (hwa.block _ a.lt)), b⟩

/-- so is whether it is spoilt -/
theorem NwInv.pushS {w wr w6 : World} {nb sz i g cap : Nat} {gs : Nat → Nat} {mv sv : Value} (hi : i + 1 ≤ nb) (be : Below w.heap.size w wr) (row : wr.heap[w.heap.size]? = some (.cells (newRow2 nb sz mv sv) 72 (0, 0))) (hm : wr.ownsRow w.heap.size 22 1 mv (i + 1) (medVals sz gs (i + 1))) (hs : wr.ownsRow w.heap.size 4 1 sv i (List.replicate i (.bool false)))
    (pc : ∀ j, j < i + 1 → PieceAt wr (gs j) (zeros sz) ∧ w.heap.size ≤ gs j) {wa : World} (hwa : Below wr.heap.size wr wa)
    (ho : w6.ownsRow w.heap.size 4 1 (.slice (some ⟨g, 0, none⟩) (i + 1) cap) (i + 1) (List.replicate i (.bool false) ++ [.bool false])) (hg : wa.grownBy w6 sv.ownBlock) :
    NwInv w (w6.setCell ⟨w.heap.size, 3, none⟩ (.slice (some ⟨g, 0, none⟩) (i + 1) cap)) nb sz (i + 1) gs mv (.slice (some ⟨g, 0, none⟩) (i + 1) cap) := by
  have hs1 := be.size
  have hs2 := hwa.size
  have hs3 := hg.size
  have hrowlt := (Array.getElem?_eq_some_iff.1 row).1
  have svc : ∀ b, sv.ownBlock = some b → w.heap.size ≤ b ∧ b < wr.heap.size ∧ ∃ cs, wr.heap[b]? = some (.cells cs 4 (0, 0)) := fun b hb => ⟨(hs.lt b hb).1, (hs.lt b hb).2, rowCells hs hb⟩
  have k6 : ∀ b, b < wa.heap.size → (∀ cs, wa.heap[b]? ≠ some (.cells cs 4 (0, 0))) → w6.heap[b]? = wa.heap[b]? := fun b hb hne => hg.block b hb fun e => by
    obtain ⟨_, h2, cs, h3⟩ := svc b e.symm
    exact hne cs ((hwa.block b h2).trans h3)
  have old : ∀ b, b < w.heap.size → w6.heap[b]? = w.heap[b]? := fun b hb => by
    rw [hg.block b (by omega) fun e => by have := (svc b e.symm).1; omega, hwa.block b (by omega)]
    exact be.block b hb
  have row6 : w6.heap[w.heap.size]? = some (.cells (newRow2 nb sz mv sv) 72 (0, 0)) := (k6 _ (by omega) (fun cs e => by rw [hwa.block _ hrowlt, row] at e; simp at e)).trans ((hwa.block _ hrowlt).trans row)
  have k7 : ∀ b, b ≠ w.heap.size → (w6.setCell ⟨w.heap.size, 3, none⟩ (.slice (some ⟨g, 0, none⟩) (i + 1) cap)).heap[b]? = w6.heap[b]? := fun b hb => Go.heap_setCell_other _ _ _ _ hb
  have kk : ∀ (b : Nat) (cs : Array Value) (t : TypeId), wr.heap[b]? = some (.cells cs t (0, 0)) → t ≠ 4 → t ≠ 72 → (w6.setCell ⟨w.heap.size, 3, none⟩ (.slice (some ⟨g, 0, none⟩) (i + 1) cap)).heap[b]? = wr.heap[b]? := fun b cs t hb h1 h2 => by
    have hlt := (Array.getElem?_eq_some_iff.1 hb).1
    have ea := hwa.block b hlt
    have e6 : w6.heap[b]? = wa.heap[b]? := k6 b (by omega) (fun ds e => by rw [ea, hb] at e; simp only [Option.some.injEq, Obj.cells.injEq] at e; exact h1 e.2.1)
    refine (k7 b fun e => ?_).trans (e6.trans ea)
    have := e6.trans (ea.trans hb)
    rw [e, row6] at this
    simp only [Option.some.injEq, Obj.cells.injEq] at this
    exact h2 this.2.1.symm
  refine ⟨hi, ⟨hg.os.trans (hwa.os.trans be.os), hg.tape.trans (hwa.tape.trans be.tape), hg.output.trans (hwa.output.trans be.output), by simp [World.setCell]; omega, fun b hb => (k7 b (by omega)).trans (old b hb)⟩, ?_, ?_, ?_, fun j hj => ?_⟩
  · exact Go.heap_setCell_same w6 w.heap.size 3 _ 72 _ row6
  · exact rowKept hm fun b hb => by
      obtain ⟨cs, hcs⟩ := rowCells hm hb
      exact kk b cs _ hcs (by decide) (by decide)
  · rw [List.replicate_succ']
    exact rowKept ho fun b hb => k7 b fun e => by
      obtain ⟨cs, hcs⟩ := rowCells ho hb
      rw [e, row6] at hcs; simp at hcs
  · obtain ⟨a, b⟩ := pc j hj
    exact ⟨a.kept (kk _ _ _ a.1 (by decide) (by decide)), b⟩

/-- the whole is a disk -/
theorem NwInv.done {w wr : World} {nb sz : Nat} {gs : Nat → Nat} {mv sv : Value} (h : NwInv w wr nb sz nb gs mv sv) (hn1 : 1 ≤ nb) (hn2 : nb ≤ 8192) (hs : sz = 128 ∨ sz = 256 ∨ sz = 512 ∨ sz = 1024) :
    ∃ L : RLay, L.p = w.heap.size ∧ RD wr L (St.fresh nb sz fun _ => zeros sz) (-1) ∧ ∀ b, L.U b → w.heap.size ≤ b := by
  rcases h.hm.2 with ⟨_, e⟩ | ⟨g1, cap1, cur1, e1, b1, hh1, n1, x1, z1, t1⟩
  · omega
  rcases h.hs.2 with ⟨_, e⟩ | ⟨g2, cap2, cur2, e2, b2, hh2, n2, x2, z2, t2⟩
  · omega
  subst e1 e2
  have hrow := h.row
  have hl : ∀ {g : Nat} {o : Obj}, wr.heap[g]? = some o → g < wr.heap.size := fun h => (Array.getElem?_eq_some_iff.1 h).1
  refine ⟨⟨w.heap.size, g1, cap1, g2, cap2, .slice none 0 0, fun b => w.heap.size ≤ b ∧ b < wr.heap.size⟩, rfl, ⟨⟨nb, sz, fun k => ⟨gs k, zeros sz⟩, fun _ => false, [], true, -1, 0, 0, 0, 0, -1⟩, ?_, ?_, rfl⟩, fun b hb => hb.1⟩
  · refine ⟨hn1, hn2, hs, ⟨by show (-9223372036854775808 : Int) ≤ -1; omega, by show (-1 : Int) ≤ 9223372036854775807; omega⟩, hrow, ⟨cur1, hh1, by simpa using z1, fun i hi => ?_⟩, ⟨n1, x1⟩, ⟨cur2, hh2, by simpa using z2, fun i hi => ?_⟩, ⟨n2, x2⟩, fun i hi => ?_, World.ownsRow_nil _ _ _ _, by simp [Value.ownBlock], by simp, ⟨Nat.le_refl _, hl hrow⟩, ⟨b1, hl hh1⟩, ⟨b2, hl hh2⟩, fun b hb => hb.2⟩
    · have : (medVals sz gs nb)[i]? = some (sl (gs i) sz) := by simp [medVals, hi]
      rw [← t1, List.getElem?_take] at this
      split at this
      · rw [← Array.getElem?_toList]; exact this
      · simp at this
    · have : (List.replicate nb (Value.bool false))[i]? = some (.bool false) := by simp [hi]
      rw [← t2, List.getElem?_take] at this
      split at this
      · rw [← Array.getElem?_toList]; exact this
      · simp at this
    · obtain ⟨a, b⟩ := h.pc i hi
      exact ⟨a, zeros_len _, b, a.lt⟩
  · exact ⟨rfl, rfl, rfl, rfl, rfl, rfl, rfl, rfl, fun k => rfl, fun k => rfl⟩

set_option maxHeartbeats 1000000 in
theorem rNew (w : World) (n s : Int) (hn : i64ok n) (hs : i64ok s) :
    Calls Tryz.prog 19 #[.int .i64 n, .int .i64 s] w fun e w' => (goodGeo n s = false → e = .returned (.tuple #[.pointer none, .int .i64 1]) ∧ w' = w) ∧
      (goodGeo n s = true → ∃ L : RLay, e = .returned (.tuple #[PR L, .int .i64 0]) ∧ RD w' L (St.fresh n.toNat s.toNat fun _ => zeros s.toNat) (-1) ∧ Below w.heap.size w w' ∧ ∀ b, L.U b → w.heap.size ≤ b) := by
  obtain ⟨i0, hi, hz0, hz1, hz2⟩ := info_parts info_bytes
  obtain ⟨j0, hj, hy0, hy1, hy2⟩ := info_parts info_bool
  have HSI := hide (fun w => sizes_any w s hs)
  obtain ⟨n1, n2⟩ := hn
  obtain ⟨s1, s2⟩ := hs
  cases hgg : goodGeo n s with
  | false =>
    have hbad : ¬ (1 ≤ n ∧ n ≤ 8192 ∧ (s = 128 ∨ s = 256 ∨ s = 512 ∨ s = 1024)) := of_decide_eq_false hgg
    by_cases g1 : n < 1
    · go_enter Tryz.func19, Tryz.ntmps19
      go_wp2_with (go_at_call 40; refine (HSI.out _).mono ?_; rintro e w' ⟨rfl, hw⟩; cases hw)
      go_ret2
      exact ⟨fun _ => ⟨rfl, rfl⟩, fun h => by simp at h⟩
    · by_cases g2 : 8192 < n
      · go_enter Tryz.func19, Tryz.ntmps19
        go_wp2_with (go_at_call 40; refine (HSI.out _).mono ?_; rintro e w' ⟨rfl, hw⟩; cases hw)
        go_ret2
        exact ⟨fun _ => ⟨rfl, rfl⟩, fun h => by simp at h⟩
      · have hd : decide (s = 128 ∨ s = 256 ∨ s = 512 ∨ s = 1024) = false := decide_eq_false fun h => hbad ⟨by omega, by omega, h⟩
        rw [hd] at HSI
        clear hbad
        go_enter Tryz.func19, Tryz.ntmps19
        go_wp2_with (go_at_call 40; refine (HSI.out _).mono ?_; rintro e w' ⟨rfl, hw⟩; cases hw)
        go_ret2
        exact ⟨fun _ => ⟨rfl, rfl⟩, fun h => by simp at h⟩
  | true =>
    have hgg' := of_decide_eq_true hgg
    obtain ⟨nb, rfl⟩ : ∃ nb : Nat, n = (nb : Int) := ⟨n.toNat, by omega⟩
    obtain ⟨sz, rfl⟩ : ∃ sz : Nat, s = (sz : Int) := ⟨s.toNat, by omega⟩
    have hn1 : 1 ≤ nb := by omega
    have hn2 : nb ≤ 8192 := by omega
    have hszz : sz = 128 ∨ sz = 256 ∨ sz = 512 ∨ sz = 1024 := by omega
    have hd : decide ((sz : Int) = 128 ∨ (sz : Int) = 256 ∨ (sz : Int) = 512 ∨ (sz : Int) = 1024) = true := decide_eq_true (by omega)
    rw [hd] at HSI
    have hs0 : sz ≤ 1024 := by omega
    have hs1 : 128 ≤ sz := by omega
    have HSZ := hide hszz
    obtain ⟨Z, hZ⟩ : ∃ Z, ((zeros sz).map byteV).toArray = Z := ⟨_, rfl⟩
    have HZ := hide hZ
    have hmk := run_zeros sz (by omega) Z HZ
    clear hZ hszz hd hgg'
    go_enter Tryz.func19, Tryz.ntmps19
    go_wp2_with (go_at_call 40; refine (HSI.out _).mono ?_; rintro e w' ⟨rfl, hw⟩; cases hw)
    go_loopw [8] (fun x wr => ∃ (i : Nat) (gs : Nat → Nat) (mv sv : Value), x = .int .i64 (i : Int) ∧ NwInv w wr nb sz i gs mv sv) (fun x _ => nb - (intOf x).toNat)
    case atStart => exact ⟨0, fun _ => 0, .slice none 0 0, .slice none 0 0, rfl, ⟨Nat.zero_le _, (Below.refl _ _).alloc (Nat.le_refl _) _, Go.heap_alloc_new w _, World.ownsRow_nil _ _ _ _, World.ownsRow_nil _ _ _ _, fun j hj => absurd hj (Nat.not_lt_zero _)⟩⟩
    case round =>
      obtain ⟨i, gs, mv, sv, rfl, hI⟩ := hrel
      have HI := hide hI
      have hin := hI.hi
      clear hI
      by_cases hlt : i < nb
      · obtain ⟨am, cm, em, hm1, hm2⟩ := rowForm HI.out.hm
        subst em
        obtain ⟨av, cv, ev, hv1, hv2⟩ := rowForm HI.out.hs
        subst ev
        have c2 : wr.cell? ⟨w.heap.size, 2, none⟩ = some (.slice am i cm) := by rw [cell_of_row _ _ _ _ _ _ HI.out.row]; rfl
        have HRW := hide HI.out.row
        have hrl := (Array.getElem?_eq_some_iff.1 HI.out.row).1
        have hsz := HI.out.be.size
        have HMM := hide (HI.out.hm)
        have c2z : (wr.alloc (.cells Z 5)).cell? ⟨w.heap.size, 2, none⟩ = some (.slice am i cm) := by rw [cell_of_row _ _ _ _ _ _ ((Below.heap_alloc wr _ _ hrl).trans HI.out.row)]; rfl
        have hb2 := ((Below.refl wr.heap.size wr).alloc (Nat.le_refl _) (.cells Z 5)).alloc (by simp) (.cells #[sl wr.heap.size sz] 22)
        have c2y : ((wr.alloc (.cells Z 5)).alloc (.cells #[sl wr.heap.size sz] 22)).cell? ⟨w.heap.size, 2, none⟩ = some (.slice am i cm) := by rw [cell_of_row _ _ _ _ _ _ ((hb2.block _ hrl).trans HI.out.row)]; rfl
        have HB2 := hide (Below.drew hb2)
        have HHC : Hid (((wr.alloc (.cells Z 5)).alloc (.cells #[sl wr.heap.size sz] 22)).drew.ownsRow w.heap.size 22 1 (.slice am i cm) i (medVals sz gs i)) := hide (rowKept HI.out.hm fun g hg => hb2.block g (HI.out.hm.lt g hg).2)
        have HPZ : Hid (PieceAt ((wr.alloc (.cells Z 5)).alloc (.cells #[sl wr.heap.size sz] 22)).drew wr.heap.size (zeros sz)) := hide
          ⟨by rw [HZ.out]; exact (Below.heap_alloc (wr.alloc (.cells Z 5)) _ wr.heap.size (by simp)).trans (Go.heap_alloc_new wr _), zeros_lt _, by rw [zeros_len]; unfold maxLen; omega, by rw [zeros_len]; omega⟩
        have HRC : Hid (∀ w6, ((wr.alloc (.cells Z 5)).alloc (.cells #[sl wr.heap.size sz] 22)).drew.grownBy w6 (Value.slice am i cm).ownBlock → w6.cell? ⟨w.heap.size, 2, none⟩ = some (.slice am i cm) ∧ w6.frozen? ⟨w.heap.size, 2, none⟩ = false) := hide fun w6 hg => by
          have hr6 : w6.heap[w.heap.size]? = some (.cells (newRow2 nb sz (.slice am i cm) (.slice av i cv)) 72 (0, 0)) := (hg.block _ (by have := HB2.out.size; omega) fun e => by
            obtain ⟨cs, hcs⟩ := rowCells HHC.out e.symm
            rw [HB2.out.block _ hrl, HRW.out] at hcs; simp at hcs).trans ((HB2.out.block _ hrl).trans HRW.out)
          exact ⟨by rw [cell_of_row _ _ _ _ _ _ hr6]; rfl, frozen_of_row _ _ _ _ 72 hr6⟩
        clear hb2
        go_wp2_with fail
        go_region_law (refine step_append_lies _ rfl (.tmp 34) (.tmp 37) 33 rfl w.heap.size 22 i0 (.slice none 0 0) 1 24 Tryz.underlying33 hi hz0 hz1 hz2 rfl (by decide) (.slice am i cm) i (medVals sz gs i) rfl HHC.out ⟨wr.heap.size + 1, 0, none⟩ 1 1 [sl wr.heap.size sz] rfl rfl (by have := cell_one_new (wr.alloc (.cells Z 5)) (sl wr.heap.size sz) 22; simpa using this) (by simp [Value.oneCell']) (by decide) (by unfold maxLen; omega) (by omega) (by have := HB2.out.size; omega) (wr.heap.size + 2) (by simp) ?_; intro g cap w6 ho6 hg6 hloc6 hlt6; obtain ⟨k6, f6⟩ := HRC.out w6 hg6; have HO6 := hide ho6; have HG6 := hide hg6; clear ho6 hg6 hloc6 hlt6)
        all_goals
          obtain ⟨p1, p2, p3, p4, p5⟩ := HI.out.pushM HB2.out HPZ.out (by omega) HO6.out HG6.out
          have c3 : (w6.setCell ⟨w.heap.size, 2, none⟩ (.slice (some ⟨g, 0, none⟩) (i + 1) cap)).cell? ⟨w.heap.size, 3, none⟩ = some (.slice av i cv) := by rw [cell_of_row _ _ _ _ _ _ p2]; rfl
          have HP1 := hide p1
          have HP2 := hide p2
          have HP3 := hide p3
          have HP4 := hide p4
          have HP5 := hide p5
          clear p1 p2 p3 p4 p5
          have HRL : Hid (w.heap.size < (w6.setCell ⟨w.heap.size, 2, none⟩ (.slice (some ⟨g, 0, none⟩) (i + 1) cap)).heap.size) := hide (Array.getElem?_eq_some_iff.1 HP2.out).1
          generalize hW7 : w6.setCell ⟨w.heap.size, 2, none⟩ (.slice (some ⟨g, 0, none⟩) (i + 1) cap) = w7 at *
          have HW7 := hide hW7
          clear hW7
          have r3a := HP4.out.alloc (.cells #[.bool false] 4)
          go_wp2_with (first
            | (at_builtin; refine wpList_append_own_at _ rfl (.tmp 45) (.tmp 46) 67 rfl w.heap.size 4 j0 (.bool false) 1 1 Tryz.underlying67 hj hy0 hy1 hy2 rfl (by decide) _ _ _ rfl r3a ⟨w7.heap.size, 0, none⟩ 1 1 [.bool false] rfl rfl (cell_one_new _ _ _) (by simp [Value.oneCell']) (by unfold maxLen; omega) (by omega) (by have := HRL.out; simp; omega) ?_)
            | (rw [HW7.out]))
          intro sv' w9 ho9 hg9 hn9 hloc9
          obtain ⟨a9, c9, e9, -, -⟩ := rowForm ho9
          subst e9
          obtain ⟨g9, rfl, -⟩ := rowAt ho9 (by omega)
          have hb9 := (Below.refl w7.heap.size w7).alloc (Nat.le_refl _) (.cells #[.bool false] 4)
          have hr9 : w9.heap[w.heap.size]? = some (.cells (newRow2 nb sz (.slice (some ⟨g, 0, none⟩) (i + 1) cap) (.slice av i cv)) 72 (0, 0)) := (hg9.block _ (by have := HRL.out; simp; omega) fun e => by
            obtain ⟨cs, hcs⟩ := rowCells r3a e.symm
            rw [hb9.block _ HRL.out, HP2.out] at hcs; simp at hcs).trans ((hb9.block _ HRL.out).trans HP2.out)
          have k9 : w9.cell? ⟨w.heap.size, 3, none⟩ = some (.slice av i cv) := by rw [cell_of_row _ _ _ _ _ _ hr9]; rfl
          have f9 : w9.frozen? ⟨w.heap.size, 3, none⟩ = false := frozen_of_row _ _ _ _ 72 hr9
          have HNX := hide (NwInv.pushS (by omega) HP1.out HP2.out HP3.out HP4.out HP5.out hb9 ho9 hg9)
          clear ho9 hg9 hn9 hloc9 hr9 hb9 r3a
          go_wp2
          go_roundw
          case rel => exact ⟨i + 1, _, _, _, by go_num, HNX.out⟩
          case measure => simp [intOf]; omega
      · have e : i = nb := by omega
        subst e
        obtain ⟨L, hL, hD, hU⟩ := HI.out.done hn1 hn2 HSZ.out
        have HD := hide hD
        have HU := hide hU
        have HBE := hide HI.out.be
        have HL := hide hL
        clear hD hU hL
        go_wp2
        go_ret2
        refine ⟨fun h => by simp at h, fun _ => ⟨L, by unfold PR; rw [HL.out]; rfl, ?_, HBE.out, HU.out⟩⟩
        simpa using HD.out
end Go.Proofs.YtlpmpicmpklaoacGreat
