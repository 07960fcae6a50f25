import Derived.Test.YtepgiomgkgfioaaDoorDRep
namespace Go.Proofs.YtepgiomgkgfioaaDoor.K
open Go.RowKit Go.Maps
set_option linter.unusedVariables false
set_option linter.unusedSimpArgs false

theorem dcell {w : World} {L : Lay} {S : St} (hp : w.heap[L.p]? = some (.cells (diskRow L S) 60 (0, 0))) (i : Nat) : w.cell? ⟨L.p, i, none⟩ = (diskRow L S)[i]? := cell_of_row _ _ _ _ _ _ hp
theorem dfree {w : World} {L : Lay} {S : St} (hp : w.heap[L.p]? = some (.cells (diskRow L S) 60 (0, 0))) (i : Nat) : w.frozen? ⟨L.p, i, none⟩ = false := frozen_of_row _ _ _ _ 60 hp

def PD (L : Lay) : Value := .pointer (some ⟨L.p, 0, none⟩)

theorem has_any {w : World} {L : Lay} {S : St} (hp : w.heap[L.p]? = some (.cells (diskRow L S) 60 (0, 0))) (b : Int) :
    Calls Tryd.prog 23 #[PD L, .int .i64 b] w fun e w' => e = .returned (.bool (decide (0 ≤ b ∧ b < S.nb))) ∧ w' = w := by
  have c0 : w.cell? ⟨L.p, 0, none⟩ = some (.int .i64 (S.nb : Int)) := dcell hp 0
  unfold PD
  by_cases h1 : 0 ≤ b <;> by_cases h2 : b < S.nb
  all_goals
    go_enter Tryd.func23, Tryd.ntmps23
    go_wp2
    go_ret
    simp [h1, h2]

theorem refused_any (w : World) (b e : Int) :
    Calls Tryd.prog 24 #[.int .i64 b, .int .i64 e] w fun r w' => r = .returned (.iface 80 (.pointer (some ⟨w.heap.size, 0, none⟩))) ∧ w' = w.alloc (.cells #[.int .i64 b, .int .i64 e] 82) := by
  go_enter Tryd.func24, Tryd.ntmps24
  go_wp2
  go_ret
  exact ⟨rfl, rfl⟩

def zeros (n : Nat) : List Nat := List.replicate n 0
theorem zeros_len (n : Nat) : (zeros n).length = n := by simp [zeros]
theorem zeros_lt (n : Nat) : ∀ b ∈ zeros n, b < 256 := by
  intro b hb
  have := List.eq_of_mem_replicate hb
  omega
theorem made_zeros (n : Nat) : madeCells (Value.int .u8 0).cells (n * 1) = ((zeros n).map byteV).toArray := by
  apply Array.ext_getElem?
  intro i
  by_cases h : i < n
  · simp [madeCells, zeros, byteV, Value.cells, h, Nat.mod_one]
  · simp [madeCells, zeros, byteV, Value.cells, h, Nat.mod_one]

/-- 'make([]byte, n)' -/
theorem wpList_zeros {ops : Array Oper} {rest : List Oper} {o : Oper} {a : Act} {w : World} {Q : Exit → Act → World → Prop} (hgd : o.guard = none) (l c : Operand) (ho : o.op = Op.makeSlice 29 l c)
    (C : Int) (n : Nat) (hl : a.eval l = .int .i64 C) (hc : a.eval c = .int .i64 C) (hC : C = (n : Int)) (hn : n ≤ 281474976710656) (Z : Array Value) (hZ : Hid (((zeros n).map byteV).toArray = Z))
    (h : wpList Tryd.prog ops Q rest (a.put o.dst (sl w.heap.size n)) (w.alloc (.cells Z 5))) : wpList Tryd.prog ops Q (o :: rest) a w := by
  obtain ⟨i0, hi, hz0, hz1, hz2⟩ := info_parts info_u8
  subst hC
  refine wpList_plain hgd fun K' hK' => ?_
  have hr := run_make (P := Tryd.prog) w 29 5 i0 (.int .u8 0) Tryd.underlying29 hi hz0 .i64 .i64 (n : Int) (n : Int) (by omega) (Int.le_refl _) (by rw [hz2]; omega) (by omega)
  simp only [Int.toNat_natCast] at hr
  rw [hz1, made_zeros, hZ.out] at hr
  unfold Oper.wp
  simp only [execOp, ho, hl, hc, hr, Sem.run_bind, Result.andThen_ok, Sem.run_pure]
  exact hK' _ _ h

set_option maxRecDepth 20000 in
theorem copied_any (v : Value) (l : List Nat) (w : World) (h : BSl w v l) (hr : l.length ≤ 140737488355328) (h0 : 0 < l.length) :
    Calls Tryd.prog 35 #[v] w fun e w' => e = .returned (sl w.heap.size l.length) ∧ PieceAt w' w.heap.size l ∧ w' = w.alloc (.cells (l.map byteV).toArray 5) := by
  have h' := h
  obtain ⟨a, cap, rfl, hl, hm, hn, hb, hcell⟩ := h'
  obtain ⟨g, off, rfl, hc⟩ := hcell h0
  have hnews := (h.below ((Below.refl _ _).alloc (Nat.le_refl _) (.cells ((zeros l.length).map byteV).toArray 5))).news
  have hone := byteV_oneCell l
  have HE : Hid ((w.alloc (.cells ((zeros l.length).map byteV).toArray 5)).setRow w.heap.size (((zeros l.length).map byteV).toArray.toList.take 0 ++ ((l.map byteV) ++ ((zeros l.length).map byteV).toArray.toList.drop (0 + (l.map byteV).length))).toArray = w.alloc (.cells (l.map byteV).toArray 5)) := by
    refine hide ?_
    rw [World.setRow_alloc_new]
    simp [zeros]
  have HP : Hid (PieceAt (w.alloc (.cells (l.map byteV).toArray 5)) w.heap.size l) := ⟨Go.heap_alloc_new w _, hb, by omega, h0⟩
  clear hn hc h hb hcell
  unfold maxLen at hm
  have hlen : (l.map byteV).length = l.length := by simp
  have hz : ((zeros l.length).map byteV).toArray.size = l.length := by simp [zeros]
  obtain ⟨Z, hZ⟩ : ∃ Z, ((zeros l.length).map byteV).toArray = Z := ⟨_, rfl⟩
  rw [hZ] at hnews HE hz
  have HZ := hide hZ
  clear hZ
  generalize l.map byteV = X at *
  go_enter Tryd.func35, Tryd.ntmps35
  go_wp2_with (first
    | (at_make; refine wpList_zeros rfl _ _ rfl _ l.length rfl rfl rfl (by omega) Z HZ ?_)
    | (refine wpList_copy_own rfl (.tmp 7) (.tmp 8) 29 29 rfl 5 Tryd.underlying29 size_u8 w.heap.size 0 l.length l.length _ l.length cap rfl rfl Z 5 (Go.heap_alloc_new w _) X (by rw [hlen]; simp) hnews (by omega) hone ?_; rw [HE.out]; clear HE HZ hnews hone))
  go_ret
  exact ⟨rfl, HP.out, rfl⟩

theorem cbool {b : Bool} {p : Prop} [Decidable p] (h : b = decide p) : (Value.bool b) = .bool (decide p) := by rw [h]

/-- one writing step: what it makes of a disk, and whether it gets through -/
def St.cut (S : St) : St := { S with off := true }
def St.stepOk (S : St) : Bool := !(S.off || decide (S.fuse = 0))
def St.step (S : St) : St := if S.fuse = 0 then { S with off := true } else if S.off then S else if 0 < S.fuse then { S with fuse := S.fuse - 1 } else S

theorem setDisk_row {w : World} {L : Lay} {S : St} {i : Nat} {v : Value} (hp : w.heap[L.p]? = some (.cells (diskRow L S) 60 (0, 0))) : (w.setCell ⟨L.p, i, none⟩ v).heap[L.p]? = some (.cells ((diskRow L S).setIfInBounds i v) 60 (0, 0)) :=
  Go.heap_setCell_same w L.p i _ 60 _ hp

theorem step_any {w : World} {L : Lay} {S : St} (hR : Rep w L S) :
    Calls Tryd.prog 41 #[PD L] w fun e w' => e = .returned (.bool S.stepOk) ∧ Rep w' L S.step ∧ Grow w w' L.U L.U ∧ w'.heap.size = w.heap.size ∧ ∀ b, b ≠ L.p → w'.heap[b]? = w.heap[b]? := by
  obtain ⟨A, D, ho, hc⟩ := hR
  have hp := hc.hp
  have c4 : w.cell? ⟨L.p, 4, none⟩ = some (.bool S.off) := dcell hp 4
  have c5 : w.cell? ⟨L.p, 5, none⟩ = some (.int .i64 S.fuse) := dcell hp 5
  have f4 := dfree hp 4
  have f5 := dfree hp 5
  have hfz := hc.fz
  have HO := hide ho
  have HC := hide hc
  clear ho hc
  have hcb : ∃ es c, w.heap[L.cb]? = some (.map es c) := by obtain ⟨es, c, h, _⟩ := HO.out; exact ⟨es, c, h⟩
  have HPC : Hid (L.p ≠ L.cb) := hide fun e => by obtain ⟨es, c, h⟩ := hcb; rw [← e, hp] at h; simp at h
  clear hcb
  have KEEP : Hid (∀ i v, ∀ b, b ≠ L.p → (w.setCell ⟨L.p, i, none⟩ v).heap[b]? = w.heap[b]?) := hide fun i v b hb => Go.heap_setCell_other _ _ _ _ hb
  have SIZE : Hid (∀ i v, (w.setCell ⟨L.p, i, none⟩ v).heap.size = w.heap.size) := hide fun i v => by simp [World.setCell]
  have GROW : Hid (∀ i v, Grow w (w.setCell ⟨L.p, i, none⟩ v) L.U L.U) := hide fun i v => ⟨rfl, rfl, rfl, by rw [SIZE.out]; exact Nat.le_refl _, fun b hb hu => KEEP.out i v b fun e => hu (e ▸ HC.out.uP), fun _ _ h => h, fun _ h => h⟩
  have HROW : Hid (∀ i v, (w.setCell ⟨L.p, i, none⟩ v).heap[L.p]? = some (.cells ((diskRow L S).setIfInBounds i v) 60 (0, 0))) := hide fun i v => setDisk_row hp
  clear hp
  unfold PD
  by_cases h0 : S.fuse = 0
  · have e1 : S.stepOk = false := by simp [St.stepOk, h0]
    have e2 : S.step = { S with off := true } := by simp [St.step, h0]
    rw [e1, e2, ]
    rw [h0] at c5
    go_enter Tryd.func41, Tryd.ntmps41
    go_wp2
    go_ret
    refine ⟨rfl, ⟨A, D, ownsMap_keptAt HO.out (KEEP.out _ _ _ fun e => HPC.out e.symm), ?_⟩, GROW.out _ _, SIZE.out _ _, KEEP.out _ _⟩
    exact HC.out.setDisk true S.fuse S.rd S.wr S.th S.fl hfz (by rw [HROW.out]; rfl) (KEEP.out _ _) (by rw [SIZE.out]; exact Nat.le_refl _)
  · by_cases h1 : S.off = true
    · have e1 : S.stepOk = false := by simp [St.stepOk, h1]
      have e2 : S.step = S := by simp [St.step, h0, h1]
      rw [e1, e2]
      rw [h1] at c4
      go_enter Tryd.func41, Tryd.ntmps41
      go_wp2
      go_ret
      exact ⟨rfl, ⟨A, D, HO.out, HC.out⟩, Grow.refl _ _, rfl, fun _ _ => rfl⟩
    · have h1' : S.off = false := by simpa using h1
      have e1 : S.stepOk = true := by simp [St.stepOk, h0, h1']
      rw [e1]
      rw [h1'] at c4
      by_cases h2 : 0 < S.fuse
      · have e2 : S.step = { S with fuse := S.fuse - 1 } := by simp [St.step, h0, h1', h2]
        rw [e2]
        go_enter Tryd.func41, Tryd.ntmps41
        go_wp2
        go_ret
        refine ⟨rfl, ⟨A, D, ownsMap_keptAt HO.out (KEEP.out _ _ _ fun e => HPC.out e.symm), ?_⟩, GROW.out _ _, SIZE.out _ _, KEEP.out _ _⟩
        exact HC.out.setDisk S.off (S.fuse - 1) S.rd S.wr S.th S.fl (by omega) (by rw [HROW.out]; rfl) (KEEP.out _ _) (by rw [SIZE.out]; exact Nat.le_refl _)
      · have e2 : S.step = S := by simp [St.step, h0, h1', h2]
        rw [e2]
        go_enter Tryd.func41, Tryd.ntmps41
        go_wp2
        go_ret
        exact ⟨rfl, ⟨A, D, HO.out, HC.out⟩, Grow.refl _ _, rfl, fun _ _ => rfl⟩
end Go.Proofs.YtepgiomgkgfioaaDoor.K
