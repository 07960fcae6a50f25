import Derived.Test.YtlpmpicmpklaoabDLaw1
namespace Go.Proofs.Ytlpmpicmpklaoab
open Go.RowKit Go.Maps
set_option linter.unusedVariables false
set_option linter.unusedSimpArgs false
set_option maxRecDepth 20000

/-- one call on a disk -/
structure OpV where
  kind : Int
  block : Int
  count : Int
  dv : Value
  dl : List Nat
def OpV.val (o : OpV) : Value := .agg #[.int .i64 o.kind, .int .i64 o.block, .int .i64 o.count, o.dv]
def i64ok (n : Int) : Prop := -9223372036854775808 ≤ n ∧ n ≤ 9223372036854775807
structure OpV.ok (w : World) (L : Lay) (o : OpV) : Prop where
  bs : BSl w o.dv o.dl
  b : i64ok o.block
  c : i64ok o.count
  off : 0 < o.dl.length → ∀ g, blockOf o.dv = some g → ¬ L.U g

def St.call (S : St) (o : OpV) : St :=
  if o.kind = 1 then S.read o.block else if o.kind = 2 then S.write o.block o.dl else if o.kind = 3 then S.through o.block o.dl else if o.kind = 4 then (S.zero o.block o.count).1 else if o.kind = 5 then S.flush
  else if o.kind = 10 then S.spoil o.block else if o.kind = 11 then S.fused o.count else if o.kind = 13 then S.crash o.dl else S

def CallPost (w : World) (L : Lay) (S' : St) (e : Ending) (w' : World) : Prop := e = .returned (.tuple #[]) ∧ ∃ U', Rep w' { L with U := U' } S' ∧ Grow w w' L.U U'
theorem CallPost.mk {w : World} {L : Lay} {S' : St} {w' : World} (U' : Nat → Prop) (h1 : Rep w' { L with U := U' } S') (h2 : Grow w w' L.U U') : CallPost w L S' (.returned (.tuple #[])) w' := ⟨rfl, U', h1, h2⟩
def OpV.box (o : OpV) : Obj := .cells #[.int .i64 o.kind, .int .i64 o.block, .int .i64 o.count, o.dv] 51

theorem call_1 {w : World} {L : Lay} {S : St} (hR : Rep w L S) (o : OpV) (hok : o.ok w L) (hb : ∀ k, (S.cache k).length + 1 ≤ 9382499223500) (hk : o.kind = 1) :
    Calls Try.prog 16 #[PD L, o.val] w fun e w' => CallPost w L (S.call o) e w' := by
  have e1 : S.call o = S.read o.block := by simp [St.call, hk]
  rw [e1]
  have HB0 := hide ((Below.refl w.heap.size w).alloc (Nat.le_refl _) o.box)
  have HR1 := hide (hR.alloc o.box)
  have HV1 : Hid (BSl (w.alloc o.box) o.dv o.dl) := hide (hok.bs.below HB0.out)
  have HOK := hide hok
  have hb1 : ∀ k, (S.cache k).length < 9223372036854775807 := fun k => by have := hb k; omega
  have HC := hide (Read_any HR1.out o.block)
  have HGA := hide (Grow.ofBelow L.U HB0.out)
  unfold OpV.box at HC HR1 HGA
  rw [hk] at HC HR1 HGA
  unfold OpV.val PD
  unfold PD at HC
  rw [hk]
  clear e1 hok hR HV1 HB0 HOK hb hb1
  generalize o.dv = dv at *
  generalize o.block = bl at *
  generalize o.count = ct at *
  clear hk
  go_enter Try.func16, Try.ntmps16
  go_wp2_with (go_at_call 27; refine HC.out.mono ?_; rintro e w2 ⟨v, u, rfl, -, -, -, hR2, hG2⟩)
  go_end0
  exact CallPost.mk L.U hR2 (HGA.out.trans hG2)

theorem call_2 {w : World} {L : Lay} {S : St} (hR : Rep w L S) (o : OpV) (hok : o.ok w L) (hb : ∀ k, (S.cache k).length + 1 ≤ 9382499223500) (hk : o.kind = 2) :
    Calls Try.prog 16 #[PD L, o.val] w fun e w' => CallPost w L (S.call o) e w' := by
  have e1 : S.call o = S.write o.block o.dl := by simp [St.call, hk]
  rw [e1]
  have HB0 := hide ((Below.refl w.heap.size w).alloc (Nat.le_refl _) o.box)
  have HR1 := hide (hR.alloc o.box)
  have HV1 : Hid (BSl (w.alloc o.box) o.dv o.dl) := hide (hok.bs.below HB0.out)
  have HOK := hide hok
  have hb1 : ∀ k, (S.cache k).length < 9223372036854775807 := fun k => by have := hb k; omega
  have HC := hide (Write_any HR1.out o.block o.dv HV1.out hb)
  have HGA := hide (Grow.ofBelow L.U HB0.out)
  unfold OpV.box at HC HR1 HGA
  rw [hk] at HC HR1 HGA
  unfold OpV.val PD
  unfold PD at HC
  rw [hk]
  clear e1 hok hR HV1 HB0 HOK hb hb1
  generalize o.dv = dv at *
  generalize o.block = bl at *
  generalize o.count = ct at *
  clear hk
  go_enter Try.func16, Try.ntmps16
  go_wp2_with (go_at_call 23; refine HC.out.mono ?_; rintro e w2 ⟨u, U2, rfl, -, hR2, hG2⟩)
  go_end0
  exact CallPost.mk U2 hR2 (HGA.out.trans hG2)

theorem call_3 {w : World} {L : Lay} {S : St} (hR : Rep w L S) (o : OpV) (hok : o.ok w L) (hb : ∀ k, (S.cache k).length + 1 ≤ 9382499223500) (hk : o.kind = 3) :
    Calls Try.prog 16 #[PD L, o.val] w fun e w' => CallPost w L (S.call o) e w' := by
  have e1 : S.call o = S.through o.block o.dl := by simp [St.call, hk]
  rw [e1]
  have HB0 := hide ((Below.refl w.heap.size w).alloc (Nat.le_refl _) o.box)
  have HR1 := hide (hR.alloc o.box)
  have HV1 : Hid (BSl (w.alloc o.box) o.dv o.dl) := hide (hok.bs.below HB0.out)
  have HOK := hide hok
  have hb1 : ∀ k, (S.cache k).length < 9223372036854775807 := fun k => by have := hb k; omega
  have HC := hide (Through_any HR1.out o.block o.dv HV1.out)
  have HGA := hide (Grow.ofBelow L.U HB0.out)
  unfold OpV.box at HC HR1 HGA
  rw [hk] at HC HR1 HGA
  unfold OpV.val PD
  unfold PD at HC
  rw [hk]
  clear e1 hok hR HV1 HB0 HOK hb hb1
  generalize o.dv = dv at *
  generalize o.block = bl at *
  generalize o.count = ct at *
  clear hk
  go_enter Try.func16, Try.ntmps16
  go_wp2_with (go_at_call 21; refine HC.out.mono ?_; rintro e w2 ⟨u, U2, rfl, -, hR2, hG2⟩)
  go_end0
  exact CallPost.mk U2 hR2 (HGA.out.trans hG2)

theorem call_4 {w : World} {L : Lay} {S : St} (hR : Rep w L S) (o : OpV) (hok : o.ok w L) (hb : ∀ k, (S.cache k).length + 1 ≤ 9382499223500) (hk : o.kind = 4) :
    Calls Try.prog 16 #[PD L, o.val] w fun e w' => CallPost w L (S.call o) e w' := by
  have e1 : S.call o = (S.zero o.block o.count).1 := by simp [St.call, hk]
  rw [e1]
  have HB0 := hide ((Below.refl w.heap.size w).alloc (Nat.le_refl _) o.box)
  have HR1 := hide (hR.alloc o.box)
  have HV1 : Hid (BSl (w.alloc o.box) o.dv o.dl) := hide (hok.bs.below HB0.out)
  have HOK := hide hok
  have hb1 : ∀ k, (S.cache k).length < 9223372036854775807 := fun k => by have := hb k; omega
  have HC := hide (Zero_any HR1.out o.block o.count HOK.out.b HOK.out.c hb)
  have HGA := hide (Grow.ofBelow L.U HB0.out)
  unfold OpV.box at HC HR1 HGA
  rw [hk] at HC HR1 HGA
  unfold OpV.val PD
  unfold PD at HC
  rw [hk]
  clear e1 hok hR HV1 HB0 HOK hb hb1
  generalize o.dv = dv at *
  generalize o.block = bl at *
  generalize o.count = ct at *
  clear hk
  go_enter Try.func16, Try.ntmps16
  go_wp2_with (go_at_call 19; refine HC.out.mono ?_; rintro e w2 ⟨u, U2, rfl, -, hR2, hG2⟩)
  go_end0
  exact CallPost.mk U2 hR2 (HGA.out.trans hG2)

theorem call_5 {w : World} {L : Lay} {S : St} (hR : Rep w L S) (o : OpV) (hok : o.ok w L) (hb : ∀ k, (S.cache k).length + 1 ≤ 9382499223500) (hk : o.kind = 5) :
    Calls Try.prog 16 #[PD L, o.val] w fun e w' => CallPost w L (S.call o) e w' := by
  have e1 : S.call o = S.flush := by simp [St.call, hk]
  rw [e1]
  have HB0 := hide ((Below.refl w.heap.size w).alloc (Nat.le_refl _) o.box)
  have HR1 := hide (hR.alloc o.box)
  have HV1 : Hid (BSl (w.alloc o.box) o.dv o.dl) := hide (hok.bs.below HB0.out)
  have HOK := hide hok
  have hb1 : ∀ k, (S.cache k).length < 9223372036854775807 := fun k => by have := hb k; omega
  have HC := hide (Flush_any HR1.out)
  have HGA := hide (Grow.ofBelow L.U HB0.out)
  unfold OpV.box at HC HR1 HGA
  rw [hk] at HC HR1 HGA
  unfold OpV.val PD
  unfold PD at HC
  rw [hk]
  clear e1 hok hR HV1 HB0 HOK hb hb1
  generalize o.dv = dv at *
  generalize o.block = bl at *
  generalize o.count = ct at *
  clear hk
  go_enter Try.func16, Try.ntmps16
  go_wp2_with (go_at_call 20; refine HC.out.mono ?_; rintro e w2 ⟨rfl, hR2, hG2⟩)
  all_goals
    go_end0
    exact CallPost.mk L.U hR2 (HGA.out.trans hG2)

theorem call_6 {w : World} {L : Lay} {S : St} (hR : Rep w L S) (o : OpV) (hok : o.ok w L) (hb : ∀ k, (S.cache k).length + 1 ≤ 9382499223500) (hk : o.kind = 6) :
    Calls Try.prog 16 #[PD L, o.val] w fun e w' => CallPost w L (S.call o) e w' := by
  have e1 : S.call o = S := by simp [St.call, hk]
  rw [e1]
  have HB0 := hide ((Below.refl w.heap.size w).alloc (Nat.le_refl _) o.box)
  have HR1 := hide (hR.alloc o.box)
  have HV1 : Hid (BSl (w.alloc o.box) o.dv o.dl) := hide (hok.bs.below HB0.out)
  have HOK := hide hok
  have hb1 : ∀ k, (S.cache k).length < 9223372036854775807 := fun k => by have := hb k; omega
  obtain ⟨A0, D0, ho0, hc0⟩ := HR1.out
  have HC := hide (Cached_raw ho0 hc0)
  clear ho0 hc0
  have HGA := hide (Grow.ofBelow L.U HB0.out)
  unfold OpV.box at HC HR1 HGA
  rw [hk] at HC HR1 HGA
  unfold OpV.val PD
  unfold PD at HC
  rw [hk]
  clear e1 hok hR HV1 HB0 HOK hb hb1
  generalize o.dv = dv at *
  generalize o.block = bl at *
  generalize o.count = ct at *
  clear hk
  go_enter Try.func16, Try.ntmps16
  go_wp2_with (go_at_call 33; refine HC.out.mono ?_; rintro e w2 ⟨v, ss, rfl, -, -, -, hb2⟩)
  go_end0
  exact CallPost.mk L.U (HR1.out.below hb2) (HGA.out.trans (Grow.ofBelow _ hb2))

theorem call_7 {w : World} {L : Lay} {S : St} (hR : Rep w L S) (o : OpV) (hok : o.ok w L) (hb : ∀ k, (S.cache k).length + 1 ≤ 9382499223500) (hk : o.kind = 7) :
    Calls Try.prog 16 #[PD L, o.val] w fun e w' => CallPost w L (S.call o) e w' := by
  have e1 : S.call o = S := by simp [St.call, hk]
  rw [e1]
  have HB0 := hide ((Below.refl w.heap.size w).alloc (Nat.le_refl _) o.box)
  have HR1 := hide (hR.alloc o.box)
  have HV1 : Hid (BSl (w.alloc o.box) o.dv o.dl) := hide (hok.bs.below HB0.out)
  have HOK := hide hok
  have hb1 : ∀ k, (S.cache k).length < 9223372036854775807 := fun k => by have := hb k; omega
  have HC := hide (Waiting_any HR1.out o.block HOK.out.b)
  have HGA := hide (Grow.ofBelow L.U HB0.out)
  unfold OpV.box at HC HR1 HGA
  rw [hk] at HC HR1 HGA
  unfold OpV.val PD
  unfold PD at HC
  rw [hk]
  clear e1 hok hR HV1 HB0 HOK hb hb1
  generalize o.dv = dv at *
  generalize o.block = bl at *
  generalize o.count = ct at *
  clear hk
  go_enter Try.func16, Try.ntmps16
  go_wp2_with (go_at_call 34; refine HC.out.mono ?_; rintro e w2 ⟨rfl, rfl⟩)
  go_end0
  exact CallPost.mk L.U HR1.out (HGA.out.trans (Grow.refl _ _))

theorem call_8 {w : World} {L : Lay} {S : St} (hR : Rep w L S) (o : OpV) (hok : o.ok w L) (hb : ∀ k, (S.cache k).length + 1 ≤ 9382499223500) (hk : o.kind = 8) :
    Calls Try.prog 16 #[PD L, o.val] w fun e w' => CallPost w L (S.call o) e w' := by
  have e1 : S.call o = S := by simp [St.call, hk]
  rw [e1]
  have HB0 := hide ((Below.refl w.heap.size w).alloc (Nat.le_refl _) o.box)
  have HR1 := hide (hR.alloc o.box)
  have HV1 : Hid (BSl (w.alloc o.box) o.dv o.dl) := hide (hok.bs.below HB0.out)
  have HOK := hide hok
  have hb1 : ∀ k, (S.cache k).length < 9223372036854775807 := fun k => by have := hb k; omega
  have HC := hide (Durable_any HR1.out o.block)
  have HGA := hide (Grow.ofBelow L.U HB0.out)
  unfold OpV.box at HC HR1 HGA
  rw [hk] at HC HR1 HGA
  unfold OpV.val PD
  unfold PD at HC
  rw [hk]
  clear e1 hok hR HV1 HB0 HOK hb hb1
  generalize o.dv = dv at *
  generalize o.block = bl at *
  generalize o.count = ct at *
  clear hk
  go_enter Try.func16, Try.ntmps16
  go_wp2_with (go_at_call 35; refine HC.out.mono ?_; rintro e w2 ⟨v, u, rfl, -, -, -, hR2, hG2⟩)
  go_end0
  exact CallPost.mk L.U hR2 (HGA.out.trans hG2)

theorem call_9 {w : World} {L : Lay} {S : St} (hR : Rep w L S) (o : OpV) (hok : o.ok w L) (hb : ∀ k, (S.cache k).length + 1 ≤ 9382499223500) (hk : o.kind = 9) :
    Calls Try.prog 16 #[PD L, o.val] w fun e w' => CallPost w L (S.call o) e w' := by
  have e1 : S.call o = S := by simp [St.call, hk]
  rw [e1]
  have HB0 := hide ((Below.refl w.heap.size w).alloc (Nat.le_refl _) o.box)
  have HR1 := hide (hR.alloc o.box)
  have HV1 : Hid (BSl (w.alloc o.box) o.dv o.dl) := hide (hok.bs.below HB0.out)
  have HOK := hide hok
  have hb1 : ∀ k, (S.cache k).length < 9223372036854775807 := fun k => by have := hb k; omega
  have HC := hide (Image_any HR1.out)
  have HGA := hide (Grow.ofBelow L.U HB0.out)
  unfold OpV.box at HC HR1 HGA
  rw [hk] at HC HR1 HGA
  unfold OpV.val PD
  unfold PD at HC
  rw [hk]
  clear e1 hok hR HV1 HB0 HOK hb hb1
  generalize o.dv = dv at *
  generalize o.block = bl at *
  generalize o.count = ct at *
  clear hk
  go_enter Try.func16, Try.ntmps16
  go_wp2_with (go_at_call 14; refine HC.out.mono ?_; rintro e w2 ⟨rfl, -, hb2⟩)
  go_end0
  exact CallPost.mk L.U (HR1.out.below hb2) (HGA.out.trans (Grow.ofBelow _ hb2))

theorem call_10 {w : World} {L : Lay} {S : St} (hR : Rep w L S) (o : OpV) (hok : o.ok w L) (hb : ∀ k, (S.cache k).length + 1 ≤ 9382499223500) (hk : o.kind = 10) :
    Calls Try.prog 16 #[PD L, o.val] w fun e w' => CallPost w L (S.call o) e w' := by
  have e1 : S.call o = S.spoil o.block := by simp [St.call, hk]
  rw [e1]
  have HB0 := hide ((Below.refl w.heap.size w).alloc (Nat.le_refl _) o.box)
  have HR1 := hide (hR.alloc o.box)
  have HV1 : Hid (BSl (w.alloc o.box) o.dv o.dl) := hide (hok.bs.below HB0.out)
  have HOK := hide hok
  have hb1 : ∀ k, (S.cache k).length < 9223372036854775807 := fun k => by have := hb k; omega
  have HC := hide (Spoil_any HR1.out o.block)
  have HGA := hide (Grow.ofBelow L.U HB0.out)
  unfold OpV.box at HC HR1 HGA
  rw [hk] at HC HR1 HGA
  unfold OpV.val PD
  unfold PD at HC
  rw [hk]
  clear e1 hok hR HV1 HB0 HOK hb hb1
  generalize o.dv = dv at *
  generalize o.block = bl at *
  generalize o.count = ct at *
  clear hk
  go_enter Try.func16, Try.ntmps16
  go_wp2_with (go_at_call 36; refine HC.out.mono ?_; rintro e w2 ⟨u, U2, rfl, -, hR2, hG2⟩)
  go_end0
  exact CallPost.mk U2 hR2 (HGA.out.trans hG2)

theorem call_11 {w : World} {L : Lay} {S : St} (hR : Rep w L S) (o : OpV) (hok : o.ok w L) (hb : ∀ k, (S.cache k).length + 1 ≤ 9382499223500) (hk : o.kind = 11) :
    Calls Try.prog 16 #[PD L, o.val] w fun e w' => CallPost w L (S.call o) e w' := by
  have e1 : S.call o = S.fused o.count := by simp [St.call, hk]
  rw [e1]
  have HB0 := hide ((Below.refl w.heap.size w).alloc (Nat.le_refl _) o.box)
  have HR1 := hide (hR.alloc o.box)
  have HV1 : Hid (BSl (w.alloc o.box) o.dv o.dl) := hide (hok.bs.below HB0.out)
  have HOK := hide hok
  have hb1 : ∀ k, (S.cache k).length < 9223372036854775807 := fun k => by have := hb k; omega
  have HC := hide (Fuse_any HR1.out o.count HOK.out.c)
  have HGA := hide (Grow.ofBelow L.U HB0.out)
  unfold OpV.box at HC HR1 HGA
  rw [hk] at HC HR1 HGA
  unfold OpV.val PD
  unfold PD at HC
  rw [hk]
  clear e1 hok hR HV1 HB0 HOK hb hb1
  generalize o.dv = dv at *
  generalize o.block = bl at *
  generalize o.count = ct at *
  clear hk
  go_enter Try.func16, Try.ntmps16
  go_wp2_with (go_at_call 6; refine HC.out.mono ?_; rintro e w2 ⟨rfl, hR2, hG2, -⟩)
  go_end0
  exact CallPost.mk L.U hR2 (HGA.out.trans hG2)

theorem call_12 {w : World} {L : Lay} {S : St} (hR : Rep w L S) (o : OpV) (hok : o.ok w L) (hb : ∀ k, (S.cache k).length + 1 ≤ 9382499223500) (hk : o.kind = 12) :
    Calls Try.prog 16 #[PD L, o.val] w fun e w' => CallPost w L (S.call o) e w' := by
  have e1 : S.call o = S := by simp [St.call, hk]
  rw [e1]
  have HB0 := hide ((Below.refl w.heap.size w).alloc (Nat.le_refl _) o.box)
  have HR1 := hide (hR.alloc o.box)
  have HV1 : Hid (BSl (w.alloc o.box) o.dv o.dl) := hide (hok.bs.below HB0.out)
  have HOK := hide hok
  have hb1 : ∀ k, (S.cache k).length < 9223372036854775807 := fun k => by have := hb k; omega
  have HC := hide (On_any HR1.out)
  have HGA := hide (Grow.ofBelow L.U HB0.out)
  unfold OpV.box at HC HR1 HGA
  rw [hk] at HC HR1 HGA
  unfold OpV.val PD
  unfold PD at HC
  rw [hk]
  clear e1 hok hR HV1 HB0 HOK hb hb1
  generalize o.dv = dv at *
  generalize o.block = bl at *
  generalize o.count = ct at *
  clear hk
  go_enter Try.func16, Try.ntmps16
  go_wp2_with (go_at_call 9; refine HC.out.mono ?_; rintro e w2 ⟨rfl, rfl⟩)
  go_end0
  exact CallPost.mk L.U HR1.out (HGA.out.trans (Grow.refl _ _))

theorem call_13 {w : World} {L : Lay} {S : St} (hR : Rep w L S) (o : OpV) (hok : o.ok w L) (hb : ∀ k, (S.cache k).length + 1 ≤ 9382499223500) (hk : o.kind = 13) :
    Calls Try.prog 16 #[PD L, o.val] w fun e w' => CallPost w L (S.call o) e w' := by
  have e1 : S.call o = S.crash o.dl := by simp [St.call, hk]
  rw [e1]
  have HB0 := hide ((Below.refl w.heap.size w).alloc (Nat.le_refl _) o.box)
  have HR1 := hide (hR.alloc o.box)
  have HV1 : Hid (BSl (w.alloc o.box) o.dv o.dl) := hide (hok.bs.below HB0.out)
  have HOK := hide hok
  have hb1 : ∀ k, (S.cache k).length < 9223372036854775807 := fun k => by have := hb k; omega
  have HC := hide (Crash_any HR1.out HV1.out HOK.out.off hb1)
  have HGA := hide (Grow.ofBelow L.U HB0.out)
  unfold OpV.box at HC HR1 HGA
  rw [hk] at HC HR1 HGA
  unfold OpV.val PD
  unfold PD at HC
  rw [hk]
  clear e1 hok hR HV1 HB0 HOK hb hb1
  generalize o.dv = dv at *
  generalize o.block = bl at *
  generalize o.count = ct at *
  clear hk
  go_enter Try.func16, Try.ntmps16
  go_wp2_with (go_at_call 10; refine HC.out.mono ?_; rintro e w2 ⟨rfl, hR2, hG2⟩)
  go_end0
  exact CallPost.mk L.U hR2 (HGA.out.trans hG2)

theorem call_14 {w : World} {L : Lay} {S : St} (hR : Rep w L S) (o : OpV) (hok : o.ok w L) (hb : ∀ k, (S.cache k).length + 1 ≤ 9382499223500) (hk : o.kind = 14) :
    Calls Try.prog 16 #[PD L, o.val] w fun e w' => CallPost w L (S.call o) e w' := by
  have e1 : S.call o = S := by simp [St.call, hk]
  rw [e1]
  have HB0 := hide ((Below.refl w.heap.size w).alloc (Nat.le_refl _) o.box)
  have HR1 := hide (hR.alloc o.box)
  have HV1 : Hid (BSl (w.alloc o.box) o.dv o.dl) := hide (hok.bs.below HB0.out)
  have HOK := hide hok
  have hb1 : ∀ k, (S.cache k).length < 9223372036854775807 := fun k => by have := hb k; omega
  have HC := hide (Counts_any HR1.out)
  have HGA := hide (Grow.ofBelow L.U HB0.out)
  unfold OpV.box at HC HR1 HGA
  rw [hk] at HC HR1 HGA
  unfold OpV.val PD
  unfold PD at HC
  rw [hk]
  clear e1 hok hR HV1 HB0 HOK hb hb1
  generalize o.dv = dv at *
  generalize o.block = bl at *
  generalize o.count = ct at *
  clear hk
  go_enter Try.func16, Try.ntmps16
  go_wp2_with (go_at_call 37; refine HC.out.mono ?_; rintro e w2 ⟨rfl, hb2⟩)
  go_end0
  exact CallPost.mk L.U (HR1.out.below hb2) (HGA.out.trans (Grow.ofBelow _ hb2))

theorem call_no {w : World} {L : Lay} {S : St} (hR : Rep w L S) (o : OpV) (h : ∀ n : Nat, 1 ≤ n → n ≤ 14 → o.kind ≠ (n : Int)) :
    Calls Try.prog 16 #[PD L, o.val] w fun e w' => CallPost w L (S.call o) e w' := by
  have k1 : ¬ o.kind = 1 := fun e => h 1 (by omega) (by omega) (by rw [e]; rfl)
  have k2 : ¬ o.kind = 2 := fun e => h 2 (by omega) (by omega) (by rw [e]; rfl)
  have k3 : ¬ o.kind = 3 := fun e => h 3 (by omega) (by omega) (by rw [e]; rfl)
  have k4 : ¬ o.kind = 4 := fun e => h 4 (by omega) (by omega) (by rw [e]; rfl)
  have k5 : ¬ o.kind = 5 := fun e => h 5 (by omega) (by omega) (by rw [e]; rfl)
  have k6 : ¬ o.kind = 6 := fun e => h 6 (by omega) (by omega) (by rw [e]; rfl)
  have k7 : ¬ o.kind = 7 := fun e => h 7 (by omega) (by omega) (by rw [e]; rfl)
  have k8 : ¬ o.kind = 8 := fun e => h 8 (by omega) (by omega) (by rw [e]; rfl)
  have k9 : ¬ o.kind = 9 := fun e => h 9 (by omega) (by omega) (by rw [e]; rfl)
  have k10 : ¬ o.kind = 10 := fun e => h 10 (by omega) (by omega) (by rw [e]; rfl)
  have k11 : ¬ o.kind = 11 := fun e => h 11 (by omega) (by omega) (by rw [e]; rfl)
  have k12 : ¬ o.kind = 12 := fun e => h 12 (by omega) (by omega) (by rw [e]; rfl)
  have k13 : ¬ o.kind = 13 := fun e => h 13 (by omega) (by omega) (by rw [e]; rfl)
  have k14 : ¬ o.kind = 14 := fun e => h 14 (by omega) (by omega) (by rw [e]; rfl)
  have e1 : S.call o = S := by simp [St.call, k1, k2, k3, k4, k5, k10, k11, k13]
  rw [e1]
  have HR := hide hR
  clear h hR e1
  unfold OpV.val PD
  go_enter Try.func16, Try.ntmps16
  go_wp2
  go_end0
  exact CallPost.mk L.U (HR.out.alloc _) ((Grow.refl _ _).alloc _)

theorem call_any {w : World} {L : Lay} {S : St} (hR : Rep w L S) (o : OpV) (hok : o.ok w L) (hb : ∀ k, (S.cache k).length + 1 ≤ 9382499223500) :
    Calls Try.prog 16 #[PD L, o.val] w fun e w' => CallPost w L (S.call o) e w' := by
  by_cases h : ∀ n : Nat, 1 ≤ n → n ≤ 14 → o.kind ≠ (n : Int)
  · exact call_no hR o h
  · have : ∃ n : Nat, 1 ≤ n ∧ n ≤ 14 ∧ o.kind = (n : Int) := by
      refine Classical.byContradiction fun hn => h fun n h1 h2 h3 => hn ⟨n, h1, h2, h3⟩
    obtain ⟨n, h1, h2, h3⟩ := this
    rcases (show n = 1 ∨ n = 2 ∨ n = 3 ∨ n = 4 ∨ n = 5 ∨ n = 6 ∨ n = 7 ∨ n = 8 ∨ n = 9 ∨ n = 10 ∨ n = 11 ∨ n = 12 ∨ n = 13 ∨ n = 14 by omega) with e | e | e | e | e | e | e | e | e | e | e | e | e | e <;> subst e
    · exact call_1 hR o hok hb h3
    · exact call_2 hR o hok hb h3
    · exact call_3 hR o hok hb h3
    · exact call_4 hR o hok hb h3
    · exact call_5 hR o hok hb h3
    · exact call_6 hR o hok hb h3
    · exact call_7 hR o hok hb h3
    · exact call_8 hR o hok hb h3
    · exact call_9 hR o hok hb h3
    · exact call_10 hR o hok hb h3
    · exact call_11 hR o hok hb h3
    · exact call_12 hR o hok hb h3
    · exact call_13 hR o hok hb h3
    · exact call_14 hR o hok hb h3
end Go.Proofs.Ytlpmpicmpklaoab
