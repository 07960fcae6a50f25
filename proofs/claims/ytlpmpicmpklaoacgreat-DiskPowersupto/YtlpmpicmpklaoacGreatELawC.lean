import Derived.Test.YtlpmpicmpklaoacGreatELawB
namespace Go.Proofs.YtlpmpicmpklaoacGreat
open Go.RowKit Go.Maps Go.Sort
set_option linter.unusedVariables false
set_option linter.unusedSimpArgs false
set_option maxRecDepth 20000

theorem geo_parts {n s : Int} (h : goodGeo n s = true) : ∃ nb sz : Nat, n = (nb : Int) ∧ s = (sz : Int) ∧ 1 ≤ nb ∧ nb ≤ 8192 ∧ (sz = 128 ∨ sz = 256 ∨ sz = 512 ∨ sz = 1024) := by
  have h' := of_decide_eq_true h
  refine ⟨n.toNat, s.toNat, ?_, ?_, ?_, ?_, ?_⟩ <;> omega
/-- New, at any geometry -/
theorem kNew (w : World) (n s : Int) :
    Calls Tryz.prog 18 #[.int .i64 n, .int .i64 s] w fun e w' => (goodGeo n s = false → e = .returned (.tuple #[.pointer none, .int .i64 1]) ∧ w' = w) ∧
      (goodGeo n s = true → NewPost w n.toNat s.toNat (fun _ => zeros s.toNat) e w') := by
  cases hg : goodGeo n s with
  | false =>
    refine (New_bad w n s hg).mono ?_
    rintro e w' ⟨rfl, rfl⟩
    exact ⟨fun _ => ⟨rfl, rfl⟩, fun h => absurd h (by decide)⟩
  | true =>
    obtain ⟨nb, sz, rfl, rfl, h1, h2, h3⟩ := geo_parts hg
    refine (New_any w nb sz h1 h2 h3).mono ?_
    intro e w' h
    exact ⟨fun h => absurd h (by decide), fun _ => h⟩
/-- Load, at any geometry and any image -/
theorem kLoad (w : World) (n s : Int) (v : Value) (m : List Nat) (hv : BSl w v m) :
    Calls Tryz.prog 14 #[.int .i64 n, .int .i64 s, v] w fun e w' => (goodGeo n s = false → e = .returned (.tuple #[.pointer none, .int .i64 1]) ∧ w' = w) ∧
      (goodGeo n s = true → ¬ m.length = n.toNat * s.toNat → e = .returned (.tuple #[.pointer none, .int .i64 3]) ∧ w' = w) ∧
      (goodGeo n s = true → m.length = n.toNat * s.toNat → NewPost w n.toNat s.toNat (cutOf m s.toNat) e w') := by
  cases hg : goodGeo n s with
  | false =>
    refine (Load_bad w n s v hg).mono ?_
    rintro e w' ⟨rfl, rfl⟩
    exact ⟨fun _ => ⟨rfl, rfl⟩, fun h => absurd h (by decide), fun h => absurd h (by decide)⟩
  | true =>
    obtain ⟨nb, sz, rfl, rfl, h1, h2, h3⟩ := geo_parts hg
    by_cases hm : m.length = nb * sz
    · refine (Load_any w nb sz v m hv hm h1 h2 h3).mono ?_
      intro e w' h
      exact ⟨fun h => absurd h (by decide), fun _ h2 => absurd hm h2, fun _ _ => h⟩
    · refine (Load_size w nb sz v m hv hm h1 h2 h3).mono ?_
      rintro e w' ⟨rfl, rfl⟩
      exact ⟨fun h => absurd h (by decide), fun _ _ => ⟨rfl, rfl⟩, fun _ h2 => absurd h2 hm⟩
/-- a pair is made -/
def MadePost (w : World) (e : Ending) (w' : World) : Prop :=
  ∃ pp, e = .returned (.tuple #[.pointer (some ⟨pp, 0, none⟩), .bool true]) ∧ Below w.heap.size w w' ∧ w.heap.size ≤ pp ∧
    ((w'.cell? ⟨pp, 0, none⟩ = some (.pointer none)) ∨ ∃ S, PAll w w' pp S 0 0 ∧ ∀ k, S.cache k = [])
theorem PAll.new {w0 w : World} {pp : Nat} {S : St} {L : Lay} {RL : RLay} (hd : Rep w L S) (hr : RD w RL S (-1)) (hrow : w.heap[pp]? = some (.cells (pairRow (PD L) (PR RL) 0 (.slice none 0 0)) 40 (0, 0))) (be : Below w0.heap.size w0 w)
    (uD : ∀ x, L.U x → w0.heap.size ≤ x) (uR : ∀ x, RL.U x → w0.heap.size ≤ x) (uP : w0.heap.size ≤ pp) (ap : ∀ x, L.U x → ¬ RL.U x) (pD : ¬ L.U pp) (pR : ¬ RL.U pp) : PAll w0 w pp S 0 0 :=
  ⟨L, RL, -1, .slice none 0 0, hd, hr, ⟨hrow, [], World.ownsRow_nil _ _ _ _⟩, be, uD, uR, uP, fun x hx => by simp [Value.ownBlock] at hx, ap, pD, pR, fun x hx => by simp [Value.ownBlock] at hx⟩
def madeBox (ld : Bool) (n s : Int) (iv : Value) : Obj := .cells #[.bool ld, .int .i64 n, .int .i64 s, iv] 24
/-- what a pair that is being made holds -/
structure MkAt (w w1 : World) (ld : Bool) (n s : Int) (iv D R : Value) : Prop where
  box : w1.heap[w.heap.size]? = some (.cells #[.bool ld, .int .i64 n, .int .i64 s, iv] 24 (0, 0))
  row : w1.heap[w.heap.size + 1]? = some (.cells (pairRow D R 0 (.slice none 0 0)) 40 (0, 0))
  be : Below w.heap.size w w1
theorem MkAt.kept {w w1 w2 : World} {ld : Bool} {n s : Int} {iv D R : Value} (h : MkAt w w1 ld n s iv D R) (hb : Below w1.heap.size w1 w2) : MkAt w w2 ld n s iv D R := by
  have l1 : w.heap.size < w1.heap.size := (Array.getElem?_eq_some_iff.1 h.box).1
  have l2 : w.heap.size + 1 < w1.heap.size := (Array.getElem?_eq_some_iff.1 h.row).1
  exact ⟨(hb.block _ l1).trans h.box, (hb.block _ l2).trans h.row, h.be.trans (hb.mono h.be.size)⟩
theorem MkAt.setD {w w1 : World} {ld : Bool} {n s : Int} {iv D R : Value} (h : MkAt w w1 ld n s iv D R) (D' : Value) : MkAt w (w1.setCell ⟨w.heap.size + 1, 0, none⟩ D') ld n s iv D' R :=
  ⟨(Go.heap_setCell_other _ _ _ _ (by simp)).trans h.box, Go.heap_setCell_same w1 _ 0 _ 40 _ h.row, h.be.setCell (p := ⟨w.heap.size + 1, 0, none⟩) (by simp) _⟩
theorem MkAt.setR {w w1 : World} {ld : Bool} {n s : Int} {iv D R : Value} (h : MkAt w w1 ld n s iv D R) (R' : Value) : MkAt w (w1.setCell ⟨w.heap.size + 1, 1, none⟩ R') ld n s iv D R' :=
  ⟨(Go.heap_setCell_other _ _ _ _ (by simp)).trans h.box, Go.heap_setCell_same w1 _ 1 _ 40 _ h.row, h.be.setCell (p := ⟨w.heap.size + 1, 1, none⟩) (by simp) _⟩
theorem MkAt.cells {w w1 : World} {ld : Bool} {n s : Int} {iv D R : Value} (h : MkAt w w1 ld n s iv D R) : w1.cell? ⟨w.heap.size, 0, none⟩ = some (.bool ld) ∧ w1.cell? ⟨w.heap.size, 1, none⟩ = some (.int .i64 n) ∧ w1.cell? ⟨w.heap.size, 2, none⟩ = some (.int .i64 s) ∧ w1.cell? ⟨w.heap.size, 3, none⟩ = some iv ∧ w1.cell? ⟨w.heap.size + 1, 0, none⟩ = some D ∧ w1.cell? ⟨w.heap.size + 1, 1, none⟩ = some R ∧ w1.frozen? ⟨w.heap.size + 1, 0, none⟩ = false ∧ w1.frozen? ⟨w.heap.size + 1, 1, none⟩ = false := by
  refine ⟨?_, ?_, ?_, ?_, ?_, ?_, frozen_of_row _ _ _ _ 40 h.row, frozen_of_row _ _ _ _ 40 h.row⟩
  · rw [cell_of_row _ _ _ _ _ _ h.box]; rfl
  · rw [cell_of_row _ _ _ _ _ _ h.box]; rfl
  · rw [cell_of_row _ _ _ _ _ _ h.box]; rfl
  · rw [cell_of_row _ _ _ _ _ _ h.box]; rfl
  · rw [cell_of_row _ _ _ _ _ _ h.row]; rfl
  · rw [cell_of_row _ _ _ _ _ _ h.row]; rfl
theorem MkAt.start (w : World) (ld : Bool) (n s : Int) (iv : Value) : MkAt w ((w.alloc (.cells #[.bool ld, .int .i64 n, .int .i64 s, iv] 24)).alloc (.cells #[.pointer none, .pointer none, .bool false, .slice none 0 0, .slice none 0 0, .slice none 0 0, .slice none 0 0, .int .i64 0, .bool false, .slice none 0 0, .slice none 0 0, .slice none 0 0, .slice none 0 0] 40)) ld n s iv (.pointer none) (.pointer none) := by
  have b1 : Below w.heap.size w (w.alloc (.cells #[.bool ld, .int .i64 n, .int .i64 s, iv] 24)) := (Below.refl _ _).alloc (Nat.le_refl _) _
  have z1 : (w.alloc (.cells #[.bool ld, .int .i64 n, .int .i64 s, iv] 24)).heap.size = w.heap.size + 1 := by simp
  refine ⟨?_, ?_, b1.alloc (by omega) _⟩
  · rw [Below.heap_alloc _ _ _ (by omega)]
    exact Go.heap_alloc_new w _
  · have := Go.heap_alloc_new (w.alloc (.cells #[.bool ld, .int .i64 n, .int .i64 s, iv] 24)) (.cells #[.pointer none, .pointer none, .bool false, .slice none 0 0, .slice none 0 0, .slice none 0 0, .slice none 0 0, .int .i64 0, .bool false, .slice none 0 0, .slice none 0 0, .slice none 0 0, .slice none 0 0] 40)
    rw [z1] at this
    exact this
set_option maxHeartbeats 1000000 in
theorem made_new_bad (w : World) (n s : Int) (iv : Value) (hn : i64ok n) (hs : i64ok s) (hg : goodGeo n s = false) :
    Calls Tryz.prog 8 #[.agg #[.bool false, .int .i64 n, .int .i64 s, iv]] w fun e w' => MadePost w e w' := by
  have HK := hide (fun w => kNew w n s)
  have HR := hide (fun w => rNew w n s hn hs)
  have HG := hide hg
  have M0 := hide (MkAt.start w false n s iv)
  clear hn hs hg
  go_enter Tryz.func8, Tryz.ntmps8
  go_wp2_with fail
  refine (HK.out _).mono ?_
  rintro e w1 ⟨h1, -⟩
  obtain ⟨rfl, rfl⟩ := h1 HG.out
  clear h1
  generalize hW : ((w.alloc (.cells #[.bool false, .int .i64 n, .int .i64 s, iv] 24)).alloc _) = wA at *
  have HW := hide hW
  clear hW
  have M1 := hide (M0.out.setD (.pointer none))
  obtain ⟨-, c01, c02, -, c04, c05, c06, c07⟩ := M0.out.cells
  obtain ⟨-, c11, c12, -, c14, c15, c16, c17⟩ := M1.out.cells
  go_wp2_with fail
  refine (HR.out _).mono ?_
  rintro e w2 ⟨h2, -⟩
  obtain ⟨rfl, rfl⟩ := h2 HG.out
  clear h2
  generalize hW1 : wA.setCell ⟨w.heap.size + 1, 0, none⟩ (.pointer none) = wB at *
  have HW1 := hide hW1
  clear hW1 c01 c02 c04 c05 c06 c07
  have M2 := hide (M1.out.setR (.pointer none))
  obtain ⟨-, c21, c22, -, c24, c25, c26, c27⟩ := M2.out.cells
  go_wp2_with fail
  go_region_held3 (fun w' => w'.cell? ⟨w.heap.size + 1, 0, none⟩ = some (.pointer none) ∧ w'.cell? ⟨w.heap.size + 1, 1, none⟩ = some (.pointer none)) (first | exact ⟨c24, c25⟩ | assumption) (fail)
  go_wp2
  go_ret2
  have M3 := M2.out.kept (Below.drew (Below.refl _ _))
  exact ⟨w.heap.size + 1, rfl, M3.be, by omega, .inl M3.cells.2.2.2.2.1⟩
set_option maxHeartbeats 1000000 in
theorem made_new_good (w : World) (n s : Int) (iv : Value) (hn : i64ok n) (hs : i64ok s) (hg : goodGeo n s = true) :
    Calls Tryz.prog 8 #[.agg #[.bool false, .int .i64 n, .int .i64 s, iv]] w fun e w' => MadePost w e w' := by
  have HK := hide (fun w => kNew w n s)
  have HR := hide (fun w => rNew w n s hn hs)
  have HG := hide hg
  have M0 := hide (MkAt.start w false n s iv)
  clear hn hs hg
  go_enter Tryz.func8, Tryz.ntmps8
  go_wp2_with fail
  refine (HK.out _).mono ?_
  rintro e w1 ⟨-, h1⟩
  obtain ⟨L, rfl, hD1, hB1, hU1⟩ := h1 HG.out
  clear h1
  generalize hW : ((w.alloc (.cells #[.bool false, .int .i64 n, .int .i64 s, iv] 24)).alloc _) = wA at *
  have HD1 := hide hD1
  have HB1 := hide hB1
  have HU1 := hide hU1
  clear hW hD1 hB1 hU1
  unfold PD
  have M0' := hide (M0.out.kept HB1.out)
  have M1 := hide (M0'.out.setD (PD L))
  have p1 : w.heap.size + 1 < wA.heap.size := (Array.getElem?_eq_some_iff.1 M0.out.row).1
  have HP1 := hide p1
  clear p1
  have HD2 : Hid (Rep (w1.setCell ⟨w.heap.size + 1, 0, none⟩ (PD L)) L (St.fresh n.toNat s.toNat fun _ => zeros s.toNat)) := hide (HD1.out.kept (fun x hx => Go.heap_setCell_other _ _ _ _ fun e : x = w.heap.size + 1 => by have := HU1.out x hx; have := HP1.out; omega) (by simp [World.setCell]))
  obtain ⟨-, c01, c02, -, c04, c05, c06, c07⟩ := M0'.out.cells
  obtain ⟨-, c11, c12, -, c14, c15, c16, c17⟩ := M1.out.cells
  unfold PD at M1 HD2 c11 c12 c14 c15 c16 c17
  go_wp2_with fail
  refine (HR.out _).mono ?_
  rintro e w2 ⟨-, h2⟩
  obtain ⟨RL, rfl, hD3, hB3, hU3⟩ := h2 HG.out
  clear h2
  generalize hW1 : w1.setCell ⟨w.heap.size + 1, 0, none⟩ (.pointer (some ⟨L.p, 0, none⟩)) = wB at *
  clear hW1 c01 c02 c04 c05 c06 c07 c11 c12 c14 c15 c16 c17
  have HD3 := hide hD3
  have HB3 := hide hB3
  have HU3 := hide hU3
  clear hD3 hB3 hU3
  unfold PR
  have M1' := hide (M1.out.kept HB3.out)
  have M2 := hide (M1'.out.setR (PR RL))
  obtain ⟨-, c11, c12, -, c14, c15, c16, c17⟩ := M1'.out.cells
  obtain ⟨-, c21, c22, -, c24, c25, c26, c27⟩ := M2.out.cells
  unfold PR at c21 c22 c24 c25 c26 c27
  go_wp2_with fail
  go_region_held3 (fun w' => w'.cell? ⟨w.heap.size + 1, 0, none⟩ = some (.pointer (some ⟨L.p, 0, none⟩)) ∧ w'.cell? ⟨w.heap.size + 1, 1, none⟩ = some (.pointer (some ⟨RL.p, 0, none⟩))) (first | exact ⟨c24, c25⟩ | assumption) (fail)
  go_wp2
  go_ret2
  have M3 := M2.out.kept (Below.drew (Below.refl _ _))
  have p1 := HP1.out
  have p2 : w.heap.size + 1 < wB.heap.size := (Array.getElem?_eq_some_iff.1 M1.out.row).1
  have nP : ¬ L.U (w.heap.size + 1) := fun hu => by have := HU1.out _ hu; omega
  have nR : ¬ RL.U (w.heap.size + 1) := fun hu => by have := HU3.out _ hu; omega
  have K : ∀ b, b ≠ w.heap.size + 1 → ((w2.setCell ⟨w.heap.size + 1, 1, none⟩ (PR RL)).drew).heap[b]? = w2.heap[b]? := fun b hb => Go.heap_setCell_other _ _ _ _ hb
  have hz : w2.heap.size ≤ ((w2.setCell ⟨w.heap.size + 1, 1, none⟩ (PR RL)).drew).heap.size := by simp [World.setCell, World.drew]
  refine ⟨w.heap.size + 1, rfl, M3.be, by omega, .inr ⟨St.fresh n.toNat s.toNat fun _ => zeros s.toNat, PAll.new (L := L) (RL := RL) ((HD2.out.below HB3.out).kept (fun x hx => K x fun e => nP (e ▸ hx)) hz) (HD3.out.kept (fun x hx => K x fun e => nR (e ▸ hx)) hz) M3.row M3.be ?_ ?_ (by omega) ?_ nP nR, fun k => rfl⟩⟩
  · intro x hx
    have := HU1.out x hx
    omega
  · intro x hx
    have := HU3.out x hx
    omega
  · intro x hx hx2
    have := HD2.out.uLt x hx
    have := HU3.out x hx2
    omega
end Go.Proofs.YtlpmpicmpklaoacGreat
