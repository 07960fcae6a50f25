import Derived.Test.YtedhohamdbplhaaDoorWPk2
namespace Go.Proofs.YtedhohamdbplhaaDoor
open Go.RowKit
set_option linter.unusedVariables false
set_option linter.unusedSimpArgs false
set_option maxRecDepth 20000

/-- a packet's box -/
structure KM (w : World) (kb : Nat) (c : Int) (p : PV) (v : Value) : Prop where
  row : w.heap[kb]? = some (.cells (.int .i64 c :: p.row v).toArray 36 (0, 0))
  ok : p.Ok
theorem KM.cells {w : World} {kb : Nat} {c : Int} {p : PV} {v : Value} (h : KM w kb c p v) : w.cell? ⟨kb, 0, none⟩ = some (.int .i64 c) ∧ w.cell? ⟨kb, 1, none⟩ = some (.int .u32 (p.a : Int)) ∧ w.cell? ⟨kb, 2, none⟩ = some (.int .u32 (p.b : Int)) ∧ w.cell? ⟨kb, 3, none⟩ = some (.int .u32 (p.c : Int)) ∧ w.cell? ⟨kb, 4, none⟩ = some (.int .u32 (p.d : Int)) ∧ w.cell? ⟨kb, 5, none⟩ = some (.int .u32 (p.e : Int)) ∧ w.cell? ⟨kb, 6, none⟩ = some (.int .u64 (p.g0 : Int)) ∧ w.cell? ⟨kb, 7, none⟩ = some (.int .u64 (p.g1 : Int)) ∧ w.cell? ⟨kb, 8, none⟩ = some (.int .u64 (p.g2 : Int)) ∧ w.cell? ⟨kb, 9, none⟩ = some (.int .u64 (p.g3 : Int)) :=
  ⟨by rw [cell_of_row _ _ _ _ _ _ h.row]; rfl, by rw [cell_of_row _ _ _ _ _ _ h.row]; rfl, by rw [cell_of_row _ _ _ _ _ _ h.row]; rfl, by rw [cell_of_row _ _ _ _ _ _ h.row]; rfl, by rw [cell_of_row _ _ _ _ _ _ h.row]; rfl, by rw [cell_of_row _ _ _ _ _ _ h.row]; rfl, by rw [cell_of_row _ _ _ _ _ _ h.row]; rfl, by rw [cell_of_row _ _ _ _ _ _ h.row]; rfl, by rw [cell_of_row _ _ _ _ _ _ h.row]; rfl, by rw [cell_of_row _ _ _ _ _ _ h.row]; rfl⟩
theorem KM.rng {w : World} {kb : Nat} {c : Int} {p : PV} {v : Value} (h : KM w kb c p v) : w.rangeAt kb 10 (u8L p.s) := fun j x hx => by
  rw [cell_of_row _ _ _ _ _ _ h.row, List.getElem?_toArray, show 10 + j = (9 + j) + 1 by omega, List.getElem?_cons_succ]
  exact row_sum p v hx
theorem KM.dat {w : World} {kb : Nat} {c : Int} {p : PV} {v : Value} (h : KM w kb c p v) : w.cell? ⟨kb, 42, none⟩ = some v := by
  rw [cell_of_row _ _ _ _ _ _ h.row, List.getElem?_toArray, List.getElem?_cons_succ]
  exact row_dat h.ok.n v
theorem KM.all {w : World} {kb : Nat} {c : Int} {p : PV} {v : Value} (h : KM w kb c p v) : w.rangeAt kb 0 (.int .i64 c :: p.row v) := fun j x hx => by
  rw [cell_of_row _ _ _ _ _ _ h.row, List.getElem?_toArray, Nat.zero_add]; exact hx
theorem KM.below {w x : World} {kb : Nat} {c : Int} {p : PV} {v : Value} (h : KM w kb c p v) (hb : Below w.heap.size w x) : KM x kb c p v :=
  ⟨(hb.block _ (Array.getElem?_eq_some_iff.1 h.row).1).trans h.row, h.ok⟩

set_option maxHeartbeats 1000000 in
theorem partsOf_any (w : World) (c : Int) (p : PV) (da : Option Addr) (dn dc : Nat) (hp : p.Ok) (hd : BSl w (.slice da dn dc) p.dl) (hlt : ∀ g, (Value.slice da dn dc).ownBlock = some g → g < w.heap.size) :
    Calls Tryd.prog 22 #[pkV c p (.slice da dn dc)] w fun e' w' => ∃ pb, e' = .returned (.pointer (some ⟨pb, 0, none⟩)) ∧ PM w' pb p (.slice da dn dc) ∧ w.heap.size ≤ pb ∧ Below w.heap.size w w' := by
  have HB : Hid (∀ L, L = [(0, .agg #[.int .u32 (p.a : Int), .int .u32 (p.b : Int), .int .u32 (p.c : Int), .int .u32 (p.d : Int), .int .u32 (p.e : Int)]), (1, .agg #[.int .u64 (p.g0 : Int), .int .u64 (p.g1 : Int), .int .u64 (p.g2 : Int), .int .u64 (p.g3 : Int)]), (2, .agg (u8L p.s).toArray), (3, .slice da dn dc)] → Tryd.prog.built 79 L = some (p.row (.slice da dn dc)).toArray) := hide (fun L hL => by rw [hL]; exact built_parts' p hp.n da dn dc)
  have HK : Hid (KM (w.alloc (.cells (.int .i64 c :: p.row (.slice da dn dc)).toArray 36)) w.heap.size c p (.slice da dn dc)) := hide ⟨Go.heap_alloc_new w _, hp⟩
  have HY := hide ((Below.refl w.heap.size w).alloc (Nat.le_refl _) (.cells (.int .i64 c :: p.row (.slice da dn dc)).toArray 36))
  unfold pkV
  have HSZ : Hid ((w.alloc (.cells (.int .i64 c :: p.row (.slice da dn dc)).toArray 36)).heap.size = w.heap.size + 1) := hide (by simp)
  have HFIN : Hid (∀ y : World, Below w.heap.size w y → y.heap.size = w.heap.size + 1 → PM (y.alloc (.cells (p.row (.slice da dn dc)).toArray 79)) (w.heap.size + 1) p (.slice da dn dc)) := hide fun y hb hs => by
    have hb2 : Below w.heap.size w (y.alloc (.cells (p.row (.slice da dn dc)).toArray 79)) := hb.alloc hb.size _
    exact ⟨by rw [← hs]; exact Go.heap_alloc_new y _, hp, hd.below hb2, fun e => by have := hlt _ e; omega⟩
  generalize (.int .i64 c :: p.row (.slice da dn dc)).toArray = CS at *
  generalize hrow : (p.row (.slice da dn dc)).toArray = RS at *
  obtain ⟨k0, k1, k2, k3, k4, k5, k6, k7, k8, k9⟩ := HK.out.cells
  have HR := hide HK.out.rng
  have kd := HK.out.dat
  have HL : Hid ((u8L p.s).length = 32) := hide ((u8L_len _).trans hp.n)
  generalize u8L p.s = SL at *
  have HI : Hid ((Tryd.prog.info? 33).map (·.size) = some SL.length) := hide (by rw [HL.out]; exact infoS)
  generalize p.a = a at *
  generalize p.b = b at *
  generalize p.c = c' at *
  generalize p.d = d at *
  generalize p.e = e at *
  generalize p.g0 = g0 at *
  generalize p.g1 = g1 at *
  generalize p.g2 = g2 at *
  generalize p.g3 = g3 at *
  clear hp hd hlt hrow HK
  go_enter Tryd.func22, Tryd.ntmps22
  go_wp2_with (first
    | (refine wpList_load_mid rfl 33 _ rfl w.heap.size 10 (by first | rfl | simp [Act.eval, Act.put]) SL _ HR.out Tryd.underlying33 rfl HI.out ?_)
    | (refine wpList_bd rfl 79 _ rfl RS (HB.out _ (by kernel_rfl)) ?_))
  refine bodyPost_ret (v := .pointer (some ⟨w.heap.size + 1, 0, none⟩)) (by simp [results, Tryd.results22, go_sem]) rfl ⟨_, rfl, HFIN.out _ HY.out HSZ.out, by omega, HY.out.alloc (by rw [HSZ.out]; omega) _⟩
end Go.Proofs.YtedhohamdbplhaaDoor
