import Derived.Test.YtepgiomgkgfioaaDoorMtUns
namespace Go.Proofs.YtepgiomgkgfioaaDoor
open Go.RowKit Go.Lib
set_option linter.unusedVariables false
set_option linter.unusedSimpArgs false
set_option maxRecDepth 20000

def sup0 : Sup := ⟨0, 0, 0, 0, 0, 0, 0, 0, 0, 0⟩
/-- what Unseal says -/
def uns (l : List Nat) : Sup × Int := if okSz l.length = true then (if chk l (l.length - 32) = 0 then (body l (l.length - 32), 0) else (sup0, chk l (l.length - 32))) else (sup0, 3)
def UnsPost (w : World) (l : List Nat) (e : Ending) (w' : World) : Prop := e = .returned (.tuple #[(uns l).1.val, .int .i64 (uns l).2]) ∧ Below w.heap.size w w'
theorem validLen (w : World) (n : Nat) : Calls Tryd.prog 29 #[.int .i64 (n : Int)] w fun e w' => e = .returned (.bool (okSz n)) ∧ w' = w := validSize_any w n
theorem results_two {P : Program} {fn : Func} {p q : Tmp} {ty tq : TypeId} (h : fn.results = #[.cell p ty, .cell q tq]) (tmps : Array Value) (w : World) (g : Nat) (t : TypeId) (cs : Array Value) (fr : Nat × Nat) (d : TypeDesc) (a : Addr) (v : Value)
    (hp : tmps.getD p undef = .pointer (some ⟨g, 0, none⟩)) (hg : w.heap[g]? = some (.cells cs t fr))
    (hu : P.underlying ty = some d) (hd : (match d with | .struct _ | .array _ _ => true | _ => false) = true) (hi : (P.info? ty).map (·.size) = some cs.size)
    (hq : tmps.getD q undef = .pointer (some a)) (hl : (loadVar tq a).run P w = .ok v w) :
    (results fn tmps).run P w = .ok (.tuple #[.agg cs, v]) w := by
  have hp' : tmps[p]?.getD undef = .pointer (some ⟨g, 0, none⟩) := by simpa using hp
  have hq' : tmps[q]?.getD undef = .pointer (some a) := by simpa using hq
  simp [results, h, hp', hq', asAddr, run_loadVar_row w g t ty cs fr d hg hu hd hi, hl]
theorem load_err {w : World} {h : Nat} {n : Int} (hc : w.cell? ⟨h, 0, none⟩ = some (.int .i64 n)) : (loadVar 32 ⟨h, 0, none⟩).run Tryd.prog w = .ok (.int .i64 n) w := by
  simp [loadVar, isAgg, run_underlying Tryd.underlying32, hc, go_sem]
theorem sup_size (s : Sup) : (Tryd.prog.info? 27).map (·.size) = some s.row.size := by kernel_rfl
/-- how Unseal leaves -/
theorem uns_leaves {w w' : World} {l : List Nat} {s : Sup} {n : Int} (tmps : Array Value) (h2 : tmps.getD 2 undef = .pointer (some ⟨w.heap.size, 0, none⟩)) (h3 : tmps.getD 3 undef = .pointer (some ⟨w.heap.size + 1, 0, none⟩)) (hs : w'.heap[w.heap.size]? = some (.cells s.row 27 (0, 0))) (he : w'.heap[w.heap.size + 1]? = some (.cells #[.int .i64 n] 32 (0, 0))) (hu : uns l = (s, n)) (hb : Below w.heap.size w w') :
    Leaves Tryd.prog Tryd.f27 tmps (fun e w' => UnsPost w l e w') [] .returning w' :=
  ⟨_, results_two rfl tmps w' w.heap.size 27 s.row (0, 0) _ ⟨w.heap.size + 1, 0, none⟩ (.int .i64 n) h2 hs Tryd.underlying27 rfl (sup_size s) h3 (load_err (cell_of_row _ _ _ _ _ _ he)), by show UnsPost w l _ w'; unfold UnsPost; rw [hu]; exact ⟨rfl, hb⟩⟩
set_option maxHeartbeats 1000000 in
theorem unseal_size (w : World) (v : Value) (l : List Nat) (hv : BSl w v l) (hs : okSz l.length = false) : Calls Tryd.prog 27 #[v] w fun e w' => UnsPost w l e w' := by
  have HU : Hid (uns l = (sup0, 3)) := hide (by rw [uns, hs]; rfl)
  have HV := hide fun x => validLen x l.length
  rw [hs] at HV
  have HB := hide (Below.refl w.heap.size w)
  obtain ⟨a, cap, rfl, h1, h2, -⟩ := hv
  unfold maxLen at h2
  clear hs
  have hmf : ∀ (fn : Fn) (first cap : Array Value) (w : World), (Instr.makeFunc fn first cap).run Tryd.prog w = .ok (.func fn first cap) w := fun _ _ _ _ => rfl
  go_enter_defers Tryd.func27, Tryd.ntmps27
  go_wp2_with (go_at_call 29; refine (HV.out _).mono ?_; rintro e w2 ⟨rfl, rfl⟩)
  exact uns_leaves _ rfl rfl (heap_two' w (.cells sup0.row 27) _) (heap_alloc2_new _ _ _) HU.out ((HB.out.alloc (Nat.le_refl _) _).alloc (by simp) _)
set_option maxHeartbeats 1000000 in
theorem unseal_ok (w : World) (b off m cap : Nat) (l : List Nat) (hv : BSl w (.slice (some ⟨b, off, none⟩) (m + 32) cap) l) (hl : l.length = m + 32) (hd : ∀ i, i < l.length → w.cell? ⟨b, off + i, none⟩ = some (.int .u8 (l.getD i 0 : Nat))) (hs : okSz ((m + 32 : Nat) : Int) = true) (hT : Tabs w) :
    Calls Tryd.prog 27 #[.slice (some ⟨b, off, none⟩) (m + 32) cap] w fun e w' => UnsPost w l e w' := by
  have HV := hide fun x => validLen x (m + 32)
  rw [hs] at HV
  have hsz := okSz_pos hs
  have hmm : 96 ≤ m ∧ m ≤ 992 := by omega
  have HB := hide (Below.refl w.heap.size w)
  have hW : Below w.heap.size w ((w.alloc (.cells zSup 27)).alloc (.cells #[.int .i64 0] 32)) := (HB.out.alloc (Nat.le_refl _) _).alloc (by simp) _
  have hlb : b < w.heap.size := World.block_lt_of_cell? w _ (hd 0 (by omega))
  have HRD := hide (read_any ((w.alloc (.cells zSup 27)).alloc (.cells #[.int .i64 0] 32)) b off m cap l (hv.below hW) hl (fun i hi => by rw [hW.cell (p := ⟨b, off + i, none⟩) hlb]; exact hd i hi) hmm.1 hmm.2 (hT.below hW))
  have HU : Hid (uns l = if chk l m = 0 then (body l m, 0) else (sup0, chk l m)) := hide (by rw [uns, hl, if_pos hs, Nat.add_sub_cancel])
  have H1 : Hid (((w.alloc (.cells zSup 27)).alloc (.cells #[.int .i64 0] 32)).heap[w.heap.size]? = some (.cells zSup 27 (0, 0))) := hide (heap_two' _ _ _)
  have H2 : Hid (((w.alloc (.cells zSup 27)).alloc (.cells #[.int .i64 0] 32)).heap[w.heap.size + 1]? = some (.cells #[.int .i64 0] 32 (0, 0))) := hide (heap_alloc2_new _ _ _)
  have HW := hide hW
  have hcap : m + 32 ≤ cap ∧ cap ≤ maxLen := by
    obtain ⟨a, c, e, h1, h2, _⟩ := hv
    rw [hl] at e h1
    cases e
    exact ⟨h1, h2⟩
  unfold maxLen at hcap
  have hws : ((w.alloc (.cells zSup 27)).alloc (.cells #[.int .i64 0] 32)).heap.size = w.heap.size + 2 := by simp
  have HWS := hide hws
  unfold zSup at HRD HW HWS
  clear hv hd hT hW hs hws
  have hmf : ∀ (fn : Fn) (first cap : Array Value) (w : World), (Instr.makeFunc fn first cap).run Tryd.prog w = .ok (.func fn first cap) w := fun _ _ _ _ => rfl
  go_enter_defers Tryd.func27, Tryd.ntmps27
  go_wp2_with (go_at_call 29; refine (HV.out _).mono ?_; rintro e w2 ⟨rfl, rfl⟩)
  refine HRD.out.mono ?_
  rintro e w3 ⟨hb3, ⟨h0, rfl⟩ | ⟨h0, rfl⟩⟩
  · have R1 := hide ((hb3.block w.heap.size (by rw [HWS.out]; omega)).trans H1.out)
    have R2 := hide ((hb3.block (w.heap.size + 1) (by rw [HWS.out]; omega)).trans H2.out)
    have HB3 := hide (HW.out.trans (hb3.mono (by rw [HWS.out]; omega)))
    have hs3 : w.heap.size + 2 ≤ w3.heap.size := by have := hb3.size; rw [HWS.out] at this; exact this
    clear hb3
    have hu1 : uns l = (body l m, 0) := by rw [HU.out, if_pos h0]
    have HSZ := hide (sup_size (body l m))
    have HON : Hid ((body l m).row.all (·.oneCell') = true) := hide (by simp [body, decF, Sup.row, Value.oneCell'])
    have HZS : Hid (zSup.size = (body l m).row.size) := hide rfl
    have R3 := hide (setRow_heap w3 w.heap.size zSup (body l m).row 27 (0, 0) R1.out)
    have R4 := hide ((setRow_other w3 w.heap.size (w.heap.size + 1) (body l m).row (by omega)).trans R2.out)
    have ce : (w3.setRow w.heap.size (body l m).row).cell? ⟨w.heap.size + 1, 0, none⟩ = some (.int .i64 0) := cell_of_row _ _ _ _ _ _ R4.out
    have ze := frozen_of_row _ _ 0 _ 32 R4.out
    have HB4 : Hid (Below w.heap.size w ((w3.setRow w.heap.size (body l m).row).setCell ⟨w.heap.size + 1, 0, none⟩ (.int .i64 0))) := hide ((HB3.out.trans (show Below w.heap.size w3 (w3.setRow w.heap.size (body l m).row) from ⟨rfl, rfl, rfl, by simp, fun k hk => setRow_other _ _ _ _ (by omega)⟩)).setCell (p := ⟨w.heap.size + 1, 0, none⟩) (by show w.heap.size ≤ w.heap.size + 1; omega) _)
    have R5 := hide ((Go.heap_setCell_other (w3.setRow w.heap.size (body l m).row) ⟨w.heap.size + 1, 0, none⟩ w.heap.size (.int .i64 0) (by show w.heap.size ≠ w.heap.size + 1; omega)).trans R3.out)
    have R6 := hide (Go.heap_setCell_same (w3.setRow w.heap.size (body l m).row) (w.heap.size + 1) 0 _ 32 (.int .i64 0) R4.out)
    dsimp only
    unfold Sup.val
    generalize hrow : (body l m).row = RW at *
    go_wp2_with (first
      | (refine wpList_store_row rfl 27 _ _ rfl w.heap.size RW (by first | rfl | simp [Act.eval, Act.put]) (by first | rfl | simp [Act.eval, Act.put]) 27 zSup R1.out HSZ.out HZS.out HON.out ?_))
    refine leaves_cons (f := 36) (args := #[.pointer (some ⟨w.heap.size, 0, none⟩), .pointer (some ⟨w.heap.size + 1, 0, none⟩)]) (by simp) (by simp [go_sem]) ?_
    refine (catch_idle _ _ _).mono ?_
    rintro e u' w'' ⟨rfl, rfl, rfl⟩
    subst hrow
    exact uns_leaves _ rfl rfl R5.out R6.out hu1 HB4.out
  · have R1 := hide ((hb3.block w.heap.size (by rw [HWS.out]; omega)).trans H1.out)
    have R2 := hide ((hb3.block (w.heap.size + 1) (by rw [HWS.out]; omega)).trans H2.out)
    have HB3 := hide (HW.out.trans (hb3.mono (by rw [HWS.out]; omega)))
    clear hb3
    have hu1 : uns l = (sup0, chk l m) := by rw [HU.out, if_neg h0]
    refine leaves_cons (f := 36) (args := #[.pointer (some ⟨w.heap.size, 0, none⟩), .pointer (some ⟨w.heap.size + 1, 0, none⟩)]) (by simp) (by simp [go_sem]) ?_
    refine (catch_panic w.heap.size (w.heap.size + 1) (by omega) (chk l m) [] w3 R1.out R2.out).mono ?_
    rintro e u' w'' ⟨rfl, rfl, hp1, hp2, hp3⟩
    exact uns_leaves (s := sup0) _ rfl rfl hp1 hp2 hu1 (HB3.out.trans (hp3 _ (Nat.le_refl _) (by omega)))
end Go.Proofs.YtepgiomgkgfioaaDoor
