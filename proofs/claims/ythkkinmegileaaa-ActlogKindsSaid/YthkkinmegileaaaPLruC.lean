import Derived.Test.YthkkinmegileaaaPLruB
namespace Go.Proofs.Ythkkinmegileaaa.Sp
open Go.RowKit Go.Sort
set_option linter.unusedVariables false
set_option linter.unusedSimpArgs false
set_option maxRecDepth 20000

theorem results_tmp5c {P : Program} {fn : Func} {t u p x y : Tmp} {ty : TypeId} (h : fn.results = #[.tmp t, .tmp u, .cell p ty, .tmp x, .tmp y]) (tmps : Array Value) (w : World) (g : Nat) (T : TypeId) (cs : Array Value) (fr : Nat × Nat) (d : TypeDesc)
    (hp : tmps.getD p undef = .pointer (some ⟨g, 0, none⟩)) (hg : w.heap[g]? = some (.cells cs T fr))
    (hu : P.underlying ty = some d) (hd : (match d with | .struct _ | .array _ _ => true | _ => false) = true) (hi : (P.info? ty).map (·.size) = some cs.size) :
    (results fn tmps).run P w = .ok (.tuple #[tmps.getD t undef, tmps.getD u undef, .agg cs, tmps.getD x undef, tmps.getD y undef]) w := by
  have hp' : tmps[p]?.getD undef = .pointer (some ⟨g, 0, none⟩) := by simpa using hp
  simp [results, h, hp', asAddr, run_loadVar_row w g T ty cs fr d hg hu hd hi]
theorem LRep.boxed2 {w : World} {p bm : Nat} {kv rv iv : Value} {S : LS} (h : LRep w p bm kv rv iv S) (key : Int) {D : DataW Unit} (ho : w.ownsMap Try.prog 34 (plainElem Try.prog 3) bm 16 D) :
    (((w.alloc (.cells #[.int .i64 (pA key), .int .u8 (pB key)] 34)).alloc (.cells #[.int .i64 0, .int .u8 0] 34)).cell? ⟨w.heap.size, 0, none⟩ = some (.int .i64 (pA key)) ∧ ((w.alloc (.cells #[.int .i64 (pA key), .int .u8 (pB key)] 34)).alloc (.cells #[.int .i64 0, .int .u8 0] 34)).cell? ⟨w.heap.size, 1, none⟩ = some (.int .u8 (pB key)) ∧ ((w.alloc (.cells #[.int .i64 (pA key), .int .u8 (pB key)] 34)).alloc (.cells #[.int .i64 0, .int .u8 0] 34)).cell? ⟨p, 1, none⟩ = some (.map (some bm)) ∧ ((w.alloc (.cells #[.int .i64 (pA key), .int .u8 (pB key)] 34)).alloc (.cells #[.int .i64 0, .int .u8 0] 34)).ownsMap Try.prog 34 (plainElem Try.prog 3) bm 16 D) ∧ ((w.alloc (.cells #[.int .i64 (pA key), .int .u8 (pB key)] 34)).alloc (.cells #[.int .i64 0, .int .u8 0] 34)).heap[w.heap.size]? = some (.cells #[.int .i64 (pA key), .int .u8 (pB key)] 34 (0, 0)) ∧ ((w.alloc (.cells #[.int .i64 (pA key), .int .u8 (pB key)] 34)).alloc (.cells #[.int .i64 0, .int .u8 0] 34)).heap[w.heap.size + 1]? = some (.cells #[.int .i64 0, .int .u8 0] 34 (0, 0)) := by
  have hb0 := (Below.refl w.heap.size w).alloc (Nat.le_refl _) (.cells #[.int .i64 (pA key), .int .u8 (pB key)] 34)
  have hb := hb0.alloc hb0.size (.cells #[.int .i64 0, .int .u8 0] 34)
  have z0 : (w.alloc (.cells #[.int .i64 (pA key), .int .u8 (pB key)] 34)).heap.size = w.heap.size + 1 := by simp
  have a0 := Go.heap_alloc_new w (.cells #[.int .i64 (pA key), .int .u8 (pB key)] 34)
  have a1 := Go.heap_alloc_new (w.alloc (.cells #[.int .i64 (pA key), .int .u8 (pB key)] 34)) (.cells #[.int .i64 0, .int .u8 0] 34)
  rw [z0] at a1
  have hn := (Below.heap_alloc (w.alloc (.cells #[.int .i64 (pA key), .int .u8 (pB key)] 34)) (.cells #[.int .i64 0, .int .u8 0] 34) w.heap.size (by rw [z0]; omega)).trans a0
  refine ⟨⟨by rw [cell_of_row _ _ _ _ _ _ hn]; rfl, by rw [cell_of_row _ _ _ _ _ _ hn]; rfl, (h.below hb).c 1, ?_⟩, hn, a1⟩
  obtain ⟨es, clock, h1, r⟩ := ho
  exact ⟨es, clock, (hb.block _ (Array.getElem?_eq_some_iff.1 h1).1).trans h1, r⟩
/-- a pair's box, whose two cells are written over as they are -/
theorem box_facts {w1 : World} {N : Nat} {a b : Int} (b1 : w1.heap[N]? = some (.cells #[.int .i64 a, .int .u8 b] 34 (0, 0))) :
    w1.cell? ⟨N, 0, none⟩ = some (.int .i64 a) ∧ w1.cell? ⟨N, 1, none⟩ = some (.int .u8 b) ∧ w1.frozen? ⟨N, 0, none⟩ = false ∧
    (w1.setCell ⟨N, 0, none⟩ (.int .i64 a)).cell? ⟨N, 1, none⟩ = some (.int .u8 b) ∧ (w1.setCell ⟨N, 0, none⟩ (.int .i64 a)).frozen? ⟨N, 1, none⟩ = false ∧
    (w1.setCell ⟨N, 0, none⟩ (.int .i64 a)).drew.cell? ⟨N, 1, none⟩ = some (.int .u8 b) ∧ (w1.setCell ⟨N, 0, none⟩ (.int .i64 a)).drew.frozen? ⟨N, 1, none⟩ = false ∧
    (((w1.setCell ⟨N, 0, none⟩ (.int .i64 a)).setCell ⟨N, 1, none⟩ (.int .u8 b)).drew).heap[N]? = some (.cells #[.int .i64 a, .int .u8 b] 34 (0, 0)) ∧
    (∀ j, j ≠ N → (((w1.setCell ⟨N, 0, none⟩ (.int .i64 a)).setCell ⟨N, 1, none⟩ (.int .u8 b)).drew).heap[j]? = w1.heap[j]?) ∧
    (((w1.setCell ⟨N, 0, none⟩ (.int .i64 a)).setCell ⟨N, 1, none⟩ (.int .u8 b)).drew).heap.size = w1.heap.size := by
  have hs1 := Go.heap_setCell_same w1 N 0 _ 34 (.int .i64 a) b1
  have k4 : (w1.setCell ⟨N, 0, none⟩ (.int .i64 a)).cell? ⟨N, 1, none⟩ = some (.int .u8 b) := by rw [cell_of_row _ _ _ _ _ _ hs1]; rfl
  have f2 : (w1.setCell ⟨N, 0, none⟩ (.int .i64 a)).frozen? ⟨N, 1, none⟩ = false := frozen_of_row _ _ _ _ 34 hs1
  refine ⟨by rw [cell_of_row _ _ _ _ _ _ b1]; rfl, by rw [cell_of_row _ _ _ _ _ _ b1]; rfl, frozen_of_row _ _ _ _ 34 b1, k4, f2, k4, f2, Go.heap_setCell_same _ N 1 _ 34 (.int .u8 b) hs1, fun j hj => (Go.heap_setCell_other _ _ _ _ (by exact hj)).trans (Go.heap_setCell_other _ _ _ _ (by exact hj)), ?_⟩
  show (World.setCell _ _ _).heap.size = _
  rw [World.size_setCell, World.size_setCell]
theorem lu_same {p bm : Nat} {kv rv iv iv' : Value} (h : iv'.ownBlock = iv.ownBlock) {b : Nat} (hb : LU p bm kv rv iv' b) : LU p bm kv rv iv b := by
  rcases hb with e | e | e | e | e
  · exact .inl e
  · exact .inr (.inl e)
  · exact .inr (.inr (.inl e))
  · exact .inr (.inr (.inr (.inl e)))
  · exact .inr (.inr (.inr (.inr (h ▸ e))))
/-- the pair that went, or the empty one -/
def oldV (gone : Bool) (old : Int) : Value := if gone then .agg #[.int .i64 (pA old), .int .u8 (pB old)] else .agg #[.int .i64 0, .int .u8 0]
set_option maxHeartbeats 2000000 in
theorem Get_any {w : World} {p bm : Nat} {kv rv iv : Value} {S : LS} {M : Nat} {key : Int} (h0 : LRep w p bm kv rv iv S) (hS : S.Ok M) (hM : M ≤ 4611686018427387904) (hk : i64ok key) :
    Calls Try.prog 31 #[.pointer (some ⟨p, 0, none⟩), .agg #[.int .i64 (pA key), .int .u8 (pB key)]] w fun e w' => ∃ S' slot fresh old gone er kv' rv' iv', GetRes S key S' slot fresh old gone er ∧ e = .returned (.tuple #[.int .i64 (slot : Int), .bool fresh, oldV gone old, .bool gone, .int .i64 er]) ∧ LRep w' p bm kv' rv' iv' S' ∧ S'.Ok (M + 1) ∧ Chg (LU p bm kv rv iv) w w' ∧ LLoc w p bm kv rv iv kv' rv' iv' := by
  have hkey := keyS hk
  obtain ⟨D, hown, hD1, hD2⟩ := h0.look hS key
  obtain ⟨q1, q2, q3⟩ := h0.boxed2 key hown
  have HS0 := hide q1
  have hlt := h0.lt
  have hb0 := (Below.refl w.heap.size w).alloc (Nat.le_refl _) (.cells #[.int .i64 (pA key), .int .u8 (pB key)] 34)
  have hb := (hb0.alloc hb0.size (.cells #[.int .i64 0, .int .u8 0] 34)).drew
  obtain ⟨x, hx⟩ : ∃ x, x = ((w.alloc (.cells #[.int .i64 (pA key), .int .u8 (pB key)] 34)).alloc (.cells #[.int .i64 0, .int .u8 0] 34)).drew := ⟨_, rfl⟩
  rw [← hx] at hb
  have HZ : Hid (x.heap[w.heap.size]? = some (.cells #[.int .i64 (pA key), .int .u8 (pB key)] 34 (0, 0)) ∧ x.heap[w.heap.size + 1]? = some (.cells #[.int .i64 0, .int .u8 0] 34 (0, 0))) := hide (by rw [hx]; exact ⟨q2, q3⟩)
  have HX := hide hx
  have h := h0.below hb
  have HB : Hid (Chg (LU p bm kv rv iv) w x ∧ w.heap.size ≤ x.heap.size) := hide ⟨Chg.ofBelow hb, hb.size⟩
  have HLT := hide hlt
  clear hx hb h0 hb0 q1 q2 q3 hlt
  by_cases hin : key ∈ S.ks
  · obtain ⟨s, hs⟩ := List.getElem?_of_mem hin
    obtain ⟨hh, hc⟩ := hD1 s hs
    have hsr : s < S.rs.length := by rw [hS.rl]; exact (List.getElem?_eq_some_iff.1 hs).1
    have hrs : S.rs[s]? = some S.rs[s] := List.getElem?_eq_getElem hsr
    have HT := hide (take_any h hS hM hrs)
    have HOK := hide (hS.take hrs)
    have HG : Hid (GetRes S key (S.take s) s false 0 false 0) := hide (.inl ⟨s, hs, rfl, rfl, rfl, rfl, rfl, rfl⟩)
    clear h hS hs hrs hsr hD1 hD2 hin hown
    go_enter Try.func31, Try.ntmps31
    go_wp2_with fail
    refine wp_region_held_drew (S := fun z => z.cell? ⟨w.heap.size, 0, none⟩ = some (.int .i64 (pA key)) ∧ z.cell? ⟨w.heap.size, 1, none⟩ = some (.int .u8 (pB key)) ∧ z.cell? ⟨p, 1, none⟩ = some (.map (some bm)) ∧ z.ownsMap Try.prog 34 (plainElem Try.prog 3) bm 16 D) (by kernel_rfl) HS0.out (fun hHeld => ?_)
    refine wpAnyH_take (i := 0) (v := .pointer (some ⟨p, 0, none⟩)) rfl (by kernel_rfl) (by kernel_rfl) (by kernel_rfl) (fun _ _ _ h => h) (Or.inl ⟨by rfl, ?ha0⟩) hHeld ?ra0
    case ha0 => intro w' hSw; obtain ⟨e0, e1, e2, e3⟩ := hSw; go_simp; (try with_reducible rfl)
    (try simp only [Act.put, List.getElem_toArray, List.getElem_cons_succ, List.getElem_cons_zero, List.setIfInBounds_toArray, List.set_cons_zero, List.set_cons_succ])
    refine wpAnyH_take (i := 1) (v := .pointer (some ⟨p, 0, none⟩)) rfl (by kernel_rfl) (by kernel_rfl) (by kernel_rfl) (fun _ _ _ h => h) (Or.inl ⟨by rfl, ?ha1⟩) hHeld ?ra1
    case ha1 => intro w' hSw; obtain ⟨e0, e1, e2, e3⟩ := hSw; go_simp; (try with_reducible rfl)
    (try simp only [Act.put, List.getElem_toArray, List.getElem_cons_succ, List.getElem_cons_zero, List.setIfInBounds_toArray, List.set_cons_zero, List.set_cons_succ])
    refine wpAnyH_take (i := 2) (v := .pointer (some ⟨p, 1, none⟩)) rfl (by kernel_rfl) (by kernel_rfl) (by kernel_rfl) (fun _ _ _ h => h) (Or.inl ⟨by rfl, ?ha2⟩) hHeld ?ra2
    case ha2 => intro w' hSw; obtain ⟨e0, e1, e2, e3⟩ := hSw; go_simp; (try with_reducible rfl)
    (try simp only [Act.put, List.getElem_toArray, List.getElem_cons_succ, List.getElem_cons_zero, List.setIfInBounds_toArray, List.set_cons_zero, List.set_cons_succ])
    refine wpAnyH_take (i := 3) (v := .map (some bm)) rfl (by kernel_rfl) (by kernel_rfl) (by kernel_rfl) (fun _ _ _ h => h) (Or.inl ⟨by rfl, ?ha3⟩) hHeld ?ra3
    case ha3 => intro w' hSw; obtain ⟨e0, e1, e2, e3⟩ := hSw; go_simp; (try with_reducible rfl)
    (try simp only [Act.put, List.getElem_toArray, List.getElem_cons_succ, List.getElem_cons_zero, List.setIfInBounds_toArray, List.set_cons_zero, List.set_cons_succ])
    refine wpAnyH_take (i := 4) (v := .agg #[.int .i64 (pA key), .int .u8 (pB key)]) rfl (by kernel_rfl) (by kernel_rfl) (by kernel_rfl) (fun _ _ _ h => h) (Or.inl ⟨by rfl, ?ha4⟩) hHeld ?ra4
    case ha4 => intro w' hSw; obtain ⟨e0, e1, e2, e3⟩ := hSw; go_simp; (try with_reducible rfl)
    (try simp only [Act.put, List.getElem_toArray, List.getElem_cons_succ, List.getElem_cons_zero, List.setIfInBounds_toArray, List.set_cons_zero, List.set_cons_succ])
    refine wpAnyH_take (i := 5) (v := .tuple #[.int .i64 (s : Int), .bool true]) rfl (by kernel_rfl) (by kernel_rfl) (by kernel_rfl) (fun _ _ _ h => h) ?ha5 hHeld ?ra5
    case ha5 =>
      exact yieldsIf_lookup (by kernel_rfl) (.tmp 14) (.tmp 15) 75 rfl 34 3 kStr Try.underlying75 Try.underlying3 zeroI bm 16 D (by kernel_rfl) (fun z hz => hz.2.2.2) _ (kL key) (by kernel_rfl) hkey _ hc hh
    (try simp only [Act.put, List.getElem_toArray, List.getElem_cons_succ, List.getElem_cons_zero, List.setIfInBounds_toArray, List.set_cons_zero, List.set_cons_succ])
    refine wpAnyH_take (i := 6) (v := .tuple #[.int .i64 (s : Int), .bool true]) rfl (by kernel_rfl) (by kernel_rfl) (by kernel_rfl) (fun _ _ _ h => h) (Or.inl ⟨by rfl, ?ha6⟩) hHeld ?ra6
    case ha6 => intro w' hSw; obtain ⟨e0, e1, e2, e3⟩ := hSw; go_simp; (try with_reducible rfl)
    (try simp only [Act.put, List.getElem_toArray, List.getElem_cons_succ, List.getElem_cons_zero, List.setIfInBounds_toArray, List.set_cons_zero, List.set_cons_succ])
    refine wpAnyH_take (i := 7) (v := .int .i64 (s : Int)) rfl (by kernel_rfl) (by kernel_rfl) (by kernel_rfl) (fun _ _ _ h => h) (Or.inl ⟨by rfl, ?ha7⟩) hHeld ?ra7
    case ha7 => intro w' hSw; obtain ⟨e0, e1, e2, e3⟩ := hSw; go_simp; (try with_reducible rfl)
    (try simp only [Act.put, List.getElem_toArray, List.getElem_cons_succ, List.getElem_cons_zero, List.setIfInBounds_toArray, List.set_cons_zero, List.set_cons_succ])
    refine wpAnyH_take (i := 8) (v := .bool true) rfl (by kernel_rfl) (by kernel_rfl) (by kernel_rfl) (fun _ _ _ h => h) (Or.inl ⟨by rfl, ?ha8⟩) hHeld ?ra8
    case ha8 => intro w' hSw; obtain ⟨e0, e1, e2, e3⟩ := hSw; go_simp; (try with_reducible rfl)
    (try simp only [Act.put, List.getElem_toArray, List.getElem_cons_succ, List.getElem_cons_zero, List.setIfInBounds_toArray, List.set_cons_zero, List.set_cons_succ])
    refine wpAnyH_take (i := 9) (v := .int .i64 (s : Int)) rfl (by kernel_rfl) (by kernel_rfl) (by kernel_rfl) (fun _ _ _ h => h) (Or.inl ⟨by rfl, ?ha9⟩) hHeld ?ra9
    case ha9 => intro w' hSw; obtain ⟨e0, e1, e2, e3⟩ := hSw; go_simp; (try with_reducible rfl)
    (try simp only [Act.put, List.getElem_toArray, List.getElem_cons_succ, List.getElem_cons_zero, List.setIfInBounds_toArray, List.set_cons_zero, List.set_cons_succ])
    refine wpAnyH_take (i := 10) (v := .bool true) rfl (by kernel_rfl) (by kernel_rfl) (by kernel_rfl) (fun _ _ _ h => h) (Or.inl ⟨by rfl, ?ha10⟩) hHeld ?ra10
    case ha10 => intro w' hSw; obtain ⟨e0, e1, e2, e3⟩ := hSw; go_simp; (try with_reducible rfl)
    (try simp only [Act.put, List.getElem_toArray, List.getElem_cons_succ, List.getElem_cons_zero, List.setIfInBounds_toArray, List.set_cons_zero, List.set_cons_succ])
    refine wpAnyH_done ?hra ?hqa _
    case hra => kernel_rfl
    case hqa =>
    (try simp only [Act.put, List.getElem_toArray, List.getElem_cons_succ, List.getElem_cons_zero, List.setIfInBounds_toArray, List.set_cons_zero, List.set_cons_succ])
    clear hHeld hc hh HS0
    rw [← HX.out]
    go_wp2_with (first
      | (go_at_call 55; refine HT.out.mono ?_; rintro e w1 ⟨rfl, iv', q1, q2, q3⟩; have HR := hide (And.intro q1 (And.intro q2 q3)); clear q1 q2 q3
         have b1 : w1.heap[w.heap.size + 1]? = some (.cells #[.int .i64 0, .int .u8 0] 34 (0, 0)) := (HR.out.2.2.keep _ (Array.getElem?_eq_some_iff.1 HZ.out.2).1 (fun e => by have := HLT.out _ e; omega)).trans HZ.out.2
         have u0 : w1.cell? ⟨w.heap.size + 1, 0, none⟩ = some (.int .i64 0) := by rw [cell_of_row _ _ _ _ _ _ b1]; rfl
         have u1 : w1.cell? ⟨w.heap.size + 1, 1, none⟩ = some (.int .u8 0) := by rw [cell_of_row _ _ _ _ _ _ b1]; rfl
         have f0 : w1.frozen? ⟨w.heap.size + 1, 0, none⟩ = false := frozen_of_row _ _ _ _ 34 b1
         have hs1 := Go.heap_setCell_same w1 (w.heap.size + 1) 0 _ 34 (.int .i64 0) b1
         have k4 : (w1.setCell ⟨w.heap.size + 1, 0, none⟩ (.int .i64 0)).cell? ⟨w.heap.size + 1, 1, none⟩ = some (.int .u8 0) := by rw [cell_of_row _ _ _ _ _ _ hs1]; rfl
         have f2 : (w1.setCell ⟨w.heap.size + 1, 0, none⟩ (.int .i64 0)).frozen? ⟨w.heap.size + 1, 1, none⟩ = false := frozen_of_row _ _ _ _ 34 hs1
         have k4d : (w1.setCell ⟨w.heap.size + 1, 0, none⟩ (.int .i64 0)).drew.cell? ⟨w.heap.size + 1, 1, none⟩ = some (.int .u8 0) := k4
         have f2d : (w1.setCell ⟨w.heap.size + 1, 0, none⟩ (.int .i64 0)).drew.frozen? ⟨w.heap.size + 1, 1, none⟩ = false := f2
         have HS1 := hide hs1
         clear hs1 b1))
    go_region_law fail
    go_wp2_with fail
    (try simp only [Exit.inBlock, Exit.then])
    have hrow : (((w1.setCell ⟨w.heap.size + 1, 0, none⟩ (.int .i64 0)).setCell ⟨w.heap.size + 1, 1, none⟩ (.int .u8 0)).drew).heap[w.heap.size + 1]? = some (.cells #[.int .i64 0, .int .u8 0] 34 (0, 0)) := Go.heap_setCell_same _ (w.heap.size + 1) 1 _ 34 (.int .u8 0) HS1.out
    have hfar : ∀ b, b < w.heap.size → (((w1.setCell ⟨w.heap.size + 1, 0, none⟩ (.int .i64 0)).setCell ⟨w.heap.size + 1, 1, none⟩ (.int .u8 0)).drew).heap[b]? = w1.heap[b]? := fun b hb => (Go.heap_setCell_other _ _ _ _ (by show b ≠ w.heap.size + 1; omega)).trans (Go.heap_setCell_other _ _ _ _ (by show b ≠ w.heap.size + 1; omega))
    have hC := HB.out.1.trans HR.out.2.2
    refine bodyPost_ret (results_tmp5c (p := 6) rfl _ _ (w.heap.size + 1) 34 #[.int .i64 0, .int .u8 0] (0, 0) _ (by kernel_rfl) hrow Try.underlying34 rfl info2) rfl ?_
    exact ⟨_, _, _, _, _, _, _, _, _, HG.out, rfl, HR.out.1.kept (fun b hb => hfar b (HLT.out b (lu_same HR.out.2.1 hb))), HOK.out, ⟨hC.os, hC.tape, hC.output, by show _ ≤ (World.setCell _ _ _).heap.size; rw [World.size_setCell, World.size_setCell]; exact hC.size, fun b hb hn => (hfar b hb).trans (hC.keep b hb hn)⟩, LLoc.refl HR.out.2.1⟩
  obtain ⟨hh, hc⟩ := hD2 hin
  have hkl := hS.kl
  have hsl := hS.s2
  obtain ⟨ak, ck, ekv, hk1, hk2⟩ := rowForm h.ko
  obtain ⟨ai, ci, eiv, hi1, hi2⟩ := rowForm h.io
  subst ekv eiv
  have c0 : x.cell? ⟨p, 0, none⟩ = some (.int .i64 (S.slots : Int)) := h.c 0
  have c2 : x.cell? ⟨p, 2, none⟩ = some (.slice ak S.ks.length ck) := h.c 2
  have c4 : x.cell? ⟨p, 4, none⟩ = some (.slice ai S.idle.length ci) := h.c 4
  unfold maxLen at hk2 hi2
  have HD : Hid (∀ j, LRep (x.drewN j) p bm (.slice ak S.ks.length ck) rv (.slice ai S.idle.length ci) S ∧ Below x.heap.size x (x.drewN j)) := hide fun j => by
    have hb : Below x.heap.size x (x.drewN j) := ⟨rfl, rfl, rfl, Nat.le_refl _, fun _ _ => rfl⟩
    exact ⟨h.below hb, hb⟩
  have HKD : Hid (∀ j, (x.drewN j).cell? ⟨w.heap.size, 0, none⟩ = some (.int .i64 (pA key)) ∧ (x.drewN j).cell? ⟨w.heap.size, 1, none⟩ = some (.int .u8 (pB key))) := hide fun j => ⟨by rw [cell_of_row _ _ _ _ _ _ (show (x.drewN j).heap[w.heap.size]? = _ from HZ.out.1)]; rfl, by rw [cell_of_row _ _ _ _ _ _ (show (x.drewN j).heap[w.heap.size]? = _ from HZ.out.1)]; rfl⟩
  have HZ1 : Hid (∀ w1, Chg (LU p bm (.slice ak S.ks.length ck) rv (.slice ai S.idle.length ci)) x w1 → w1.heap[w.heap.size + 1]? = some (.cells #[.int .i64 0, .int .u8 0] 34 (0, 0))) := hide fun w1 q => (q.keep _ (Array.getElem?_eq_some_iff.1 HZ.out.2).1 (fun e => by have := HLT.out _ e; omega)).trans HZ.out.2
  have HZN : Hid (∀ kv' rv' iv', LLoc x p bm (.slice ak S.ks.length ck) rv (.slice ai S.idle.length ci) kv' rv' iv' → ¬ LU p bm kv' rv' iv' (w.heap.size + 1)) := hide fun kv' rv' iv' q e => by
    have hl := (Array.getElem?_eq_some_iff.1 HZ.out.2).1
    rcases q _ e with e | e
    · have := HLT.out _ e; omega
    · omega
  by_cases hroom : S.ks.length < S.slots
  · have HA : Hid (∀ j, Calls Try.prog 56 #[.pointer (some ⟨p, 0, none⟩), .agg #[.int .i64 (pA key), .int .u8 (pB key)]] (x.drewN j) fun e w' => e = .returned (.int .i64 (S.ks.length : Int)) ∧ ∃ kv' rv', LRep w' p bm kv' rv' (.slice ai S.idle.length ci) (S.add key) ∧ Chg (LU p bm (.slice ak S.ks.length ck) rv (.slice ai S.idle.length ci)) x w' ∧ LLoc x p bm (.slice ak S.ks.length ck) rv (.slice ai S.idle.length ci) kv' rv' (.slice ai S.idle.length ci)) := hide fun j => by
      obtain ⟨q1, q2⟩ := HD.out j
      refine (add_any q1 hS hk hin hroom).mono ?_
      rintro e w' ⟨rfl, kv', rv', z1, z2, z3⟩
      exact ⟨rfl, kv', rv', z1, (Chg.ofBelow q2).trans z2, fun b e => (z3 b e).imp id fun e => Nat.le_trans q2.size e⟩
    have HOK := hide (hS.add hk hin hroom)
    have HG : Hid (GetRes S key (S.add key) S.ks.length true 0 false 0) := hide (.inr (.inl ⟨hin, hroom, rfl, rfl, rfl, rfl, rfl, rfl⟩))
    clear h hS hD1 hD2 hin hown
    generalize S.ks.length = nk at *
    generalize S.idle.length = ni at *
    generalize S.slots = ns at *
    go_enter Try.func31, Try.ntmps31
    go_wp2_with fail
    refine wp_region_held_drew (S := fun z => z.cell? ⟨w.heap.size, 0, none⟩ = some (.int .i64 (pA key)) ∧ z.cell? ⟨w.heap.size, 1, none⟩ = some (.int .u8 (pB key)) ∧ z.cell? ⟨p, 1, none⟩ = some (.map (some bm)) ∧ z.ownsMap Try.prog 34 (plainElem Try.prog 3) bm 16 D) (by kernel_rfl) HS0.out (fun hHeld => ?_)
    refine wpAnyH_take (i := 0) (v := .pointer (some ⟨p, 0, none⟩)) rfl (by kernel_rfl) (by kernel_rfl) (by kernel_rfl) (fun _ _ _ h => h) (Or.inl ⟨by rfl, ?hb0⟩) hHeld ?rb0
    case hb0 => intro w' hSw; obtain ⟨e0, e1, e2, e3⟩ := hSw; go_simp; (try with_reducible rfl)
    (try simp only [Act.put, List.getElem_toArray, List.getElem_cons_succ, List.getElem_cons_zero, List.setIfInBounds_toArray, List.set_cons_zero, List.set_cons_succ])
    refine wpAnyH_take (i := 1) (v := .pointer (some ⟨p, 0, none⟩)) rfl (by kernel_rfl) (by kernel_rfl) (by kernel_rfl) (fun _ _ _ h => h) (Or.inl ⟨by rfl, ?hb1⟩) hHeld ?rb1
    case hb1 => intro w' hSw; obtain ⟨e0, e1, e2, e3⟩ := hSw; go_simp; (try with_reducible rfl)
    (try simp only [Act.put, List.getElem_toArray, List.getElem_cons_succ, List.getElem_cons_zero, List.setIfInBounds_toArray, List.set_cons_zero, List.set_cons_succ])
    refine wpAnyH_take (i := 2) (v := .pointer (some ⟨p, 1, none⟩)) rfl (by kernel_rfl) (by kernel_rfl) (by kernel_rfl) (fun _ _ _ h => h) (Or.inl ⟨by rfl, ?hb2⟩) hHeld ?rb2
    case hb2 => intro w' hSw; obtain ⟨e0, e1, e2, e3⟩ := hSw; go_simp; (try with_reducible rfl)
    (try simp only [Act.put, List.getElem_toArray, List.getElem_cons_succ, List.getElem_cons_zero, List.setIfInBounds_toArray, List.set_cons_zero, List.set_cons_succ])
    refine wpAnyH_take (i := 3) (v := .map (some bm)) rfl (by kernel_rfl) (by kernel_rfl) (by kernel_rfl) (fun _ _ _ h => h) (Or.inl ⟨by rfl, ?hb3⟩) hHeld ?rb3
    case hb3 => intro w' hSw; obtain ⟨e0, e1, e2, e3⟩ := hSw; go_simp; (try with_reducible rfl)
    (try simp only [Act.put, List.getElem_toArray, List.getElem_cons_succ, List.getElem_cons_zero, List.setIfInBounds_toArray, List.set_cons_zero, List.set_cons_succ])
    refine wpAnyH_take (i := 4) (v := .agg #[.int .i64 (pA key), .int .u8 (pB key)]) rfl (by kernel_rfl) (by kernel_rfl) (by kernel_rfl) (fun _ _ _ h => h) (Or.inl ⟨by rfl, ?hb4⟩) hHeld ?rb4
    case hb4 => intro w' hSw; obtain ⟨e0, e1, e2, e3⟩ := hSw; go_simp; (try with_reducible rfl)
    (try simp only [Act.put, List.getElem_toArray, List.getElem_cons_succ, List.getElem_cons_zero, List.setIfInBounds_toArray, List.set_cons_zero, List.set_cons_succ])
    refine wpAnyH_take (i := 5) (v := .tuple #[.int .i64 0, .bool false]) rfl (by kernel_rfl) (by kernel_rfl) (by kernel_rfl) (fun _ _ _ h => h) ?hb5 hHeld ?rb5
    case hb5 =>
      exact yieldsIf_lookup (by kernel_rfl) (.tmp 14) (.tmp 15) 75 rfl 34 3 kStr Try.underlying75 Try.underlying3 zeroI bm 16 D (by kernel_rfl) (fun z hz => hz.2.2.2) _ (kL key) (by kernel_rfl) hkey _ hc hh
    (try simp only [Act.put, List.getElem_toArray, List.getElem_cons_succ, List.getElem_cons_zero, List.setIfInBounds_toArray, List.set_cons_zero, List.set_cons_succ])
    refine wpAnyH_take (i := 6) (v := .tuple #[.int .i64 0, .bool false]) rfl (by kernel_rfl) (by kernel_rfl) (by kernel_rfl) (fun _ _ _ h => h) (Or.inl ⟨by rfl, ?hb6⟩) hHeld ?rb6
    case hb6 => intro w' hSw; obtain ⟨e0, e1, e2, e3⟩ := hSw; go_simp; (try with_reducible rfl)
    (try simp only [Act.put, List.getElem_toArray, List.getElem_cons_succ, List.getElem_cons_zero, List.setIfInBounds_toArray, List.set_cons_zero, List.set_cons_succ])
    refine wpAnyH_take (i := 7) (v := .int .i64 0) rfl (by kernel_rfl) (by kernel_rfl) (by kernel_rfl) (fun _ _ _ h => h) (Or.inl ⟨by rfl, ?hb7⟩) hHeld ?rb7
    case hb7 => intro w' hSw; obtain ⟨e0, e1, e2, e3⟩ := hSw; go_simp; (try with_reducible rfl)
    (try simp only [Act.put, List.getElem_toArray, List.getElem_cons_succ, List.getElem_cons_zero, List.setIfInBounds_toArray, List.set_cons_zero, List.set_cons_succ])
    refine wpAnyH_take (i := 8) (v := .bool false) rfl (by kernel_rfl) (by kernel_rfl) (by kernel_rfl) (fun _ _ _ h => h) (Or.inl ⟨by rfl, ?hb8⟩) hHeld ?rb8
    case hb8 => intro w' hSw; obtain ⟨e0, e1, e2, e3⟩ := hSw; go_simp; (try with_reducible rfl)
    (try simp only [Act.put, List.getElem_toArray, List.getElem_cons_succ, List.getElem_cons_zero, List.setIfInBounds_toArray, List.set_cons_zero, List.set_cons_succ])
    refine wpAnyH_take (i := 9) (v := .int .i64 0) rfl (by kernel_rfl) (by kernel_rfl) (by kernel_rfl) (fun _ _ _ h => h) (Or.inl ⟨by rfl, ?hb9⟩) hHeld ?rb9
    case hb9 => intro w' hSw; obtain ⟨e0, e1, e2, e3⟩ := hSw; go_simp; (try with_reducible rfl)
    (try simp only [Act.put, List.getElem_toArray, List.getElem_cons_succ, List.getElem_cons_zero, List.setIfInBounds_toArray, List.set_cons_zero, List.set_cons_succ])
    refine wpAnyH_take (i := 10) (v := .bool false) rfl (by kernel_rfl) (by kernel_rfl) (by kernel_rfl) (fun _ _ _ h => h) (Or.inl ⟨by rfl, ?hb10⟩) hHeld ?rb10
    case hb10 => intro w' hSw; obtain ⟨e0, e1, e2, e3⟩ := hSw; go_simp; (try with_reducible rfl)
    (try simp only [Act.put, List.getElem_toArray, List.getElem_cons_succ, List.getElem_cons_zero, List.setIfInBounds_toArray, List.set_cons_zero, List.set_cons_succ])
    refine wpAnyH_done ?hrb ?hqb _
    case hrb => kernel_rfl
    case hqb =>
    (try simp only [Act.put, List.getElem_toArray, List.getElem_cons_succ, List.getElem_cons_zero, List.setIfInBounds_toArray, List.set_cons_zero, List.set_cons_succ])
    clear hHeld hc hh HS0
    rw [← HX.out]
    go_wp2_with fail
    go_quiet (fail)
    obtain ⟨y0, y1⟩ := HKD.out nq
    go_wp2_with (first
      | (go_at_call 56; refine (HA.out _).mono ?_; rintro e w1 ⟨rfl, kv', rv', q1, q2, q3⟩; have HR := hide (And.intro q1 (And.intro q2 q3)); obtain ⟨u0, u1, f0, k4, f2, k4d, f2d, hrow, hoth, hszz⟩ := box_facts (HZ1.out _ q2); have HE := hide (And.intro hrow (And.intro hoth hszz)); clear q1 q2 q3 hrow hoth hszz))
    go_region_law fail
    go_wp2_with fail
    (try simp only [Exit.inBlock, Exit.then])
    have hC := HB.out.1.trans HR.out.2.1
    refine bodyPost_ret (results_tmp5c (p := 6) rfl _ _ (w.heap.size + 1) 34 #[.int .i64 0, .int .u8 0] (0, 0) _ (by kernel_rfl) HE.out.1 Try.underlying34 rfl info2) rfl ?_
    exact ⟨_, _, _, _, _, _, _, _, _, HG.out, rfl, HR.out.1.kept (fun b hb => HE.out.2.1 b (fun e => by subst e; exact HZN.out _ _ _ HR.out.2.2 hb)), HOK.out, ⟨hC.os, hC.tape, hC.output, by rw [HE.out.2.2]; exact hC.size, fun b hb hn => (HE.out.2.1 b (by omega)).trans (hC.keep b hb hn)⟩, fun b e => (HR.out.2.2 b e).imp id fun e => Nat.le_trans HB.out.2 e⟩
  have hfull : S.ks.length = S.slots := by omega
  have hbt : ((S.ks.length : Int) < (S.slots : Int)) = False := by simp; omega
  have hidc : S.idle = [] ∨ ∃ s r, S.idle = s :: r := by cases S.idle with
    | nil => exact .inl rfl
    | cons s r => exact .inr ⟨s, r, rfl⟩
  rcases hidc with hid | ⟨s, r, hid⟩
  · have HG : Hid (GetRes S key S 0 false 0 false 41) := hide (.inr (.inr (.inr ⟨hin, hfull, hid, rfl, rfl, rfl, rfl, rfl, rfl⟩)))
    have HOK := hide (hS.more (Nat.le_succ M))
    have hil : S.idle.length = 0 := by rw [hid]; rfl
    have HC4 : Hid (∀ j, (x.drewN j).cell? ⟨p, 4, none⟩ = some (.slice ai S.idle.length ci)) := hide fun j => (HD.out j).1.c 4
    clear h hS hD1 hD2 hin hid hfull hbt hkl hown
    generalize S.ks.length = nk at *
    generalize S.idle.length = ni at *
    generalize S.slots = ns at *
    subst hil
    go_enter Try.func31, Try.ntmps31
    go_wp2_with fail
    refine wp_region_held_drew (S := fun z => z.cell? ⟨w.heap.size, 0, none⟩ = some (.int .i64 (pA key)) ∧ z.cell? ⟨w.heap.size, 1, none⟩ = some (.int .u8 (pB key)) ∧ z.cell? ⟨p, 1, none⟩ = some (.map (some bm)) ∧ z.ownsMap Try.prog 34 (plainElem Try.prog 3) bm 16 D) (by kernel_rfl) HS0.out (fun hHeld => ?_)
    refine wpAnyH_take (i := 0) (v := .pointer (some ⟨p, 0, none⟩)) rfl (by kernel_rfl) (by kernel_rfl) (by kernel_rfl) (fun _ _ _ h => h) (Or.inl ⟨by rfl, ?hc0⟩) hHeld ?rc0
    case hc0 => intro w' hSw; obtain ⟨e0, e1, e2, e3⟩ := hSw; go_simp; (try with_reducible rfl)
    (try simp only [Act.put, List.getElem_toArray, List.getElem_cons_succ, List.getElem_cons_zero, List.setIfInBounds_toArray, List.set_cons_zero, List.set_cons_succ])
    refine wpAnyH_take (i := 1) (v := .pointer (some ⟨p, 0, none⟩)) rfl (by kernel_rfl) (by kernel_rfl) (by kernel_rfl) (fun _ _ _ h => h) (Or.inl ⟨by rfl, ?hc1⟩) hHeld ?rc1
    case hc1 => intro w' hSw; obtain ⟨e0, e1, e2, e3⟩ := hSw; go_simp; (try with_reducible rfl)
    (try simp only [Act.put, List.getElem_toArray, List.getElem_cons_succ, List.getElem_cons_zero, List.setIfInBounds_toArray, List.set_cons_zero, List.set_cons_succ])
    refine wpAnyH_take (i := 2) (v := .pointer (some ⟨p, 1, none⟩)) rfl (by kernel_rfl) (by kernel_rfl) (by kernel_rfl) (fun _ _ _ h => h) (Or.inl ⟨by rfl, ?hc2⟩) hHeld ?rc2
    case hc2 => intro w' hSw; obtain ⟨e0, e1, e2, e3⟩ := hSw; go_simp; (try with_reducible rfl)
    (try simp only [Act.put, List.getElem_toArray, List.getElem_cons_succ, List.getElem_cons_zero, List.setIfInBounds_toArray, List.set_cons_zero, List.set_cons_succ])
    refine wpAnyH_take (i := 3) (v := .map (some bm)) rfl (by kernel_rfl) (by kernel_rfl) (by kernel_rfl) (fun _ _ _ h => h) (Or.inl ⟨by rfl, ?hc3⟩) hHeld ?rc3
    case hc3 => intro w' hSw; obtain ⟨e0, e1, e2, e3⟩ := hSw; go_simp; (try with_reducible rfl)
    (try simp only [Act.put, List.getElem_toArray, List.getElem_cons_succ, List.getElem_cons_zero, List.setIfInBounds_toArray, List.set_cons_zero, List.set_cons_succ])
    refine wpAnyH_take (i := 4) (v := .agg #[.int .i64 (pA key), .int .u8 (pB key)]) rfl (by kernel_rfl) (by kernel_rfl) (by kernel_rfl) (fun _ _ _ h => h) (Or.inl ⟨by rfl, ?hc4⟩) hHeld ?rc4
    case hc4 => intro w' hSw; obtain ⟨e0, e1, e2, e3⟩ := hSw; go_simp; (try with_reducible rfl)
    (try simp only [Act.put, List.getElem_toArray, List.getElem_cons_succ, List.getElem_cons_zero, List.setIfInBounds_toArray, List.set_cons_zero, List.set_cons_succ])
    refine wpAnyH_take (i := 5) (v := .tuple #[.int .i64 0, .bool false]) rfl (by kernel_rfl) (by kernel_rfl) (by kernel_rfl) (fun _ _ _ h => h) ?hc5 hHeld ?rc5
    case hc5 =>
      exact yieldsIf_lookup (by kernel_rfl) (.tmp 14) (.tmp 15) 75 rfl 34 3 kStr Try.underlying75 Try.underlying3 zeroI bm 16 D (by kernel_rfl) (fun z hz => hz.2.2.2) _ (kL key) (by kernel_rfl) hkey _ hc hh
    (try simp only [Act.put, List.getElem_toArray, List.getElem_cons_succ, List.getElem_cons_zero, List.setIfInBounds_toArray, List.set_cons_zero, List.set_cons_succ])
    refine wpAnyH_take (i := 6) (v := .tuple #[.int .i64 0, .bool false]) rfl (by kernel_rfl) (by kernel_rfl) (by kernel_rfl) (fun _ _ _ h => h) (Or.inl ⟨by rfl, ?hc6⟩) hHeld ?rc6
    case hc6 => intro w' hSw; obtain ⟨e0, e1, e2, e3⟩ := hSw; go_simp; (try with_reducible rfl)
    (try simp only [Act.put, List.getElem_toArray, List.getElem_cons_succ, List.getElem_cons_zero, List.setIfInBounds_toArray, List.set_cons_zero, List.set_cons_succ])
    refine wpAnyH_take (i := 7) (v := .int .i64 0) rfl (by kernel_rfl) (by kernel_rfl) (by kernel_rfl) (fun _ _ _ h => h) (Or.inl ⟨by rfl, ?hc7⟩) hHeld ?rc7
    case hc7 => intro w' hSw; obtain ⟨e0, e1, e2, e3⟩ := hSw; go_simp; (try with_reducible rfl)
    (try simp only [Act.put, List.getElem_toArray, List.getElem_cons_succ, List.getElem_cons_zero, List.setIfInBounds_toArray, List.set_cons_zero, List.set_cons_succ])
    refine wpAnyH_take (i := 8) (v := .bool false) rfl (by kernel_rfl) (by kernel_rfl) (by kernel_rfl) (fun _ _ _ h => h) (Or.inl ⟨by rfl, ?hc8⟩) hHeld ?rc8
    case hc8 => intro w' hSw; obtain ⟨e0, e1, e2, e3⟩ := hSw; go_simp; (try with_reducible rfl)
    (try simp only [Act.put, List.getElem_toArray, List.getElem_cons_succ, List.getElem_cons_zero, List.setIfInBounds_toArray, List.set_cons_zero, List.set_cons_succ])
    refine wpAnyH_take (i := 9) (v := .int .i64 0) rfl (by kernel_rfl) (by kernel_rfl) (by kernel_rfl) (fun _ _ _ h => h) (Or.inl ⟨by rfl, ?hc9⟩) hHeld ?rc9
    case hc9 => intro w' hSw; obtain ⟨e0, e1, e2, e3⟩ := hSw; go_simp; (try with_reducible rfl)
    (try simp only [Act.put, List.getElem_toArray, List.getElem_cons_succ, List.getElem_cons_zero, List.setIfInBounds_toArray, List.set_cons_zero, List.set_cons_succ])
    refine wpAnyH_take (i := 10) (v := .bool false) rfl (by kernel_rfl) (by kernel_rfl) (by kernel_rfl) (fun _ _ _ h => h) (Or.inl ⟨by rfl, ?hc10⟩) hHeld ?rc10
    case hc10 => intro w' hSw; obtain ⟨e0, e1, e2, e3⟩ := hSw; go_simp; (try with_reducible rfl)
    (try simp only [Act.put, List.getElem_toArray, List.getElem_cons_succ, List.getElem_cons_zero, List.setIfInBounds_toArray, List.set_cons_zero, List.set_cons_succ])
    refine wpAnyH_done ?hrc ?hqc _
    case hrc => kernel_rfl
    case hqc =>
    (try simp only [Act.put, List.getElem_toArray, List.getElem_cons_succ, List.getElem_cons_zero, List.setIfInBounds_toArray, List.set_cons_zero, List.set_cons_succ])
    clear hHeld hc hh HS0
    rw [← HX.out]
    go_wp2_with fail
    go_quiet (fail)
    have c4j := HC4.out nq
    obtain ⟨y0, y1⟩ := HKD.out nq
    have HQ := hide (HD.out nq)
    obtain ⟨u0, u1, f0, k4, f2, k4d, f2d, hrow, hoth, hszz⟩ := box_facts (show (x.drewN nq).heap[w.heap.size + 1]? = _ from HZ.out.2)
    have HE := hide (And.intro hrow (And.intro hoth hszz))
    clear hrow hoth hszz
    generalize x.drewN nq = w1 at *
    go_wp2_with fail
    go_region_law fail
    go_wp2_with fail
    (try simp only [Exit.inBlock, Exit.then])
    have hC := HB.out.1.trans (Chg.ofBelow HQ.out.2)
    refine bodyPost_ret (results_tmp5c (p := 6) rfl _ _ (w.heap.size + 1) 34 #[.int .i64 0, .int .u8 0] (0, 0) _ (by kernel_rfl) HE.out.1 Try.underlying34 rfl info2) rfl ?_
    exact ⟨_, _, _, _, _, _, _, _, _, HG.out, rfl, HQ.out.1.kept (fun b hb => HE.out.2.1 b (fun e => by have := HLT.out b hb; omega)), HOK.out, ⟨hC.os, hC.tape, hC.output, by rw [HE.out.2.2]; exact hC.size, fun b hb hn => (HE.out.2.1 b (by omega)).trans (hC.keep b hb hn)⟩, LLoc.refl rfl⟩
  · have hmem : s ∈ S.idle := by rw [hid]; simp
    have hr0 := (hS.im s).1 hmem
    have hsk : s < S.ks.length := by rw [← hS.rl]; exact (List.getElem?_eq_some_iff.1 hr0).1
    have hso : S.ks[s]? = some S.ks[s] := List.getElem?_eq_getElem hsk
    have HG : Hid (GetRes S key (({ S with mks := S.ks.set s key, ks := S.ks.set s key } : LS).take s) s true S.ks[s] true 0) := hide (.inr (.inr (.inl ⟨hin, hfull, s, r, S.ks[s], hid, hso, rfl, rfl, rfl, rfl, rfl, rfl⟩)))
    have HOK : Hid ((({ S with mks := S.ks.set s key, ks := S.ks.set s key } : LS).take s).Ok (M + 1)) := hide ((hS.setk hk hin).take hr0)
    have hi0 : S.idle[0]? = some s := by rw [hid]; rfl
    obtain ⟨g, cap, cs, eiv, hc0, -⟩ := row_at h.io hi0
    simp only [Value.slice.injEq] at eiv
    obtain ⟨rfl, -, -⟩ := eiv
    have hil : 0 < S.idle.length := by rw [hid]; simp
    have HC4 : Hid (∀ j, (x.drewN j).cell? ⟨p, 4, none⟩ = some (.slice (some ⟨g, 0, none⟩) S.idle.length ci) ∧ (x.drewN j).cell? ⟨g, 0, none⟩ = some (.int .i64 (s : Int))) := hide fun j => ⟨(HD.out j).1.c 4, by
      rw [(HD.out j).2.cell (p := ⟨g, 0, none⟩) (World.block_lt_of_cell? x _ hc0)]; exact hc0⟩
    have HRP : Hid (∀ j, Calls Try.prog 57 #[.pointer (some ⟨p, 0, none⟩), .int .i64 (s : Int), .agg #[.int .i64 (pA key), .int .u8 (pB key)]] (x.drewN j) fun e w' => e = .returned (.agg #[.int .i64 (pA S.ks[s]), .int .u8 (pB S.ks[s])]) ∧ ∃ iv', LRep w' p bm (.slice ak S.ks.length ck) rv iv' (({ S with mks := S.ks.set s key, ks := S.ks.set s key } : LS).take s) ∧ iv'.ownBlock = (Value.slice (some ⟨g, 0, none⟩) S.idle.length ci).ownBlock ∧ Chg (LU p bm (.slice ak S.ks.length ck) rv (.slice (some ⟨g, 0, none⟩) S.idle.length ci)) x w') := hide fun j => by
      obtain ⟨q1, q2⟩ := HD.out j
      refine (replace_any q1 hS hM hk hin hso hr0).mono ?_
      rintro e w' ⟨rfl, iv', z1, z2, z3⟩
      exact ⟨rfl, iv', z1, z2, (Chg.ofBelow q2).trans z3⟩
    generalize S.ks[s] = old at *
    clear h hS hD1 hD2 hin hid hfull hbt hkl hmem hr0 hsk hso hi0 HD hown
    generalize S.ks.length = nk at *
    generalize S.idle.length = ni at *
    generalize S.slots = ns at *
    go_enter Try.func31, Try.ntmps31
    go_wp2_with fail
    refine wp_region_held_drew (S := fun z => z.cell? ⟨w.heap.size, 0, none⟩ = some (.int .i64 (pA key)) ∧ z.cell? ⟨w.heap.size, 1, none⟩ = some (.int .u8 (pB key)) ∧ z.cell? ⟨p, 1, none⟩ = some (.map (some bm)) ∧ z.ownsMap Try.prog 34 (plainElem Try.prog 3) bm 16 D) (by kernel_rfl) HS0.out (fun hHeld => ?_)
    refine wpAnyH_take (i := 0) (v := .pointer (some ⟨p, 0, none⟩)) rfl (by kernel_rfl) (by kernel_rfl) (by kernel_rfl) (fun _ _ _ h => h) (Or.inl ⟨by rfl, ?hd0⟩) hHeld ?rd0
    case hd0 => intro w' hSw; obtain ⟨e0, e1, e2, e3⟩ := hSw; go_simp; (try with_reducible rfl)
    (try simp only [Act.put, List.getElem_toArray, List.getElem_cons_succ, List.getElem_cons_zero, List.setIfInBounds_toArray, List.set_cons_zero, List.set_cons_succ])
    refine wpAnyH_take (i := 1) (v := .pointer (some ⟨p, 0, none⟩)) rfl (by kernel_rfl) (by kernel_rfl) (by kernel_rfl) (fun _ _ _ h => h) (Or.inl ⟨by rfl, ?hd1⟩) hHeld ?rd1
    case hd1 => intro w' hSw; obtain ⟨e0, e1, e2, e3⟩ := hSw; go_simp; (try with_reducible rfl)
    (try simp only [Act.put, List.getElem_toArray, List.getElem_cons_succ, List.getElem_cons_zero, List.setIfInBounds_toArray, List.set_cons_zero, List.set_cons_succ])
    refine wpAnyH_take (i := 2) (v := .pointer (some ⟨p, 1, none⟩)) rfl (by kernel_rfl) (by kernel_rfl) (by kernel_rfl) (fun _ _ _ h => h) (Or.inl ⟨by rfl, ?hd2⟩) hHeld ?rd2
    case hd2 => intro w' hSw; obtain ⟨e0, e1, e2, e3⟩ := hSw; go_simp; (try with_reducible rfl)
    (try simp only [Act.put, List.getElem_toArray, List.getElem_cons_succ, List.getElem_cons_zero, List.setIfInBounds_toArray, List.set_cons_zero, List.set_cons_succ])
    refine wpAnyH_take (i := 3) (v := .map (some bm)) rfl (by kernel_rfl) (by kernel_rfl) (by kernel_rfl) (fun _ _ _ h => h) (Or.inl ⟨by rfl, ?hd3⟩) hHeld ?rd3
    case hd3 => intro w' hSw; obtain ⟨e0, e1, e2, e3⟩ := hSw; go_simp; (try with_reducible rfl)
    (try simp only [Act.put, List.getElem_toArray, List.getElem_cons_succ, List.getElem_cons_zero, List.setIfInBounds_toArray, List.set_cons_zero, List.set_cons_succ])
    refine wpAnyH_take (i := 4) (v := .agg #[.int .i64 (pA key), .int .u8 (pB key)]) rfl (by kernel_rfl) (by kernel_rfl) (by kernel_rfl) (fun _ _ _ h => h) (Or.inl ⟨by rfl, ?hd4⟩) hHeld ?rd4
    case hd4 => intro w' hSw; obtain ⟨e0, e1, e2, e3⟩ := hSw; go_simp; (try with_reducible rfl)
    (try simp only [Act.put, List.getElem_toArray, List.getElem_cons_succ, List.getElem_cons_zero, List.setIfInBounds_toArray, List.set_cons_zero, List.set_cons_succ])
    refine wpAnyH_take (i := 5) (v := .tuple #[.int .i64 0, .bool false]) rfl (by kernel_rfl) (by kernel_rfl) (by kernel_rfl) (fun _ _ _ h => h) ?hd5 hHeld ?rd5
    case hd5 =>
      exact yieldsIf_lookup (by kernel_rfl) (.tmp 14) (.tmp 15) 75 rfl 34 3 kStr Try.underlying75 Try.underlying3 zeroI bm 16 D (by kernel_rfl) (fun z hz => hz.2.2.2) _ (kL key) (by kernel_rfl) hkey _ hc hh
    (try simp only [Act.put, List.getElem_toArray, List.getElem_cons_succ, List.getElem_cons_zero, List.setIfInBounds_toArray, List.set_cons_zero, List.set_cons_succ])
    refine wpAnyH_take (i := 6) (v := .tuple #[.int .i64 0, .bool false]) rfl (by kernel_rfl) (by kernel_rfl) (by kernel_rfl) (fun _ _ _ h => h) (Or.inl ⟨by rfl, ?hd6⟩) hHeld ?rd6
    case hd6 => intro w' hSw; obtain ⟨e0, e1, e2, e3⟩ := hSw; go_simp; (try with_reducible rfl)
    (try simp only [Act.put, List.getElem_toArray, List.getElem_cons_succ, List.getElem_cons_zero, List.setIfInBounds_toArray, List.set_cons_zero, List.set_cons_succ])
    refine wpAnyH_take (i := 7) (v := .int .i64 0) rfl (by kernel_rfl) (by kernel_rfl) (by kernel_rfl) (fun _ _ _ h => h) (Or.inl ⟨by rfl, ?hd7⟩) hHeld ?rd7
    case hd7 => intro w' hSw; obtain ⟨e0, e1, e2, e3⟩ := hSw; go_simp; (try with_reducible rfl)
    (try simp only [Act.put, List.getElem_toArray, List.getElem_cons_succ, List.getElem_cons_zero, List.setIfInBounds_toArray, List.set_cons_zero, List.set_cons_succ])
    refine wpAnyH_take (i := 8) (v := .bool false) rfl (by kernel_rfl) (by kernel_rfl) (by kernel_rfl) (fun _ _ _ h => h) (Or.inl ⟨by rfl, ?hd8⟩) hHeld ?rd8
    case hd8 => intro w' hSw; obtain ⟨e0, e1, e2, e3⟩ := hSw; go_simp; (try with_reducible rfl)
    (try simp only [Act.put, List.getElem_toArray, List.getElem_cons_succ, List.getElem_cons_zero, List.setIfInBounds_toArray, List.set_cons_zero, List.set_cons_succ])
    refine wpAnyH_take (i := 9) (v := .int .i64 0) rfl (by kernel_rfl) (by kernel_rfl) (by kernel_rfl) (fun _ _ _ h => h) (Or.inl ⟨by rfl, ?hd9⟩) hHeld ?rd9
    case hd9 => intro w' hSw; obtain ⟨e0, e1, e2, e3⟩ := hSw; go_simp; (try with_reducible rfl)
    (try simp only [Act.put, List.getElem_toArray, List.getElem_cons_succ, List.getElem_cons_zero, List.setIfInBounds_toArray, List.set_cons_zero, List.set_cons_succ])
    refine wpAnyH_take (i := 10) (v := .bool false) rfl (by kernel_rfl) (by kernel_rfl) (by kernel_rfl) (fun _ _ _ h => h) (Or.inl ⟨by rfl, ?hd10⟩) hHeld ?rd10
    case hd10 => intro w' hSw; obtain ⟨e0, e1, e2, e3⟩ := hSw; go_simp; (try with_reducible rfl)
    (try simp only [Act.put, List.getElem_toArray, List.getElem_cons_succ, List.getElem_cons_zero, List.setIfInBounds_toArray, List.set_cons_zero, List.set_cons_succ])
    refine wpAnyH_done ?hrd ?hqd _
    case hrd => kernel_rfl
    case hqd =>
    (try simp only [Act.put, List.getElem_toArray, List.getElem_cons_succ, List.getElem_cons_zero, List.setIfInBounds_toArray, List.set_cons_zero, List.set_cons_succ])
    clear hHeld hc hh HS0
    rw [← HX.out]
    go_wp2_with fail
    go_quiet (fail)
    have c4j := (HC4.out nq).1
    have c5j := (HC4.out nq).2
    obtain ⟨y0, y1⟩ := HKD.out nq
    go_wp2_with (first
      | (go_at_call 57; refine (HRP.out _).mono ?_; rintro e w1 ⟨rfl, iv', q1, q2, q3⟩; have HR := hide (And.intro q1 (And.intro q2 q3)); have HB1 := hide (HZ1.out _ q3); clear q1 q2 q3)
      | (refine wpList_store_row rfl 34 (.tmp 6) (.tmp 57) rfl (w.heap.size + 1) #[.int .i64 (pA old), .int .u8 (pB old)] (by first | rfl | simp [Act.eval, Act.put]) (by first | rfl | simp [Act.eval, Act.put]) 34 #[.int .i64 0, .int .u8 0] HB1.out info2 rfl (one2 _ _) ?_))
    obtain ⟨u0, u1, f0, k4, f2, k4d, f2d, hrow, hoth, hszz⟩ := box_facts (setRow_heap w1 (w.heap.size + 1) #[.int .i64 0, .int .u8 0] #[.int .i64 (pA old), .int .u8 (pB old)] 34 _ HB1.out)
    have HO : Hid (∀ j, j ≠ w.heap.size + 1 → (w1.setRow (w.heap.size + 1) #[.int .i64 (pA old), .int .u8 (pB old)]).heap[j]? = w1.heap[j]?) := hide fun j hj => setRow_other _ _ _ _ (by omega)
    have HOZ : Hid ((w1.setRow (w.heap.size + 1) #[.int .i64 (pA old), .int .u8 (pB old)]).heap.size = w1.heap.size) := hide (by simp only [World.setRow, Array.size_modify])
    have HOS : Hid ((w1.setRow (w.heap.size + 1) #[.int .i64 (pA old), .int .u8 (pB old)]).os = w1.os ∧ (w1.setRow (w.heap.size + 1) #[.int .i64 (pA old), .int .u8 (pB old)]).tape = w1.tape ∧ (w1.setRow (w.heap.size + 1) #[.int .i64 (pA old), .int .u8 (pB old)]).output = w1.output) := hide ⟨rfl, rfl, rfl⟩
    have HE := hide (And.intro hrow (And.intro hoth hszz))
    clear hrow hoth hszz
    generalize w1.setRow (w.heap.size + 1) #[.int .i64 (pA old), .int .u8 (pB old)] = w2 at *
    go_wp2_with fail
    go_region_law fail
    go_wp2_with fail
    (try simp only [Exit.inBlock, Exit.then])
    have hC := HB.out.1.trans HR.out.2.2
    refine bodyPost_ret (results_tmp5c (p := 6) rfl _ _ (w.heap.size + 1) 34 #[.int .i64 (pA old), .int .u8 (pB old)] (0, 0) _ (by kernel_rfl) HE.out.1 Try.underlying34 rfl info2) rfl ?_
    exact ⟨_, _, _, _, _, _, _, _, _, HG.out, rfl, HR.out.1.kept (fun b hb => by have := HLT.out b (lu_same HR.out.2.1 hb); exact (HE.out.2.1 b (by omega)).trans (HO.out b (by omega))), HOK.out, ⟨HOS.out.1.trans hC.os, HOS.out.2.1.trans hC.tape, HOS.out.2.2.trans hC.output, by rw [HE.out.2.2, HOZ.out]; exact hC.size, fun b hb hn => ((HE.out.2.1 b (by omega)).trans (HO.out b (by omega))).trans (hC.keep b hb hn)⟩, LLoc.refl HR.out.2.1⟩
end Go.Proofs.Ythkkinmegileaaa.Sp
