import Derived.Test.YthkkinmegileaaaPLru7
namespace Go.Proofs.Ythkkinmegileaaa.Sp
open Go.RowKit Go.Sort
set_option linter.unusedVariables false
set_option linter.unusedSimpArgs false
set_option maxRecDepth 20000

theorem one2 (a b : Int) : (#[.int .i64 a, .int .u8 b] : Array Value).all (·.oneCell') = true := by simp [Value.oneCell']
theorem info2 : (Try.prog.info? 34).map (·.size) = some 2 := by kernel_rfl
theorem AllReadyH.one_delete {H : Type} {P : Program} {md : Region.Mode} {ops : Array Oper} {Q : Exit → Act → World → Prop} {S : World → Prop} {fuel : Nat} {listed : Array Bool} {a : Act} {w : World} {i : Nat} {o : Oper} (ho : ops[i]? = some o) (hw : Region.wanted o (yielded ops a.tmps) = true) (m x : Operand) (t k : TypeId) (hop : o.op = Op.call { callee := Callee.builtin Builtin.delete, args := #[m, x], argTypes := #[t, k] })
    (e : TypeId) (K : Maps.Keyed P k) (ht : P.underlying t = some (.map k e)) (R : Value → Option (DataW H × List MemPlace)) (b n : Nat) (D : DataW H)
    (hm : a.eval m = .map (some b)) (hown : w.ownsMap P k R b n D) (key : Value) (kl : Lit) (hx : a.eval x = key) (hkey : keyOf P k key = some kl)
    (hK : ∀ w', w'.ownsMap P k R b n (D.del kl) → w.grownBy w' (some b) → S w' ∧ wpAnyH P md ops Q S fuel (listed.setIfInBounds i true) (a.put o.dst (.tuple #[])) w') :
    AllReadyH P md ops Q S fuel listed a w [i] := by
  refine AllReadyH.cons ho (fun K' hK' => ?_) AllReadyH.nil
  rw [if_pos hw]
  obtain ⟨w', hrun, r1, r2⟩ := hown.drop K ht hkey o.type
  unfold Oper.wp
  simp [execOp, hop, resolve, invoke, builtin, hm, hx, hrun, Result.andThen]
  obtain ⟨h1, h2⟩ := hK w' r1 r2.grown
  exact hK'.out _ _ h1 (fun _ => h2)
theorem results_row {P : Program} {fn : Func} {p : Tmp} {ty : TypeId} (h : fn.results = #[.cell p ty]) (tmps : Array Value) (w : World) (g : Nat) (t : TypeId) (cs : Array Value) (fr : Nat × Nat) (d : TypeDesc)
    (hp : tmps.getD p undef = .pointer (some ⟨g, 0, none⟩)) (hg : w.heap[g]? = some (.cells cs t fr))
    (hu : P.underlying ty = some d) (hd : (match d with | .struct _ | .array _ _ => true | _ => false) = true) (hi : (P.info? ty).map (·.size) = some cs.size) :
    (results fn tmps).run P w = .ok (.agg cs) w := by
  have hp' : tmps[p]?.getD undef = .pointer (some ⟨g, 0, none⟩) := by simpa using hp
  simp [results, h, hp', asAddr, run_loadVar_row w g t ty cs fr d hg hu hd hi]
set_option maxHeartbeats 2000000 in
/-- a key for one that has no reference -/
theorem replace_any {w : World} {p bm : Nat} {kv rv iv : Value} {S : LS} {M s : Nat} {key old : Int} (h : LRep w p bm kv rv iv S) (hS : S.Ok M) (hM : M ≤ 4611686018427387904) (hk : i64ok key) (hn : key ∉ S.ks) (ho : S.ks[s]? = some old) (hr : S.rs[s]? = some 0) :
    Calls Try.prog 57 #[.pointer (some ⟨p, 0, none⟩), .int .i64 (s : Int), .agg #[.int .i64 (pA key), .int .u8 (pB key)]] w fun e w' => e = .returned (.agg #[.int .i64 (pA old), .int .u8 (pB old)]) ∧ ∃ iv', LRep w' p bm kv rv iv' (({ S with mks := S.ks.set s key, ks := S.ks.set s key } : LS).take s) ∧ iv'.ownBlock = iv.ownBlock ∧ Chg (LU p bm kv rv iv) w w' := by
  have hsl : s < S.ks.length := (List.getElem?_eq_some_iff.1 ho).1
  have hkl := hS.kl
  have h16 := hS.s2
  have hs16 : s < 16 := by omega
  have hkey := keyS hk
  have hkeyo := keyS (hS.kb old (List.mem_of_getElem? ho))
  obtain ⟨g, cap, cs, ekv, hc0, hc1, hcs⟩ := row_atS h.ko ho
  have hcap : S.ks.length ≤ cap ∧ cap ≤ 9223372036854775807 := by
    obtain ⟨a', c', e', q1, q2⟩ := rowForm (ekv ▸ h.ko)
    simp only [Value.slice.injEq] at e'
    unfold maxLen at q2
    omega
  obtain ⟨hcap1, hcap2⟩ := hcap
  subst ekv
  have hb0 := (Below.refl w.heap.size w).alloc (Nat.le_refl _) (.cells #[.int .i64 (pA key), .int .u8 (pB key)] 34)
  have hb1 := hb0.alloc hb0.size (.cells #[.int .i64 0, .int .u8 0] 34)
  have c2 : ((w.alloc (.cells #[.int .i64 (pA key), .int .u8 (pB key)] 34)).alloc (.cells #[.int .i64 0, .int .u8 0] 34)).cell? ⟨p, 2, none⟩ = some (.slice (some ⟨g, 0, none⟩) S.ks.length cap) := (h.below hb1).c 2
  have e0 : ((w.alloc (.cells #[.int .i64 (pA key), .int .u8 (pB key)] 34)).alloc (.cells #[.int .i64 0, .int .u8 0] 34)).cell? ⟨g, s * 2, none⟩ = some (.int .i64 (pA old)) := (hb1.cell (p := ⟨g, s * 2, none⟩) (Array.getElem?_eq_some_iff.1 hcs).1).trans hc0
  have e1 : ((w.alloc (.cells #[.int .i64 (pA key), .int .u8 (pB key)] 34)).alloc (.cells #[.int .i64 0, .int .u8 0] 34)).cell? ⟨g, s * 2 + 1, none⟩ = some (.int .u8 (pB old)) := (hb1.cell (p := ⟨g, s * 2 + 1, none⟩) (Array.getElem?_eq_some_iff.1 hcs).1).trans hc1
  have HH := hide h
  have HS := hide hS
  have HN := hide hn
  have HO := hide ho
  have HR0 := hide hr
  have HK := hide hk
  clear h hS hk hn hr ho hcs hkl hb0 hb1 hc0 hc1
  go_enter Try.func57, Try.ntmps57
  go_wp2_with fail
  obtain ⟨y, hy⟩ : ∃ y, y = (((w.alloc (.cells #[.int .i64 (pA key), .int .u8 (pB key)] 34)).alloc (.cells #[.int .i64 0, .int .u8 0] 34)).alloc (.cells #[.int .i64 (pA old), .int .u8 (pB old)] 34)) := ⟨_, rfl⟩
  have z0 : (w.alloc (.cells #[.int .i64 (pA key), .int .u8 (pB key)] 34)).heap.size = w.heap.size + 1 := by simp
  have z1 : ((w.alloc (.cells #[.int .i64 (pA key), .int .u8 (pB key)] 34)).alloc (.cells #[.int .i64 0, .int .u8 0] 34)).heap.size = w.heap.size + 1 + 1 := by simp
  have a0 := Go.heap_alloc_new w (.cells #[.int .i64 (pA key), .int .u8 (pB key)] 34)
  have a1 := Go.heap_alloc_new (w.alloc (.cells #[.int .i64 (pA key), .int .u8 (pB key)] 34)) (.cells #[.int .i64 0, .int .u8 0] 34)
  have a2 := Go.heap_alloc_new ((w.alloc (.cells #[.int .i64 (pA key), .int .u8 (pB key)] 34)).alloc (.cells #[.int .i64 0, .int .u8 0] 34)) (.cells #[.int .i64 (pA old), .int .u8 (pB old)] 34)
  rw [z0] at a1
  rw [z1] at a2
  have HB : Hid (Below w.heap.size w y) := hide (by
    rw [hy]
    have b0 := (Below.refl w.heap.size w).alloc (Nat.le_refl _) (.cells #[.int .i64 (pA key), .int .u8 (pB key)] 34)
    have b1 := b0.alloc b0.size (.cells #[.int .i64 0, .int .u8 0] 34)
    exact b1.alloc b1.size _)
  have HX : Hid (y.heap[w.heap.size]? = some (.cells #[.int .i64 (pA key), .int .u8 (pB key)] 34 (0, 0)) ∧ y.heap[w.heap.size + 1]? = some (.cells #[.int .i64 0, .int .u8 0] 34 (0, 0)) ∧ y.heap[w.heap.size + 1 + 1]? = some (.cells #[.int .i64 (pA old), .int .u8 (pB old)] 34 (0, 0))) := hide (by
    rw [hy]
    refine ⟨?_, ?_, a2⟩
    · exact (Below.heap_alloc _ _ _ (by rw [z1]; omega)).trans ((Below.heap_alloc _ _ _ (by rw [z0]; omega)).trans a0)
    · exact (Below.heap_alloc _ _ _ (by rw [z1]; omega)).trans a1)
  have HSZ : Hid (y.heap.size = w.heap.size + 1 + 1 + 1) := hide (by rw [hy]; simp)
  rw [← hy]
  clear hy z0 z1 a0 a1 a2 c2 e0 e1
  have HY := hide (HH.out.below HB.out)
  have HF : Hid (∀ z, y.grownBy z (some bm) → z.heap[w.heap.size]? = some (.cells #[.int .i64 (pA key), .int .u8 (pB key)] 34 (0, 0)) ∧ z.heap[w.heap.size + 1]? = some (.cells #[.int .i64 0, .int .u8 0] 34 (0, 0)) ∧ z.heap[w.heap.size + 1 + 1]? = some (.cells #[.int .i64 (pA old), .int .u8 (pB old)] 34 (0, 0)) ∧ z.cell? ⟨p, 1, none⟩ = some (.map (some bm))) := hide fun z q => by
    have hbm := HH.out.mp.lt
    have hs := HSZ.out
    have ne : ∀ j, w.heap.size ≤ j → some j ≠ some bm := fun j hj e => by have := Option.some.inj e; omega
    refine ⟨(q.block _ (by omega) ?_).trans HX.out.1, (q.block _ (by omega) ?_).trans HX.out.2.1, (q.block _ (by omega) ?_).trans HX.out.2.2, ?_⟩
    · exact fun e => by have := Option.some.inj e; omega
    · exact fun e => by have := Option.some.inj e; omega
    · exact fun e => by have := Option.some.inj e; omega
    · rw [World.cell?_of_block (a := ⟨p, 1, none⟩) (q.block p (HY.out.lt p (.inl rfl)) fun e => HH.out.ap.1 (Option.some.inj e))]
      exact HY.out.c 1
  obtain ⟨D, hown, hDs, hD1, hD2⟩ := HY.out.mp
  rw [HS.out.me] at hDs hD1 hD2
  have hv : plainElem (H := Unit) Try.prog 3 (.int .i64 (s : Int)) = some (.lit (.int .i64 (s : Int)), []) := plainElem_int Try.underlying3 (wf_i64 ⟨by omega, by omega⟩)
  have HM : Hid (∀ w2, w2.ownsMap Try.prog 34 (plainElem Try.prog 3) bm (16 + 1) ((D.del (kL old)).put (kL key) (.lit (.int .i64 (s : Int)))) → y.grownBy w2 (some bm) → LRep w2 p bm (.slice (some ⟨g, 0, none⟩) S.ks.length cap) rv iv { S with mks := S.ks.set s key } ∧ Chg (LU p bm (.slice (some ⟨g, 0, none⟩) S.ks.length cap) rv iv) w w2) := hide fun w2 q2 q3 => by
    have q5 := HY.out.turnM (MP.swap hDs hD1 hD2 (hown.tidy kStr) HS.out.kd HN.out HO.out (by have := HS.out.kl; omega) q2) q3
    exact ⟨q5.1, (Chg.ofBelow HB.out).trans q5.2⟩
  clear hDs hD1 hD2
  have x2 : y.cell? ⟨w.heap.size + 1 + 1, 0, none⟩ = some (.int .i64 (pA old)) ∧ y.cell? ⟨w.heap.size + 1 + 1, 1, none⟩ = some (.int .u8 (pB old)) ∧ y.cell? ⟨p, 1, none⟩ = some (.map (some bm)) := ⟨by rw [cell_of_row _ _ _ _ _ _ HX.out.2.2]; rfl, by rw [cell_of_row _ _ _ _ _ _ HX.out.2.2]; rfl, HY.out.c 1⟩
  refine wp_region_held_drew (S := fun z => z.cell? ⟨w.heap.size + 1 + 1, 0, none⟩ = some (.int .i64 (pA old)) ∧ z.cell? ⟨w.heap.size + 1 + 1, 1, none⟩ = some (.int .u8 (pB old)) ∧ z.cell? ⟨p, 1, none⟩ = some (.map (some bm))) (by kernel_rfl) x2 (fun hHeld => ?_)
  refine wpAnyH_take (i := 0) (v := .pointer (some ⟨p, 0, none⟩)) rfl (by kernel_rfl) (by kernel_rfl) (by kernel_rfl) (fun _ _ _ h => h) (Or.inl ⟨by rfl, ?hx0⟩) hHeld ?rx0
  case hx0 => intro w' hSw; obtain ⟨e0, e1, e2⟩ := hSw; go_simp; (try with_reducible rfl)
  (try simp only [Act.put, List.getElem_toArray, List.getElem_cons_succ, List.getElem_cons_zero, List.setIfInBounds_toArray, List.set_cons_zero, List.set_cons_succ])
  refine wpAnyH_take (i := 1) (v := .pointer (some ⟨p, 0, none⟩)) rfl (by kernel_rfl) (by kernel_rfl) (by kernel_rfl) (fun _ _ _ h => h) (Or.inl ⟨by rfl, ?hx1⟩) hHeld ?rx1
  case hx1 => intro w' hSw; obtain ⟨e0, e1, e2⟩ := hSw; go_simp; (try with_reducible rfl)
  (try simp only [Act.put, List.getElem_toArray, List.getElem_cons_succ, List.getElem_cons_zero, List.setIfInBounds_toArray, List.set_cons_zero, List.set_cons_succ])
  refine wpAnyH_take (i := 2) (v := .pointer (some ⟨p, 1, none⟩)) rfl (by kernel_rfl) (by kernel_rfl) (by kernel_rfl) (fun _ _ _ h => h) (Or.inl ⟨by rfl, ?hx2⟩) hHeld ?rx2
  case hx2 => intro w' hSw; obtain ⟨e0, e1, e2⟩ := hSw; go_simp; (try with_reducible rfl)
  (try simp only [Act.put, List.getElem_toArray, List.getElem_cons_succ, List.getElem_cons_zero, List.setIfInBounds_toArray, List.set_cons_zero, List.set_cons_succ])
  refine wpAnyH_take (i := 3) (v := .map (some bm)) rfl (by kernel_rfl) (by kernel_rfl) (by kernel_rfl) (fun _ _ _ h => h) (Or.inl ⟨by rfl, ?hx3⟩) hHeld ?rx3
  case hx3 => intro w' hSw; obtain ⟨e0, e1, e2⟩ := hSw; go_simp; (try with_reducible rfl)
  (try simp only [Act.put, List.getElem_toArray, List.getElem_cons_succ, List.getElem_cons_zero, List.setIfInBounds_toArray, List.set_cons_zero, List.set_cons_succ])
  refine wpAnyH_take (i := 4) (v := .agg #[.int .i64 (pA old), .int .u8 (pB old)]) rfl (by kernel_rfl) (by kernel_rfl) (by kernel_rfl) (fun _ _ _ h => h) (Or.inl ⟨by rfl, ?hx4⟩) hHeld ?rx4
  case hx4 => intro w' hSw; obtain ⟨e0, e1, e2⟩ := hSw; go_simp; (try with_reducible rfl)
  (try simp only [Act.put, List.getElem_toArray, List.getElem_cons_succ, List.getElem_cons_zero, List.setIfInBounds_toArray, List.set_cons_zero, List.set_cons_succ])
  refine wpAnyH_ready (rs := [5]) (by kernel_rfl) (by simp) ?_
  refine AllReadyH.one_delete (o := ?oB) ?hoB ?hwB (.tmp 18) (.tmp 19) 75 34 ?hopB 3 kStr Try.underlying75 (plainElem Try.prog 3) bm 16 D ?hmB hown _ (kL old) ?hxB hkeyo ?hB
  case hoB => exact rfl
  case hwB => kernel_rfl
  case hopB => kernel_rfl
  case hmB => kernel_rfl
  case hxB => kernel_rfl
  case hB =>
  intro w1 o1 q1
  have q1 : y.grownBy w1 (some bm) := ⟨q1.os, q1.tape, q1.output, q1.size, q1.block⟩
  obtain ⟨n0, n1, n2, n3⟩ := HF.out w1 q1
  refine ⟨⟨by rw [cell_of_row _ _ _ _ _ _ n2]; rfl, by rw [cell_of_row _ _ _ _ _ _ n2]; rfl, n3⟩, ?_⟩
  refine wpAnyH_done ?hrB ?hqB _
  case hrB => kernel_rfl
  case hqB =>
  simp only [Act.put, List.getElem_toArray, List.getElem_cons_succ, List.getElem_cons_zero, List.setIfInBounds_toArray, List.set_cons_zero, List.set_cons_succ]
  clear hHeld x2 hown
  go_wp2_with fail
  have x3 : w1.cell? ⟨w.heap.size, 0, none⟩ = some (.int .i64 (pA key)) ∧ w1.cell? ⟨w.heap.size, 1, none⟩ = some (.int .u8 (pB key)) ∧ w1.cell? ⟨p, 1, none⟩ = some (.map (some bm)) := ⟨by rw [cell_of_row _ _ _ _ _ _ n0]; rfl, by rw [cell_of_row _ _ _ _ _ _ n0]; rfl, n3⟩
  refine wp_region_held_drew (S := fun z => z.cell? ⟨w.heap.size, 0, none⟩ = some (.int .i64 (pA key)) ∧ z.cell? ⟨w.heap.size, 1, none⟩ = some (.int .u8 (pB key)) ∧ z.cell? ⟨p, 1, none⟩ = some (.map (some bm))) (by kernel_rfl) x3 (fun hHeld => ?_)
  refine wpAnyH_take (i := 0) (v := .pointer (some ⟨p, 0, none⟩)) rfl (by kernel_rfl) (by kernel_rfl) (by kernel_rfl) (fun _ _ _ h => h) (Or.inl ⟨by rfl, ?hy0⟩) hHeld ?ry0
  case hy0 => intro w' hSw; obtain ⟨e0, e1, e2⟩ := hSw; go_simp; (try with_reducible rfl)
  (try simp only [Act.put, List.getElem_toArray, List.getElem_cons_succ, List.getElem_cons_zero, List.setIfInBounds_toArray, List.set_cons_zero, List.set_cons_succ])
  refine wpAnyH_take (i := 1) (v := .pointer (some ⟨p, 0, none⟩)) rfl (by kernel_rfl) (by kernel_rfl) (by kernel_rfl) (fun _ _ _ h => h) (Or.inl ⟨by rfl, ?hy1⟩) hHeld ?ry1
  case hy1 => intro w' hSw; obtain ⟨e0, e1, e2⟩ := hSw; go_simp; (try with_reducible rfl)
  (try simp only [Act.put, List.getElem_toArray, List.getElem_cons_succ, List.getElem_cons_zero, List.setIfInBounds_toArray, List.set_cons_zero, List.set_cons_succ])
  refine wpAnyH_take (i := 2) (v := .pointer (some ⟨p, 1, none⟩)) rfl (by kernel_rfl) (by kernel_rfl) (by kernel_rfl) (fun _ _ _ h => h) (Or.inl ⟨by rfl, ?hy2⟩) hHeld ?ry2
  case hy2 => intro w' hSw; obtain ⟨e0, e1, e2⟩ := hSw; go_simp; (try with_reducible rfl)
  (try simp only [Act.put, List.getElem_toArray, List.getElem_cons_succ, List.getElem_cons_zero, List.setIfInBounds_toArray, List.set_cons_zero, List.set_cons_succ])
  refine wpAnyH_take (i := 3) (v := .map (some bm)) rfl (by kernel_rfl) (by kernel_rfl) (by kernel_rfl) (fun _ _ _ h => h) (Or.inl ⟨by rfl, ?hy3⟩) hHeld ?ry3
  case hy3 => intro w' hSw; obtain ⟨e0, e1, e2⟩ := hSw; go_simp; (try with_reducible rfl)
  (try simp only [Act.put, List.getElem_toArray, List.getElem_cons_succ, List.getElem_cons_zero, List.setIfInBounds_toArray, List.set_cons_zero, List.set_cons_succ])
  refine wpAnyH_take (i := 4) (v := .agg #[.int .i64 (pA key), .int .u8 (pB key)]) rfl (by kernel_rfl) (by kernel_rfl) (by kernel_rfl) (fun _ _ _ h => h) (Or.inl ⟨by rfl, ?hy4⟩) hHeld ?ry4
  case hy4 => intro w' hSw; obtain ⟨e0, e1, e2⟩ := hSw; go_simp; (try with_reducible rfl)
  (try simp only [Act.put, List.getElem_toArray, List.getElem_cons_succ, List.getElem_cons_zero, List.setIfInBounds_toArray, List.set_cons_zero, List.set_cons_succ])
  refine wpAnyH_take (i := 5) (v := .int .i64 (s : Int)) rfl (by kernel_rfl) (by kernel_rfl) (by kernel_rfl) (fun _ _ _ h => h) (Or.inl ⟨by rfl, ?hy5⟩) hHeld ?ry5
  case hy5 => intro w' hSw; obtain ⟨e0, e1, e2⟩ := hSw; go_simp; (try with_reducible rfl)
  (try simp only [Act.put, List.getElem_toArray, List.getElem_cons_succ, List.getElem_cons_zero, List.setIfInBounds_toArray, List.set_cons_zero, List.set_cons_succ])
  refine wpAnyH_ready (rs := [6]) (by kernel_rfl) (by simp) ?_
  refine AllReadyH.one_map (o := ?oC) ?hoC ?hwC (.tmp 23) (.tmp 24) (.tmp 25) 75 ?hopC 34 3 kStr Try.underlying75 (plainElem Try.prog 3) bm 16 (D.del (kL old)) ?hmC o1 (by decide) _ _ (kL key) ?hxC ?hvC hkey (.lit (.int .i64 (s : Int))) [] hv ?hC
  case hoC => exact rfl
  case hwC => kernel_rfl
  case hopC => kernel_rfl
  case hmC => kernel_rfl
  case hxC => kernel_rfl
  case hvC => kernel_rfl
  case hC =>
  intro w2 o2 q2
  have q2 : y.grownBy w2 (some bm) := ⟨q2.os.trans q1.os, q2.tape.trans q1.tape, q2.output.trans q1.output, Nat.le_trans q1.size q2.size, fun k hk hne => (q2.block k (Nat.lt_of_lt_of_le hk q1.size) hne).trans (q1.block k hk hne)⟩
  obtain ⟨m0, m1, m2, m3⟩ := HF.out w2 q2
  obtain ⟨r1, r2⟩ := HM.out w2 o2 q2
  refine ⟨⟨by rw [cell_of_row _ _ _ _ _ _ m0]; rfl, by rw [cell_of_row _ _ _ _ _ _ m0]; rfl, m3⟩, ?_⟩
  refine wpAnyH_done ?hrC ?hqC _
  case hrC => kernel_rfl
  case hqC =>
  simp only [Act.put, List.getElem_toArray, List.getElem_cons_succ, List.getElem_cons_zero, List.setIfInBounds_toArray, List.set_cons_zero, List.set_cons_succ]
  clear hHeld x3 o1 q1 n0 n1 n2 n3 o2
  have k0 : w2.cell? ⟨w.heap.size, 0, none⟩ = some (.int .i64 (pA key)) := by rw [cell_of_row _ _ _ _ _ _ m0]; rfl
  have k1 : w2.cell? ⟨w.heap.size, 1, none⟩ = some (.int .u8 (pB key)) := by rw [cell_of_row _ _ _ _ _ _ m0]; rfl
  have k2 : w2.cell? ⟨p, 2, none⟩ = some (.slice (some ⟨g, 0, none⟩) S.ks.length cap) := r1.c 2
  obtain ⟨g', cap', cs', e', hc0', hc1', hcs'⟩ := row_atS r1.ko HO.out
  simp only [Value.slice.injEq, Option.some.injEq, Addr.mk.injEq] at e'
  obtain ⟨⟨rfl, -, -⟩, -, -⟩ := e'
  have f0 : w2.frozen? ⟨g, s * 2, none⟩ = false := frozen_of_row _ _ _ _ 34 hcs'
  have f1 : w2.frozen? ⟨g, s * 2 + 1, none⟩ = false := frozen_of_row _ _ _ _ 34 hcs'
  have hs1 := Go.heap_setCell_same w2 g (s * 2) _ 34 (.int .i64 (pA key)) hcs'
  have k4 : (w2.setCell ⟨g, s * 2, none⟩ (.int .i64 (pA key))).cell? ⟨g, s * 2 + 1, none⟩ = some (.int .u8 (pB old)) := by
    rw [cell_of_row _ _ _ _ _ _ hs1, Array.getElem?_setIfInBounds_ne (by omega), ← cell_of_row _ _ _ _ _ _ hcs']
    exact hc1'
  have f2 : (w2.setCell ⟨g, s * 2, none⟩ (.int .i64 (pA key))).frozen? ⟨g, s * 2 + 1, none⟩ = false := frozen_of_row _ _ _ _ 34 hs1
  have k4d : (w2.setCell ⟨g, s * 2, none⟩ (.int .i64 (pA key))).drew.cell? ⟨g, s * 2 + 1, none⟩ = some (.int .u8 (pB old)) := k4
  have f2d : (w2.setCell ⟨g, s * 2, none⟩ (.int .i64 (pA key))).drew.frozen? ⟨g, s * 2 + 1, none⟩ = false := f2
  have k3 := hc0'
  clear hs1
  have t1 := LRep.setK (S := { S with mks := S.ks.set s key }) (key := key) r1 hsl
  obtain ⟨w3, hw3⟩ : ∃ w3, w3 = ((w2.setCell ⟨g, s * 2, none⟩ (.int .i64 (pA key))).setCell ⟨g, s * 2 + 1, none⟩ (.int .u8 (pB key))).drew := ⟨_, rfl⟩
  have t1 := And.intro (t1.1.kept (w' := w3) (by rw [hw3]; exact fun _ _ => rfl)) (t1.2.trans (show Chg (fun b => b = g) _ w3 by rw [hw3]; exact ⟨rfl, rfl, rfl, Nat.le_refl _, fun _ _ _ => rfl⟩))
  have HW3 := hide hw3
  have HLR := HH.out.lt
  have hgl : g < w.heap.size := HLR g (.inr (.inr (.inl rfl)))
  have HC3 := hide (r2.trans (t1.2.mono fun b _ e => .inr (.inr (.inl (by rw [e]; rfl)))))
  have HB3 : Hid (w3.heap[w.heap.size + 1]? = some (.cells #[.int .i64 0, .int .u8 0] 34 (0, 0)) ∧ w3.heap[w.heap.size + 1 + 1]? = some (.cells #[.int .i64 (pA old), .int .u8 (pB old)] 34 (0, 0))) := hide (by
    rw [hw3]
    exact ⟨(Go.heap_setCell_other _ _ _ _ (by show w.heap.size + 1 ≠ g; omega)).trans ((Go.heap_setCell_other _ _ _ _ (by show w.heap.size + 1 ≠ g; omega)).trans m1), (Go.heap_setCell_other _ _ _ _ (by show w.heap.size + 1 + 1 ≠ g; omega)).trans ((Go.heap_setCell_other _ _ _ _ (by show w.heap.size + 1 + 1 ≠ g; omega)).trans m2)⟩)
  have HTK := hide (take_any (by
    have := t1.1
    simp only [List.length_set] at this
    exact this) (HS.out.setk HK.out HN.out) hM HR0.out)
  have HL2 := hide HLR
  clear r1 r2 m0 m1 m2 m3 hc0' hc1' hcs' t1 hw3 HLR hgl HM HF HX HY HB
  go_wp2_with fail
  go_region_law fail
  all_goals go_wp2_with (first
    | (go_at_call 55; rw [← HW3.out]; refine HTK.out.mono ?_; rintro e w4 ⟨rfl, iv', z1, z2, z3⟩; have HR := hide (And.intro z1 (And.intro z2 z3)); clear z1 z2 z3
       have B1 : Hid (w4.heap[w.heap.size + 1]? = some (.cells #[.int .i64 0, .int .u8 0] 34 (0, 0))) := hide ((HR.out.2.2.keep _ (Array.getElem?_eq_some_iff.1 HB3.out.1).1 (fun e => by have := HL2.out _ e; omega)).trans HB3.out.1)
       have B2 : w4.heap[w.heap.size + 1 + 1]? = some (.cells #[.int .i64 (pA old), .int .u8 (pB old)] 34 (0, 0)) := (HR.out.2.2.keep _ (Array.getElem?_eq_some_iff.1 HB3.out.2).1 (fun e => by have := HL2.out _ e; omega)).trans HB3.out.2
       have u0 : w4.cell? ⟨w.heap.size + 1 + 1, 0, none⟩ = some (.int .i64 (pA old)) := by rw [cell_of_row _ _ _ _ _ _ B2]; rfl
       have u1 : w4.cell? ⟨w.heap.size + 1 + 1, 1, none⟩ = some (.int .u8 (pB old)) := by rw [cell_of_row _ _ _ _ _ _ B2]; rfl
       have HC4 := hide (HC3.out.trans HR.out.2.2)
       clear B2)
    | (refine wpList_store_row rfl 34 (.tmp 6) (.tmp 36) rfl (w.heap.size + 1) #[.int .i64 (pA old), .int .u8 (pB old)] (by first | rfl | simp [Act.eval, Act.put]) (by first | rfl | simp [Act.eval, Act.put]) 34 #[.int .i64 0, .int .u8 0] B1.out info2 rfl (one2 _ _) ?_))
  all_goals
    refine bodyPost_ret (results_row (p := 6) rfl _ _ (w.heap.size + 1) 34 #[.int .i64 (pA old), .int .u8 (pB old)] (0, 0) _ (by kernel_rfl) (setRow_heap _ _ #[.int .i64 0, .int .u8 0] _ 34 _ B1.out) Try.underlying34 rfl info2) rfl ⟨rfl, iv', HR.out.1.kept (fun b hb => setRow_other _ _ _ _ ?_), HR.out.2.1, ?_⟩
    · have hb' : LU p bm (.slice (some ⟨g, 0, none⟩) S.ks.length cap) rv iv b := by
        rcases hb with e | e | e | e | e
        · exact .inl e
        · exact .inr (.inl e)
        · exact .inr (.inr (.inl e))
        · exact .inr (.inr (.inr (.inl e)))
        · exact .inr (.inr (.inr (.inr (HR.out.2.1 ▸ e))))
      have := HL2.out _ hb'
      omega
    · have h4 := HC4.out
      exact ⟨h4.os, h4.tape, h4.output, by simp only [World.setRow, Array.size_modify]; exact h4.size, fun b hb hn => (setRow_other _ _ _ _ (by omega)).trans (h4.keep b hb hn)⟩
end Go.Proofs.Ythkkinmegileaaa.Sp
