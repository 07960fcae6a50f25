import Derived.Test.YtophcdfaflehcaaDoorWOff
namespace Go.Proofs.YtophcdfaflehcaaDoor
open Go.RowKit Go.Shelf
attribute [local go_sem] Oper.semAt_some
set_option linter.unusedVariables false
set_option linter.unusedSimpArgs false
set_option maxRecDepth 20000

theorem num_any (w : World) (e : Int) : Calls Tryd.prog 9 #[.int .i64 e] w fun r w' => r = .returned (.int .i64 e) ∧ w' = w := by
  go_enter Tryd.func9, Tryd.ntmps9
  go_wp2
  go_ret
  exact ⟨rfl, rfl⟩
/-- what New answers: the error's number -/
def nErr (n s : Int) (l : List Nat) : Nat := if n < 1 ∨ 65536 < n then 1 else if s < 0 ∨ n < s then 2 else cwErr n.toNat l
set_option maxHeartbeats 1000000 in
theorem new_bad {w : World} {v : Value} {l : List Nat} (n s : Int) (hv : WSl w v l) (he : nErr n s l ≠ 0) :
    Calls Tryd.prog 7 #[.int .i64 n, v, .int .i64 s] w fun e w' => e = .returned (.tuple #[.pointer none, .int .i64 ((nErr n s l : Nat) : Int)]) ∧ Below w.heap.size w w' := by
  refine (callsIn_wide (n := 5)).1 ?_
  have hb0 : Below w.heap.size w (w.alloc (Obj.cells #[Value.int IntKind.i64 s] 3)) := (Below.refl _ _).alloc (Nat.le_refl _) _
  have HB0 := hide hb0
  have c0 : (w.alloc (Obj.cells #[Value.int IntKind.i64 s] 3)).cell? ⟨w.heap.size, 0, none⟩ = some (.int .i64 s) := by rw [cell_of_row _ _ _ _ _ _ (Go.heap_alloc_new w _)]; rfl
  by_cases h1 : n < 1 ∨ 65536 < n
  · have e1 : nErr n s l = 1 := by unfold nErr; rw [if_pos h1]
    rw [e1]
    obtain ⟨va, vcap, rfl, -⟩ := hv
    clear he e1 hb0
    generalize l.length = llen at *
    by_cases h2 : n < 1
    · clear h1
      refine callsIn_of_wp_marks Tryd.func7 rfl trivial ?_ rfl
      simp only [Tryd.ntmps7, List.size_toArray, List.length_cons, List.length_nil, Nat.reduceAdd, Nat.reduceSub, Array.replicate_succ, Array.replicate_zero, List.push_toArray, List.append_toArray, List.nil_append, List.cons_append]
      gi_wp2
      refine ⟨.tuple #[.pointer none, .int .i64 1], by simp [results, Tryd.results7, go_sem], rfl, HB0.out⟩
    · have h3 : 65536 < n := by omega
      clear h1
      refine callsIn_of_wp_marks Tryd.func7 rfl trivial ?_ rfl
      simp only [Tryd.ntmps7, List.size_toArray, List.length_cons, List.length_nil, Nat.reduceAdd, Nat.reduceSub, Array.replicate_succ, Array.replicate_zero, List.push_toArray, List.append_toArray, List.nil_append, List.cons_append]
      gi_wp2
      refine ⟨.tuple #[.pointer none, .int .i64 1], by simp [results, Tryd.results7, go_sem], rfl, HB0.out⟩
  · obtain ⟨m, rfl⟩ : ∃ m : Nat, n = (m : Int) := ⟨n.toNat, by omega⟩
    have g1 : 1 ≤ m := by omega
    have g2 : m ≤ 65536 := by omega
    by_cases h2 : s < 0 ∨ (m : Int) < s
    · have e1 : nErr m s l = 2 := by unfold nErr; rw [if_neg h1, if_pos h2]
      rw [e1]
      obtain ⟨va, vcap, rfl, -⟩ := hv
      clear he e1 hb0 h1
      generalize l.length = llen at *
      by_cases h3 : s < 0
      · clear h2
        refine callsIn_of_wp_marks Tryd.func7 rfl trivial ?_ rfl
        simp only [Tryd.ntmps7, List.size_toArray, List.length_cons, List.length_nil, Nat.reduceAdd, Nat.reduceSub, Array.replicate_succ, Array.replicate_zero, List.push_toArray, List.append_toArray, List.nil_append, List.cons_append]
        gi_wp2
        refine ⟨.tuple #[.pointer none, .int .i64 2], by simp [results, Tryd.results7, go_sem], rfl, HB0.out⟩
      · have h4 : (m : Int) < s := by omega
        clear h2
        refine callsIn_of_wp_marks Tryd.func7 rfl trivial ?_ rfl
        simp only [Tryd.ntmps7, List.size_toArray, List.length_cons, List.length_nil, Nat.reduceAdd, Nat.reduceSub, Array.replicate_succ, Array.replicate_zero, List.push_toArray, List.append_toArray, List.nil_append, List.cons_append]
        gi_wp2
        refine ⟨.tuple #[.pointer none, .int .i64 2], by simp [results, Tryd.results7, go_sem], rfl, HB0.out⟩
    · obtain ⟨t, rfl⟩ : ∃ t : Nat, s = (t : Int) := ⟨s.toNat, by omega⟩
      have e1 : nErr m t l = cwErr m l := by unfold nErr; rw [if_neg h1, if_neg h2, Int.toNat_natCast]
      rw [e1] at he ⊢
      have g3 : t ≤ m := by omega
      have HF := hide (From_bad m g1 g2 (hv.below hb0) he)
      have hne : (((cwErr m l : Nat) : Int) != 0) = true := by simpa using he
      generalize cwErr m l = ee at *
      obtain ⟨va, vcap, rfl, -⟩ := hv
      clear e1 hb0 h1 h2 he
      generalize l.length = llen at *
      refine callsIn_of_wp_marks Tryd.func7 rfl trivial ?_ rfl
      simp only [Tryd.ntmps7, List.size_toArray, List.length_cons, List.length_nil, Nat.reduceAdd, Nat.reduceSub, Array.replicate_succ, Array.replicate_zero, List.push_toArray, List.append_toArray, List.nil_append, List.cons_append]
      gi_wp2_with (refine ⟨trivial, ?_⟩; gi_at_call 21; refine (callsIn_wide.2 HF.out).mono ?_; clear HF; rintro e w1 ⟨rfl, hb1⟩; have HB1 := hide hb1; clear hb1)
      refine ⟨.tuple #[.pointer none, .int .i64 (ee : Int)], by simp [results, Tryd.results7, go_sem], rfl, HB0.out.trans (HB1.out.mono (by simp))⟩

theorem eqNil_some (W : World) (a : Addr) (n c : Nat) : (binOp .eql 22 (.slice (some a) n c) (.slice none 0 0)).run Tryd.prog W = .ok (.bool false) W := Lib.run_eql_slice_nil (P := Tryd.prog) W 22 28 (some a) n c 0 0 Tryd.underlying22
theorem eqNil_nil (W : World) : (binOp .eql 22 (.slice none 0 0) (.slice none 0 0)).run Tryd.prog W = .ok (.bool true) W := Lib.run_eql_slice_nil (P := Tryd.prog) W 22 28 none 0 0 0 0 Tryd.underlying22
/-- one's own list of words -/
def URow (w : World) (v : Value) (l : List Nat) : Prop := w.ownsRow 0 28 1 v l.length (l.map u64V)
theorem Tryd.infoU : (Tryd.prog.info? 28).map (fun i => (i.zero, i.size, i.bytes)) = some (some (.int .u64 0), 1, 8) := by kernel_rfl
theorem infoUs : ∃ i, Tryd.prog.info? 28 = some i ∧ i.zero = some (.int .u64 0) ∧ i.size = 1 ∧ i.bytes = 8 := by
  have h := Tryd.infoU
  cases hi : Tryd.prog.info? 28 with
  | none => rw [hi] at h; simp at h
  | some i => rw [hi] at h; simp at h; exact ⟨i, rfl, h.1, h.2.1, h.2.2⟩
theorem URow.wsl {w : World} {v : Value} {l : List Nat} (h : URow w v l) (hl : ∀ b ∈ l, b < 18446744073709551616) : WSl w v l := by
  rcases h.2 with ⟨rfl, e0⟩ | ⟨g, cap, cur, rfl, _, hg, h1, h2, _⟩
  · exact ⟨none, 0, by rw [e0], by omega, by unfold maxLen; omega, fun _ => rfl, hl, fun hp => by omega⟩
  · refine ⟨_, _, rfl, h1, h2, by simp, hl, fun hp => ⟨g, 0, rfl, fun i hi => ?_⟩⟩
    have := World.ownsRow.cells h (g := g) rfl i (u64V (l.getD i 0)) (by simp [List.getElem?_map, List.getD, hi])
    rw [Addr.add_lit] at this
    exact this
theorem emptyU (w : World) : (w.alloc (.cells #[] 28)).ownsRow 0 28 1 (.slice (some ⟨w.heap.size, 0, none⟩) 0 0) 0 [] :=
  ⟨rfl, .inr ⟨w.heap.size, 0, #[], rfl, Nat.zero_le _, Go.heap_alloc_new w _, Nat.le_refl _, Nat.zero_le _, rfl, rfl⟩⟩
set_option maxHeartbeats 1000000 in
theorem ownWords_any {w : World} {v : Value} {l : List Nat} (hv : WSl w v l) (hr : l.length ≤ 17592186044416) :
    Calls Tryd.prog 8 #[v] w fun e w' => ∃ v', e = .returned v' ∧ URow w' v' l ∧ Below w.heap.size w w' ∧ ∀ g, v'.ownBlock = some g → w.heap.size ≤ g := by
  obtain ⟨a, cap, rfl, q1, q2, q3, q4, q5⟩ := hv
  cases a with
  | none =>
    have h0 : l.length = 0 := by have := q3 rfl; omega
    have := List.length_eq_zero_iff.1 h0
    subst this
    have hc := q3 rfl
    subst hc
    clear q3 q4 q5 q1 q2
    have hqn := eqNil_nil
    go_enter Tryd.func8, Tryd.ntmps8
    go_wp2_with fail
    go_ret
    exact ⟨_, rfl, ⟨rfl, .inl ⟨rfl, rfl⟩⟩, Below.refl _ _, by simp [Value.ownBlock]⟩
  | some ad =>
    obtain ⟨i, hi, hz, hsize, hby⟩ := infoUs
    have hne : ∀ j u, (l.map u64V)[j]? = some u → (w.alloc (.cells #[] 28)).cell? (ad.add j) = some u := fun j u hj => by
      have hjl : j < l.length := by
        have := (List.getElem?_eq_some_iff.1 hj).1
        simpa using this
      obtain ⟨b, off, eb, hc⟩ := q5 (by omega)
      simp only [Option.some.injEq] at eb
      subst eb
      have := hc j hjl
      rw [Addr.add_lit, World.cell?_of_block (w := w) (Below.heap_alloc w _ b (World.block_lt_of_cell? w _ this)), this]
      simp [List.getElem?_map, List.getD, hjl, u64V] at hj ⊢
      exact hj
    obtain ⟨v', w', hrun, ho, hg, -⟩ := run_append_own_wide (P := Tryd.prog) (w.alloc (.cells #[] 28)) 0 22 22 28 i (.int .u64 0) 1 8 Tryd.underlying22 hi hz hsize hby rfl (by decide) (.slice (some ⟨w.heap.size, 0, none⟩) 0 0) 0 [] (emptyU w) ad l.length cap (l.map u64V) (by simp) hne (fun u hu => by obtain ⟨x, _, rfl⟩ := List.mem_map.1 hu; rfl) (by unfold maxLen; omega) (by omega) (Nat.zero_le _)
    have HR := hide hrun
    have HU : Hid (URow w' v' l) := hide (by rw [Nat.zero_add, List.nil_append] at ho; exact ho)
    have HB : Hid (Below w.heap.size w w') := hide (((Below.refl w.heap.size w).alloc (Nat.le_refl _) _).grown hg (by rw [World.size_alloc]; omega) (fun k e => by simp [Value.ownBlock] at e; omega))
    have HN : Hid (∀ g, v'.ownBlock = some g → w.heap.size ≤ g) := hide fun g e => by
      by_cases h0 : l.length = 0
      · have hr2 := run_append_room (P := Tryd.prog) (w.alloc (.cells #[] 28)) 22 22 28 i Tryd.underlying22 hi w.heap.size 0 0 #[] (Go.heap_alloc_new w _) ad l.length cap (l.map u64V) (by rw [hsize]; simp) hne (fun u hu => by obtain ⟨x, _, rfl⟩ := List.mem_map.1 hu; rfl) (by omega) (by rw [hsize]; simp [h0])
        rw [hrun] at hr2
        injection hr2 with e1 e2
        rw [e1] at e
        simp only [Value.ownBlock, Option.some.injEq] at e
        omega
      · have hr2 := run_append_grow (P := Tryd.prog) (w.alloc (.cells #[] 28)) 22 22 28 i (.int .u64 0) Tryd.underlying22 hi hz ⟨w.heap.size, 0, none⟩ 0 0 [] (by rw [hsize]; rfl) (fun j u hj => by simp at hj) ad l.length cap (l.map u64V) (by rw [hsize]; simp) hne (by omega) (by omega) (by rw [hby]; exact growslice_fits_wide (by omega) (by omega))
        rw [hrun] at hr2
        injection hr2 with e1 e2
        rw [e1] at e
        simp only [Value.ownBlock, Option.some.injEq] at e
        rw [← e]
        simp
    clear hne ho hg hrun q3 q4 q5 hi hz hsize hby
    generalize l.length = len at *
    unfold maxLen at q2
    have hqn := eqNil_some
    go_enter Tryd.func8, Tryd.ntmps8
    go_wp2_with (at_builtin; refine Go.Lib.wpList_append_run _ rfl _ _ 22 22 rfl _ _ rfl rfl _ _ HR.out ?_)
    go_ret
    exact ⟨_, rfl, HU.out, HB.out, HN.out⟩
end Go.Proofs.YtophcdfaflehcaaDoor
