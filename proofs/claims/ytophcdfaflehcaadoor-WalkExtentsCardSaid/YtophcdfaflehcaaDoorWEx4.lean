import Derived.Test.YtophcdfaflehcaaDoorWExM
namespace Go.Proofs.YtophcdfaflehcaaDoor
open Go.RowKit Go.Shelf
attribute [local go_sem] Oper.semAt_some
set_option linter.unusedVariables false
set_option linter.unusedSimpArgs false
set_option maxRecDepth 20000

theorem fEqNil (W : World) (f : Nat) (a b : Array Value) : (binOp .eql 43 (.func (.func f) a b) .nilFunc).run Tryd.prog W = .ok (.bool false) W := by kernel_rfl
/-- how many rounds the outer loop still has -/
def rndAt (a : Act) (W : World) : Nat := match a.tmps.getD 10 undef with
  | .pointer (some p) => 2 - (intOf ((W.cell? p).getD undef)).toNat
  | _ => 0
theorem rndAt_of {t : Array Value} {ds : List Deferred} {W : World} {rb : Nat} {r : Int} (ht : t.getD 10 undef = .pointer (some ⟨rb, 0, none⟩)) (hc : W.heap[rb]? = some (.cells #[.int .i64 r] 3 (0, 0))) : rndAt { tmps := t, defers := ds } W = 2 - r.toNat := by
  have h1 : W.cell? ⟨rb, 0, none⟩ = some (.int .i64 r) := cell_of_row _ _ _ _ _ _ hc
  unfold rndAt
  dsimp only
  rw [ht]
  dsimp only
  rw [h1]
  rfl
/-- the law's temporaries -/
def exA (N bw be bm bn rb : Nat) (n stop : Int) (v own : Value) (u : Nat → Value) : Array Value := #[.int .i64 n, v, .int .i64 stop, u 3, u 4, .pointer (some ⟨N, 0, none⟩), .pointer (some ⟨N + 1, 0, none⟩), own, .pointer (some ⟨bw, 0, none⟩), .func (.func 27) #[] #[.pointer (some ⟨be, 0, none⟩), .pointer (some ⟨bm, 0, none⟩), .pointer (some ⟨bn, 0, none⟩)], .pointer (some ⟨rb, 0, none⟩), u 11, u 12, u 13, u 14, u 15, u 16, u 17, u 18, u 19, u 20, u 21, u 22, u 23, u 24, u 25, u 26, u 27, u 28, u 29, u 30, u 31, u 32, u 33, u 34, u 35, u 36, u 37, u 38, u 39, u 40, u 41, u 42, u 43, u 44, u 45, u 46, u 47, u 48, u 49, u 50, u 51, u 52, u 53, u 54, u 55, u 56, u 57, u 58, u 59, u 60, u 61, u 62, u 63, u 64, u 65, u 66, u 67, u 68, u 69, u 70, u 71, u 72, u 73, u 74, u 75, u 76, u 77, u 78, u 79, u 80, u 81, u 82, u 83, u 84, u 85, u 86, u 87, u 88, u 89, u 90, u 91, u 92, u 93, u 94, u 95, u 96]
def exI (w : World) (N M bw len be bm bn : Nat) (n stop : Int) (v want own : Value) (WL : List (Nat × Nat)) (EI : World → Prop) (a : Act) (W : World) : Prop :=
  ∃ (r : Int) (rb T : Nat) (ds : List Deferred) (u : Nat → Value), a = { tmps := exA N bw be bm bn rb n stop v own u, defers := ds } ∧ (0 ≤ r ∧ r ≤ 2) ∧ M ≤ rb ∧ T ≤ W.heap.size ∧ YB w W N M T bw rb len stop r false want own WL EI ds
def exMid (w : World) (N M T bw rb kb len WN : Nat) (stop r : Int) (want own : Value) (WL : List (Nat × Nat)) (EI : World → Prop) (ds : List Deferred) (W : World) : Prop := ∃ k : Int, (k = (WN : Int) ∨ (r = 0 ∧ k = stop)) ∧ W.heap[kb]? = some (.cells #[.int .i64 k] 3 (0, 0)) ∧ YB w W N M T bw rb len stop r false want own WL EI ds
theorem exI_mk {w W : World} {N M bw len be bm bn : Nat} {n stop : Int} {v want own : Value} {WL : List (Nat × Nat)} {EI : World → Prop} {t : Array Value} {ds : List Deferred} (r : Int) (rb T : Nat)
    (h : t = exA N bw be bm bn rb n stop v own (fun i => t.getD i undef)) (h1 : 0 ≤ r ∧ r ≤ 2) (h2 : M ≤ rb) (h3 : T ≤ W.heap.size) (h4 : YB w W N M T bw rb len stop r false want own WL EI ds) : exI w N M bw len be bm bn n stop v want own WL EI { tmps := t, defers := ds } W := ⟨r, rb, T, ds, _, by rw [← h], h1, h2, h3, h4⟩
set_option maxHeartbeats 2000000 in
theorem ext_core {w : World} {v : Value} {l : List Nat} (n stop : Int) (WL : List (Nat × Nat)) (hWL : WL.length ≤ 100000) (hT : TabAt w) (hv : WSl w v l) (hr : l.length ≤ 17592186044416)
    (HRE : Hid (∀ W, Below w.heap.size w W → Calls Tryd.prog 14 #[.int .i64 n, v] W fun e w' => ∃ cv, e = .returned cv ∧ CRow w' cv WL ∧ Below W.heap.size W w' ∧ ∀ g, cv.ownBlock = some g → W.heap.size ≤ g))
    (HEX : Hid (∀ W v1, Below w.heap.size w W → WSl W v1 l → Calls Tryd.prog 15 #[.int .i64 n, v1] W fun e w' => ∃ be bm bn EI Step End St pos, e = .returned (.func (.func 27) #[] #[.pointer (some ⟨be, 0, none⟩), .pointer (some ⟨bm, 0, none⟩), .pointer (some ⟨bn, 0, none⟩)]) ∧ XI be bm bn W.heap.size w'.heap.size WL EI Step End St pos ∧ EI w' ∧ Below W.heap.size W w')) :
    Calls Tryd.prog 5 #[.int .i64 n, v, .int .i64 stop] w fun e w' => e = .returned (.bool true) ∧ Below w.heap.size w w' := by
  refine (callsIn_wide (n := 5)).1 ?_
  have HO := hide fun W (hW : Below w.heap.size w W) => ownWords_any (hv.below hW) hr
  have HLT := hide hv.lt
  have HV := hide hv
  have HTL := hide hT.lt
  obtain ⟨a, cap, rfl, q1, q2, -⟩ := hv
  unfold maxLen at q2
  have HSW : Hid (∀ W v1, WSl W v1 l → Below w.heap.size w W → Calls Tryd.prog 16 #[v1, .slice a l.length cap] W fun e w' => e = .returned (.bool true) ∧ Below W.heap.size W w') := hide fun W v1 h1 hW => sameWords_any h1 (HV.out.below hW) hr
  have HZL : Hid (∀ W v1, URow W v1 l → ZRow W v1 l.length) := hide fun W v1 h => h.z
  clear HV hT
  have hfe := fEqNil
  generalize l.length = len at *
  obtain ⟨w0, hw0⟩ : ∃ w0, (w.alloc (Obj.cells #[Value.int IntKind.i64 stop] 3)).alloc (Obj.cells #[Value.bool false] 4) = w0 := ⟨_, rfl⟩
  have HB0 : Hid (Below w.heap.size w w0) := hide (by rw [← hw0]; exact ((Below.refl _ _).alloc (Nat.le_refl _) _).alloc (by simp) _)
  have HW0 := hide hw0
  clear hw0
  refine callsIn_of_wp_marks Tryd.func5 rfl trivial ?_ rfl
  simp only [Tryd.ntmps5, List.size_toArray, List.length_cons, List.length_nil, Nat.reduceAdd, Nat.reduceSub, Array.replicate_succ, Array.replicate_zero, List.push_toArray, List.append_toArray, List.nil_append, List.cons_append]
  gi_wp2_with (first
    | (refine ⟨trivial, ?_⟩; gi_at_call 8; rw [HW0.out]; refine (callsIn_wide.2 (HO.out _ HB0.out)).mono ?_; rintro e w1 ⟨v1, rfl, hU1, hB1, hN1⟩; obtain ⟨xa, xc, ex, x1, x2⟩ := (HZL.out _ _ hU1).form; subst ex; have HUU := hide (hU1.wsl HLT.out); have HZ1 := hide (HZL.out _ _ hU1); have HB01 := hide hB1; have HX1 := hide hN1; clear hU1 hB1 hN1 HO)
    | (refine ⟨trivial, ?_⟩; gi_at_call 14; refine (callsIn_wide.2 (HRE.out _ (HB0.out.trans (HB01.out.mono HB0.out.size)))).mono ?_; rintro e w2 ⟨cv, rfl, hC2, hB2, hN2⟩; obtain ⟨ca, cc, ec2, y1, y2⟩ := hC2.shape; subst ec2; have HC2 := hide hC2; have HB02 := hide (HB01.out.trans (hB2.mono HB01.out.size)); have HU2 := hide (HUU.out.below hB2); have HZ2 := hide (HZ1.out.kept fun g e => hB2.block g (HZ1.out.loc e)); have HL2 : Hid (∀ g, (Value.slice xa len xc).ownBlock = some g → g < w1.heap.size) := hide fun g e => HZ1.out.loc e; have HS2 := hide hB2.size; have HCL : Hid (∀ g, (Value.slice ca WL.length cc).ownBlock = some g → g < w2.heap.size ∧ w1.heap.size ≤ g) := hide fun g e => ⟨(by obtain ⟨cs, hc⟩ := hC2.blk e; exact (Array.getElem?_eq_some_iff.1 hc).1), hN2 g e⟩; clear hC2 hB2 hN2 HRE HUU HZ1)
    | (refine ⟨trivial, ?_⟩; gi_at_call 15; have hbA : Below w2.heap.size w2 (w2.alloc (Obj.cells #[Value.slice ca WL.length cc] 40)) := (Below.refl _ _).alloc (Nat.le_refl _) _; have HBA := hide hbA; clear hbA; refine (callsIn_wide.2 (HEX.out _ _ ((HB0.out.trans (HB02.out.mono HB0.out.size)).trans (HBA.out.mono (Nat.le_trans HB0.out.size HB02.out.size))) (HU2.out.below HBA.out))).mono ?_; rintro e w3 ⟨be, bm, bn, EI, Step, End, St, pos, rfl, hXI, hEI, hB3⟩; have HXI := hide hXI; have HEI := hide hEI; have HB3 := hide hB3; clear hXI hEI hB3 HEX)
    | (refine ⟨trivial, ?_⟩; gi_at_call 16; have hbA3 := HBA.out.trans (HB3.out.mono HBA.out.size); have HBA3 := hide hbA3; clear hbA3; have hbW3 := (HB0.out.trans (HB02.out.mono HB0.out.size)).trans (HBA3.out.mono (Nat.le_trans HB0.out.size HB02.out.size)); refine (callsIn_wide.2 (HSW.out _ _ (HU2.out.below HBA3.out) hbW3)).mono ?_; rintro e w4 ⟨rfl, hB4⟩; have HB4 := hide hB4; have HBW3 := hide hbW3; clear hB4 hbW3 HSW))
  obtain ⟨N, hN⟩ : ∃ N, w.heap.size = N := ⟨_, rfl⟩
  obtain ⟨M, hM⟩ : ∃ M, w4.heap.size = M := ⟨_, rfl⟩
  obtain ⟨bw, hbw⟩ : ∃ bw, w2.heap.size = bw := ⟨_, rfl⟩
  have hs0 : w0.heap.size = N + 2 := by rw [← HW0.out, ← hN]; simp
  have hs1 : w0.heap.size ≤ w1.heap.size := HB01.out.size
  have hs2 : w1.heap.size ≤ w2.heap.size := HS2.out
  have hsA : (w2.alloc (Obj.cells #[Value.slice ca WL.length cc] 40)).heap.size = w2.heap.size + 1 := World.size_alloc ..
  have hs3 := HB3.out.size
  have hs4 := HB4.out.size
  have HF : Hid (YF N M bw (.slice ca WL.length cc) (.slice xa len xc) EI) := hide (by
    refine ⟨by omega, by omega, by omega, fun g e => by have := HCL.out g e; omega, fun g e => ?_, fun W W' hE hk => HXI.out.keep W W' hE fun b o hb ho hc => hk b o ?_ ho hc fun e => ?_⟩
    · have h1 := HX1.out g e
      have h2 := HL2.out g e
      exact ⟨by omega, by omega, fun e2 => by have := HCL.out g e2; omega⟩
    · have := HTL.out
      rcases hb with rfl | ⟨_, hb⟩ <;> omega
    · have h1 := HX1.out b e
      have h2 := HL2.out b e
      rcases hb with rfl | ⟨_, hb⟩ <;> omega)
  have START : YB w (w4.alloc (Obj.cells #[Value.int IntKind.i64 0] 3)) N M M bw M len stop 0 false (.slice ca WL.length cc) (.slice xa len xc) WL EI [] := by
    have hb4 : Below w4.heap.size w4 (w4.alloc (Obj.cells #[Value.int IntKind.i64 0] 3)) := (Below.refl _ _).alloc (Nat.le_refl _) _
    have hb34 := HB4.out.trans (hb4.mono HB4.out.size)
    have hbA4 := HB3.out.trans (hb34.mono HB3.out.size)
    have hb24 := HBA.out.trans (hbA4.mono HBA.out.size)
    have hb04 := HB02.out.trans (hb24.mono HB02.out.size)
    have hbw4 := HB0.out.trans (hb04.mono HB0.out.size)
    refine ⟨by rw [← hN]; exact hbw4, ?_, ?_, ?_, HC2.out.kept fun g e => hb24.block g (HCL.out g e).1, HZ2.out.kept fun g e => hb24.block g (by have := HL2.out g e; omega), HXI.out.keep _ _ HEI.out fun b o hb ho hc => (hb34.block b (Array.getElem?_eq_some_iff.1 ho).1).trans ho, ?_, ⟨trivial, fun _ h => by cases h⟩⟩
    · rw [hb04.block _ (by omega), ← HW0.out, Below.heap_alloc _ _ _ (by rw [World.size_alloc, hN]; omega), ← hN]; exact Go.heap_alloc_new w _
    · rw [hb04.block _ (by omega), ← HW0.out]; have := Go.heap_alloc_new (w.alloc (Obj.cells #[Value.int IntKind.i64 stop] 3)) (Obj.cells #[Value.bool false] 4); rw [World.size_alloc, hN] at this; exact this
    · rw [hbA4.block _ (by omega), ← hbw]; exact Go.heap_alloc_new w2 _
    · rw [← hM]; exact Go.heap_alloc_new w4 _
  have hMs : M ≤ (w4.alloc (Obj.cells #[Value.int IntKind.i64 0] 3)).heap.size := by rw [World.size_alloc]; omega
  have hNM : N + 2 ≤ M := by omega
  have HNN := hide hN
  rw [hN, hM, hbw]
  clear HB0 HW0 HB01 HX1 HC2 HB02 HU2 HZ2 HL2 HS2 HCL HBA HEI HB3 HBA3 HB4 HBW3 HZL HLT HTL hs0 hs1 hs2 hsA hs3 hs4 hN hM hbw hfe
  generalize w4.alloc (Obj.cells #[Value.int IntKind.i64 0] 3) = WS at *
  refine wpIn_loop (exI w N M bw len be bm bn n stop (.slice a len cap) (.slice ca WL.length cc) (.slice xa len xc) WL EI) rndAt (exI_mk 0 M M (by kernel_rfl) ⟨by omega, by omega⟩ (Nat.le_refl _) hMs START) ?_
  clear START hMs
  rintro a' W ⟨r, rb, T, ds, u, rfl, ⟨hr0, hr2⟩, hMr, hTW, hY⟩
  unfold exA
  have HY := hide hY
  have crb : W.cell? ⟨rb, 0, none⟩ = some (.int .i64 r) := cell_of_row _ _ _ _ _ _ hY.br
  have hrbW : rb < W.heap.size := (Array.getElem?_eq_some_iff.1 hY.br).1
  have HMU : Hid (∀ t : Array Value, t.getD 10 undef = .pointer (some ⟨rb, 0, none⟩) → rndAt { tmps := t, defers := ds } W = 2 - r.toNat) := hide fun t ht => rndAt_of ht hY.br
  clear hY
  by_cases hrI : r < 2
  · gi_wp2
    have hYA := HY.out.on HF.out (by omega) ((Below.refl _ _).alloc (Nat.le_refl _) (Obj.cells #[Value.int IntKind.i64 0] 3))
    have HKB0 : Hid ((W.alloc (Obj.cells #[Value.int IntKind.i64 0] 3)).heap[W.heap.size]? = some (.cells #[.int .i64 0] 3 (0, 0))) := hide (Go.heap_alloc_new W _)
    have HYA := hide hYA
    have hsA : (W.alloc (Obj.cells #[Value.int IntKind.i64 0] 3)).heap.size = W.heap.size + 1 := World.size_alloc ..
    clear hYA HY crb
    generalize W.alloc (Obj.cells #[Value.int IntKind.i64 0] 3) = WA at *
    generalize W.heap.size = kb at *
    refine range_two 2 rfl (by decide) (gf := 27) (lb := #[.pointer (some ⟨be, 0, none⟩), .pointer (some ⟨bm, 0, none⟩), .pointer (some ⟨bn, 0, none⟩)]) rfl trivial enters_ex
      (HXI.out.seq _) (fun _ => rfl)
      (fun s W => St s ∧ W.heap[kb]? = some (.cells #[.int .i64 (pos s : Int)] 3 (0, 0)) ∧ YB w W N M T bw rb len stop r false (.slice ca WL.length cc) (.slice xa len xc) WL EI ds)
      (exMid w N M T bw rb kb len WL.length stop r (.slice ca WL.length cc) (.slice xa len xc) WL EI ds)
      (fun s A B' row hs hg hr => ⟨hs.1, own_blk hs.2.1 hg hr, hs.2.2.held HF.out (by have := (Array.getElem?_eq_some_iff.1 hs.2.1).1; omega) (by omega) (by omega) hg hr⟩)
      (fun _ A B' row hs hg hr => by obtain ⟨k, h1, h2, h3⟩ := hs; exact ⟨k, h1, own_blk h2 hg hr, h3.held HF.out (by have := (Array.getElem?_eq_some_iff.1 h2).1; omega) (by omega) (by omega) hg hr⟩)
      (fun s W hs => hs.2.2.ei)
      (fun s x s' => fun _ A B' row hs hg hr => HXI.out.stepW _ _ _ _ _ hs) (fun s A B' row hs hg hr => HXI.out.endW _ _ _ hs)
      (fun s W hs he => ⟨_, .inl (by rw [HXI.out.en s W hs.1 he]), hs.2.1, hs.2.2⟩)
      ⟨HXI.out.s0.1, by rw [HXI.out.s0.2]; exact HKB0.out, HYA.out⟩
      ?a1 ?assign ?body ?rest
    case assign =>
      intro l x W K hK
      simp only [exEnc]
      gi_wp2
      exact hK
    case body =>
      rintro l s x s' W hl1 hl2 ⟨hs1, hkb, hI⟩ hst
      obtain ⟨t1, t2, t3, t4⟩ := HXI.out.st s x s' W hs1 hst
      obtain ⟨i, en⟩ := x
      obtain ⟨g, c, ev, ce, cb⟩ := hI.cr.at t3
      rw [t4] at ce cb
      simp only [Value.slice.injEq] at ev
      obtain ⟨rfl, -, -⟩ := ev
      dsimp only at ce cb ⊢
      have HT := hide (And.intro t1 t2)
      have HKB := hide hkb
      have HI := hide hI
      have k1 : W.cell? ⟨kb, 0, none⟩ = some (.int .i64 (pos s : Int)) := cell_of_row _ _ _ _ _ _ hkb
      have k2 : W.frozen? ⟨kb, 0, none⟩ = false := frozen_of_row _ _ _ _ 3 hkb
      have k3 : W.cell? ⟨bw, 0, none⟩ = some (.slice (some ⟨g, 0, none⟩) WL.length cc) := cell_of_row _ _ _ _ _ _ hI.bw
      have HPS : Hid (∀ z : Int, z = (pos s : Int) + 1 → (W.setCell ⟨kb, 0, none⟩ (.int .i64 z)).heap[kb]? = some (.cells #[.int .i64 (pos s' : Int)] 3 (0, 0)) ∧ YB w (W.setCell ⟨kb, 0, none⟩ (.int .i64 z)) N M T bw rb len stop r false (.slice (some ⟨g, 0, none⟩) WL.length cc) (.slice xa len xc) WL EI ds ∧ ∀ K, KeepsFrom K W (W.setCell ⟨kb, 0, none⟩ (.int .i64 z))) := hide fun z hz => by
        refine ⟨?_, hI.put HF.out hkb (by omega) _ ((Go.heap_setCell_other _ _ _ _ (by show rb ≠ kb; omega)).trans hI.br), set_keeps hkb _⟩
        rw [Go.heap_setCell_same _ _ 0 _ 3 _ hkb, hz, t2]
        simp
      have k4 : (W.setCell ⟨kb, 0, none⟩ (.int .i64 ((pos s : Int) + 1))).cell? ⟨rb, 0, none⟩ = some (.int .i64 r) := cell_of_row _ _ _ _ _ _ (HPS.out _ rfl).2.1.br
      have k5 : (W.setCell ⟨kb, 0, none⟩ (.int .i64 ((pos s : Int) + 1))).cell? ⟨N, 0, none⟩ = some (.int .i64 stop) := cell_of_row _ _ _ _ _ _ (HPS.out _ rfl).2.1.b0
      have k6 : (W.setCell ⟨kb, 0, none⟩ (.int .i64 ((pos s : Int) + 1))).cell? ⟨kb, 0, none⟩ = some (.int .i64 ((pos s : Int) + 1)) := by rw [cell_of_row _ _ _ _ _ _ (HPS.out _ rfl).1, t2]; rfl
      generalize hP : pos s = P at *
      generalize hWN : WL.length = WN at *
      have hii : 0 ≤ (P : Int) ∧ (P : Int) < (WN : Int) := ⟨by omega, by omega⟩
      have hge : ¬ (P : Int) ≥ (WN : Int) := by omega
      have hge' : ¬ (WN : Int) ≤ (P : Int) := by omega
      clear hkb hI hst t4 t1 t2 hP
      by_cases hr0' : r = 0
      · by_cases hst : (P : Int) + 1 = stop
        · have hste : (((P : Int) + 1) == stop) = true := by simpa using hst
          have hr0b : (r == 0) = true := by simpa using hr0'
          have HR0 := hide hr0'
          have HST := hide hst
          clear hr0' hst
          gi_wp2
          exact ⟨(HPS.out _ rfl).2.2 _, rfl, (P : Int) + 1, .inr ⟨HR0.out, HST.out⟩, by rw [(HPS.out _ rfl).1, HT.out.2]; rfl, (HPS.out _ rfl).2.1⟩
        · have hste : (((P : Int) + 1) == stop) = false := by simpa using hst
          have hr0b : (r == 0) = true := by simpa using hr0'
          have HR0 := hide hr0'
          have HST := hide hst
          clear hr0' hst
          gi_wp2
          exact ⟨(HPS.out _ rfl).2.2 _, HT.out.1, (HPS.out _ rfl).1, (HPS.out _ rfl).2.1⟩
      · have hr0b : (r == 0) = false := by simpa using hr0'
        gi_wp2
        exact ⟨(HPS.out _ rfl).2.2 _, HT.out.1, (HPS.out _ rfl).1, (HPS.out _ rfl).2.1⟩
    case rest =>
      rintro D e W hD he ⟨k, hk, hkb, hI⟩ hK
      have HIM := hide (hI.ms.more (T' := W.heap.size) (by omega) (by omega) (Array.getElem?_eq_some_iff.1 hK).1 hK)
      have HI : Hid (YB w W N M W.heap.size bw rb len stop r false (.slice ca WL.length cc) (.slice xa len xc) WL EI ({ target := .collected D, args := #[] } :: ds)) := hide ⟨hI.bel, hI.b0, hI.b1, hI.bw, hI.cr, hI.zr, hI.ei, hI.br, HIM.out⟩
      have k1 : W.cell? ⟨kb, 0, none⟩ = some (.int .i64 k) := cell_of_row _ _ _ _ _ _ hkb
      have k3 : W.cell? ⟨bw, 0, none⟩ = some (.slice ca WL.length cc) := cell_of_row _ _ _ _ _ _ hI.bw
      have k4 : W.cell? ⟨rb, 0, none⟩ = some (.int .i64 r) := cell_of_row _ _ _ _ _ _ hI.br
      have k5 : W.cell? ⟨N, 0, none⟩ = some (.int .i64 stop) := cell_of_row _ _ _ _ _ _ hI.b0
      have HKW : Hid (W.heap.size ≤ W.heap.size) := hide (Nat.le_refl _)
      clear HIM hI hkb hK HYA HKB0
      generalize hT' : W.heap.size = T' at *
      have HT' := hide hT'
      clear hT'
      have hdec : ∃ b1 b2 b3 : Bool, (k != (WL.length : Int)) = b1 ∧ (r == 1) = b2 ∧ (k != stop) = b3 ∧ (b1 && (b2 || b3)) = false := ⟨_, _, _, rfl, rfl, rfl, by
        rcases hk with h | ⟨h1, h2⟩
        · simp [h]
        · simp [h1, h2]⟩
      obtain ⟨b1, b2, b3, e1, e2, e3, e4⟩ := hdec
      clear hk
      have hb23 : b1 = false ∨ (b1 = true ∧ b2 = false ∧ b3 = false) := by cases b1 <;> cases b2 <;> cases b3 <;> simp_all
      clear e4
      rcases he with rfl | rfl <;> rcases hb23 with rfl | ⟨rfl, rfl, rfl⟩ <;> gi_wp2
      all_goals
        gi_loopw [14] (fun y wr => ∃ i : Nat, i ≤ len ∧ y = .int .i64 (i : Int) ∧ T' ≤ wr.heap.size ∧ YB w wr N M T' bw rb len stop r false (.slice ca WL.length cc) (.slice xa len xc) WL EI ({ target := .collected D, args := #[] } :: ds)) (fun y _ => len - (intOf y).toNat)
        case atStart => exact ⟨0, Nat.zero_le _, rfl, Nat.le_of_eq HT'.out.symm, HI.out⟩
        case round =>
          obtain ⟨i, hi, rfl, hTr, hY⟩ := hrel
          have HY := hide hY
          clear hY k1 k3 k4 k5
          by_cases hlt : i < len
          · obtain ⟨g, cp, z, cs, ev, q3, q4, hg, hc, hset⟩ := HY.out.zr.at hlt
            simp only [Value.slice.injEq] at ev
            obtain ⟨rfl, -, rfl⟩ := ev
            have HG := hide hg
            have HSET := hide hset
            have hf : wr.frozen? ⟨g, i, none⟩ = false := frozen_of_row _ _ _ _ _ hg
            have hii : 0 ≤ (i : Int) ∧ (i : Int) < (len : Int) := ⟨by omega, by omega⟩
            unfold maxLen at q4
            clear hg hset
            gi_wp2
            go_roundw
            case rel => exact ⟨i + 1, by omega, by go_num, by simpa [World.setCell] using hTr, HY.out.flip HF.out rfl HG.out hMr _ (HSET.out _)⟩
            case measure => simp [intOf]; omega
          · have hnl : ¬ (i : Int) < (len : Int) := by omega
            have k4 : wr.cell? ⟨rb, 0, none⟩ = some (.int .i64 r) := cell_of_row _ _ _ _ _ _ HY.out.br
            gi_wp2
            have hal : Below wr.heap.size wr (wr.alloc (Obj.cells #[Value.int IntKind.i64 (r + 1)] 3)) := (Below.refl _ _).alloc (Nat.le_refl _) _
            have hnew := Go.heap_alloc_new wr (Obj.cells #[Value.int IntKind.i64 (r + 1)] 3)
            have hkp : ∀ {b : Nat} {o : Obj}, wr.heap[b]? = some o → (wr.alloc (Obj.cells #[Value.int IntKind.i64 (r + 1)] 3)).heap[b]? = some o := fun hh => (hal.block _ (Array.getElem?_eq_some_iff.1 hh).1).trans hh
            have hrw : rb < wr.heap.size := (Array.getElem?_eq_some_iff.1 HY.out.br).1
            refine ⟨exI_mk (r + 1) wr.heap.size T' (by kernel_rfl) ⟨by omega, by omega⟩ (by omega) (by rw [World.size_alloc]; omega) (HY.out.to HF.out (HY.out.bel.trans (hal.mono (by omega))) (fun b o _ ho _ => hkp ho) (HY.out.ms.kept fun D _ _ ho => hkp ho) hnew), ?_⟩
            rw [HMU.out _ (by kernel_rfl), rndAt_of (by kernel_rfl) hnew]
            omega
  · have f1 : W.frozen? ⟨N + 1, 0, none⟩ = false := frozen_of_row _ _ _ _ 4 HY.out.b1
    have c1 : W.cell? ⟨N + 1, 0, none⟩ = some (.bool false) := cell_of_row _ _ _ _ _ _ HY.out.b1
    gi_wp2
    have hB1 : (W.setCell ⟨N + 1, 0, none⟩ (.bool true)).heap[N + 1]? = some (.cells #[.bool true] 4 (0, 0)) := by rw [Go.heap_setCell_same _ _ 0 _ 4 _ HY.out.b1]; rfl
    have hBb : Below N w (W.setCell ⟨N + 1, 0, none⟩ (.bool true)) := ⟨HY.out.bel.os, HY.out.bel.tape, HY.out.bel.output, by have := HY.out.bel.size; simp [World.setCell]; omega, fun c hc => (Go.heap_setCell_other _ _ _ _ (by show c ≠ N + 1; omega)).trans (HY.out.bel.block c hc)⟩
    have hMk : MK N T (W.setCell ⟨N + 1, 0, none⟩ (.bool true)) ds := HY.out.ms.kept fun D _ _ ho => (Go.heap_setCell_other _ _ _ _ (fun e => by
      have e' : D = N + 1 := e
      rw [e', HY.out.b1] at ho
      cases ho)).trans ho
    refine leaves_mk ds _ hMk hBb hB1 fun W' hb' hB' => ⟨.bool true, ?_, rfl, by rw [HNN.out]; exact hb'⟩
    have hcell : W'.cell? ⟨N + 1, 0, none⟩ = some (.bool true) := cell_of_row _ _ _ _ _ _ hB'
    simp [results, Tryd.results5, go_sem, hcell]
end Go.Proofs.YtophcdfaflehcaaDoor
