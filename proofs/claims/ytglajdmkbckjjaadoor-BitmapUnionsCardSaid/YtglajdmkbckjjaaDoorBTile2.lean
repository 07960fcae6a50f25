import Derived.Test.YtglajdmkbckjjaaDoorBTile
namespace Go.Proofs.YtglajdmkbckjjaaDoor
open Go.RowKit Go.Shelf
attribute [local go_sem] Oper.semAt_some
set_option linter.unusedVariables false
set_option linter.unusedSimpArgs false
set_option maxRecDepth 20000

theorem KeepsFrom.ofBelow {W W' : World} (h : Below W.heap.size W W') (K : Nat) : KeepsFrom K W W' := ⟨h.size, fun b o _ hb _ => (h.block b (Array.getElem?_eq_some_iff.1 hb).1).trans hb⟩

set_option maxHeartbeats 2000000 in
theorem tile_main {w : World} {v ov : Value} {l : List Nat} {os : List OpV} (n : Nat) (hT : TabAt w) (hv : WSl w v l) (hr : l.length ≤ 17592186044416) (ho : OSl w ov os) (h1 : 1 ≤ n) (h2 : n ≤ 65536) (he : cwErr n l = 0) :
    Calls Tryd.prog 3 #[.int .i64 (n : Int), v, ov] w fun e w' => e = .returned (.bool true) ∧ Below w.heap.size w w' := by
  refine (callsIn_wide (n := 5)).1 ?_
  have hcan : canB (n : Int) l = true := decide_eq_true ⟨by omega, by omega, by rw [Int.toNat_natCast]; exact he⟩
  obtain ⟨w0, hw0⟩ : ∃ w0, (w.alloc (Obj.cells #[Value.int IntKind.i64 ↑n] 3)).alloc (Obj.cells #[Value.bool false] 4) = w0 := ⟨_, rfl⟩
  have hb0 : Below w.heap.size w w0 := by rw [← hw0]; exact ((Below.refl _ _).alloc (Nat.le_refl _) _).alloc (by simp) _
  have hs0 : w0.heap.size = w.heap.size + 2 := by rw [← hw0]; simp
  have q0 : w0.heap[w.heap.size]? = some (.cells #[.int .i64 (n : Int)] 3 (0, 0)) := by rw [← hw0, Below.heap_alloc _ _ _ (by simp)]; exact Go.heap_alloc_new w _
  have q1 : w0.heap[w.heap.size + 1]? = some (.cells #[.bool false] 4 (0, 0)) := by rw [← hw0]; have := Go.heap_alloc_new (w.alloc (Obj.cells #[Value.int IntKind.i64 ↑n] 3)) (Obj.cells #[Value.bool false] 4); rwa [World.size_alloc] at this
  have HL := hide (listed_any (n : Int) (hv.below hb0))
  rw [hcan] at HL
  have HLAY := hide (lay_law n h1 h2 (hv.below hb0) hr he (ho.below hb0))
  generalize foldO n (valW l) os = B at *
  have HT := hide hT
  have htl := hT.lt
  have HQ0 := hide q0
  have HQ1 := hide q1
  have HB0 := hide hb0
  have HS0 := hide hs0
  have HW0 := hide hw0
  obtain ⟨va, vcap, rfl, -⟩ := hv
  obtain ⟨oa, ocap, rfl, -⟩ := ho
  have hpe := ptrEqNil
  have hfe := fnEqNil
  have hc0 : w0.cell? ⟨w.heap.size, 0, none⟩ = some (.int .i64 (n : Int)) := by rw [cell_of_row _ _ _ _ _ _ q0]; rfl
  clear hcan he hT q0 q1 hb0 hs0 hw0
  generalize l.length = llen at *
  generalize os.length = olen at *
  refine callsIn_of_wp_marks Tryd.func3 rfl trivial ?_ rfl
  simp only [Tryd.ntmps3, List.size_toArray, List.length_cons, List.length_nil, Nat.reduceAdd, Nat.reduceSub, Array.replicate_succ, Array.replicate_zero, List.push_toArray, List.append_toArray, List.nil_append, List.cons_append]
  gi_wp2_with (first
    | (refine ⟨trivial, ?_⟩; gi_at_call 9; rw [HW0.out]; refine (callsIn_wide.2 HL.out).mono ?_; clear HL; rintro e w' ⟨rfl, rfl⟩)
    | (refine ⟨trivial, ?_⟩; gi_at_call 10; refine (callsIn_wide.2 HLAY.out).mono ?_; clear HLAY; rintro e w1 ⟨L, rfl, hn0⟩; have HNEW := hide hn0; clear hn0; unfold PB)
    | (refine ⟨trivial, ?_⟩; gi_at_call 11; refine (callsIn_wide.2 (Runs_any _ _)).mono ?_; rintro e w' ⟨rfl, rfl⟩))
  have hN1 : w.heap.size + 1 < w1.heap.size := by have := HNEW.out.2.1.size; rw [HS0.out] at this; omega
  have hU : Hid (∀ b, L.U b → w.heap.size + 2 ≤ b ∧ b < w1.heap.size) := hide fun b hb => ⟨by have := HNEW.out.2.2 b hb; rw [HS0.out] at this; exact this, HNEW.out.1.uLt b hb⟩
  obtain ⟨W0, hW0⟩ : ∃ W0, ((((w1.alloc (Obj.cells #[Value.pointer (some ⟨L.p, 0, none⟩)] 25)).alloc (Obj.cells #[PB L] 25)).alloc (Obj.cells #[Value.int IntKind.i64 0] 3)).alloc (Obj.cells #[Value.int IntKind.i64 0] 3)) = W0 := ⟨_, rfl⟩
  rw [hW0]
  have hsz : W0.heap.size = w1.heap.size + 4 := by rw [← hW0]; simp
  have START : TInv w W0 w.heap.size w1.heap.size L n B 0 (cnt B.testBit 0) := by
    have hbw : Below w1.heap.size w1 W0 := by rw [← hW0]; exact ((((Below.refl _ _).alloc (Nat.le_refl _) _).alloc (by simp) _).alloc (by simp; omega) _).alloc (by simp; omega) _
    have hbw0 := HNEW.out.2.1
    have k0 : ∀ {b o}, _ → w1.heap[b]? = some o → W0.heap[b]? = some o := fun (_ : True) hh => (hbw.block _ (Array.getElem?_eq_some_iff.1 hh).1).trans hh
    have hba : Below w.heap.size w W0 := HB0.out.trans ((hbw0.mono (by rw [HS0.out]; omega)).trans (hbw.mono (by omega)))
    refine ⟨HNEW.out.1.below hbw, HT.out.below hba, hba, ?_, ?_, ?_, ?_, ?_, ?_⟩
    · exact k0 trivial ((hbw0.block _ (by rw [HS0.out]; omega)).trans HQ0.out)
    · exact k0 trivial ((hbw0.block _ (by rw [HS0.out]; omega)).trans HQ1.out)
    · rw [← hW0, Below.heap_alloc _ _ _ (by simp; omega), Below.heap_alloc _ _ _ (by simp; omega), Below.heap_alloc _ _ _ (by simp)]; exact Go.heap_alloc_new w1 _
    · rw [← hW0, Below.heap_alloc _ _ _ (by simp), Below.heap_alloc _ _ _ (by simp)]; have := Go.heap_alloc_new (w1.alloc (Obj.cells #[Value.pointer (some ⟨L.p, 0, none⟩)] 25)) (Obj.cells #[PB L] 25); rwa [World.size_alloc] at this
    · rw [← hW0, Below.heap_alloc _ _ _ (by simp)]; have := Go.heap_alloc_new ((w1.alloc (Obj.cells #[Value.pointer (some ⟨L.p, 0, none⟩)] 25)).alloc (Obj.cells #[PB L] 25)) (Obj.cells #[Value.int IntKind.i64 0] 3); rwa [World.size_alloc, World.size_alloc] at this
    · rw [← hW0]; have := Go.heap_alloc_new (((w1.alloc (Obj.cells #[Value.pointer (some ⟨L.p, 0, none⟩)] 25)).alloc (Obj.cells #[PB L] 25)).alloc (Obj.cells #[Value.int IntKind.i64 0] 3)) (Obj.cells #[Value.int IntKind.i64 0] 3); rwa [World.size_alloc, World.size_alloc, World.size_alloc] at this
  clear hW0 HNEW HQ0 HQ1 HW0 hc0 HB0 HS0 hpe hfe
  generalize hM : w1.heap.size = M at *
  generalize hN : w.heap.size = N at *
  have HNN := hide hN
  clear hM hN
  refine wpIn_range_st rfl (by decide) (gf := 38) (lb := #[.pointer (some ⟨M + 1, 0, none⟩)]) rfl trivial enters38
    (runs_seq _ (M + 1) L n) (fun _ => rfl)
    (fun s W => s ≤ n ∧ (0 < s → s < n → B.testBit s = false) ∧ TInv w W N M L n B s (cnt B.testBit s))
    (fun _ _ => False)
    (fun s A B' row hs hg hr => ⟨hs.1, hs.2.1, hs.2.2.own (by omega) (by omega) hg hr (Nat.le_of_lt (Array.getElem?_eq_some_iff.1 hs.2.2.b0).1)⟩)
    (fun _ _ _ _ _ hs _ _ => hs)
    (fun s W hs => ⟨⟨B, hs.2.2.rep⟩, hs.2.2.tab, by rw [cell_of_row _ _ _ _ _ _ hs.2.2.m1]; rfl⟩)
    (fun s x s' => fun _ A B' row hs hg hr => by obtain ⟨B2, e1, e2, e3, e4⟩ := hs; exact ⟨B2, own_rep e1 hg hr, e2, e3, e4⟩) (fun s A B' row hs hg hr => by obtain ⟨B2, e1, e2⟩ := hs; exact ⟨B2, own_rep e1 hg hr, e2⟩)
    ⟨Nat.zero_le _, fun h => by omega, START⟩
    ?a1 ?assign ?body ?done ?stop
  case assign =>
    intro l x W K hK
    simp only [rnEnc]
    gi_wp2
    exact hK
  case body =>
    rintro l s x s' W hl1 hl2 ⟨hs1, hs2, hI⟩ ⟨B', hR, hx1, hx2, rfl⟩
    obtain rfl := hI.rep.uniq hR
    obtain ⟨i, en⟩ := x
    dsimp only at hx1 hx2 ⊢
    obtain ⟨r1, r2, r3⟩ := run_ends hs1 hx1
    obtain ⟨f1, f2, f3, f4⟩ := nx_facts hx1 hs1
    obtain ⟨g1, g2⟩ := run_all f3 f2
    rw [← hx2] at r2 r3 g1 g2
    have hne : 0 < s → i ≠ s := fun h0 e => by rw [e] at f3; rw [hs2 h0 (by omega)] at f3; cases f3
    have hcg := cnt_gap r1 (Nat.le_of_lt r2) f4 g1
    have c1 := count_in hI.rep (a := s) (c := i - s) (k := 0) (by omega) (cnt_zero _ fun j hj => f4 _ (by omega) (by omega)) (C := (i : Int) - (s : Int)) (K := 0) (by omega) rfl
    have c2 := count_in hI.rep (a := i) (c := en - i) (k := en - i) (by omega) (cnt_full _ fun j hj => g1 _ (by omega) (by omega)) (C := (en : Int) - (i : Int)) (K := (en : Int) - (i : Int)) (by omega) (by omega)
    have hcl := cnt_le B.testBit s
    have HC1 := hide c1
    have HC2 := hide c2
    have HCG := hide hcg
    have HG2 := hide g2
    have HI := hide hI
    have k0 : W.cell? ⟨N, 0, none⟩ = some (.int .i64 (n : Int)) := by rw [cell_of_row _ _ _ _ _ _ hI.b0]; rfl
    have k2 : W.cell? ⟨M, 0, none⟩ = some (.pointer (some ⟨L.p, 0, none⟩)) := by rw [cell_of_row _ _ _ _ _ _ hI.m0]; rfl
    have k3 : W.cell? ⟨M + 1 + 1, 0, none⟩ = some (.int .i64 (s : Int)) := by rw [cell_of_row _ _ _ _ _ _ hI.m2]; rfl
    have k4 : W.cell? ⟨M + 1 + 1 + 1, 0, none⟩ = some (.int .i64 ((cnt B.testBit s : Nat) : Int)) := by rw [cell_of_row _ _ _ _ _ _ hI.m3]; rfl
    have HMW : Hid (M + 1 + 1 + 1 < W.heap.size) := hide (Array.getElem?_eq_some_iff.1 hI.m3).1
    clear START c1 c2 hcg g1 g2 hI hR f3 f4 hx1 hx2 hs2
    generalize cnt B.testBit s = t at *
    unfold PB at *
    have hbW : Below W.heap.size W W := Below.refl _ _
    have hpl : (decide ((0 : Int) < (s : Int)) && ((i : Int) == (s : Int))) = false := by
      by_cases h0 : 0 < s
      · have := hne h0; simp; omega
      · simp; omega
    by_cases h0 : 0 < s
    · have hine : ((i : Int) == (s : Int)) = false := by have := hne h0; simp; omega
      clear hne hpl
      gi_wp2_with (first
        | (refine ⟨trivial, ?_⟩; gi_at_call 12; refine (CallsIn.inRound l (callsIn_wide.2 (HC1.out _ (by assumption)))).mono ?_; clear HC1; rintro e w2 ⟨rfl, hb2⟩; have k2a := cell_below hb2 k2)
        | (refine ⟨trivial, ?_⟩; gi_at_call 12; refine (CallsIn.inRound l (callsIn_wide.2 (HC2.out _ (by assumption)))).mono ?_; clear HC2; rintro e w3 ⟨rfl, hb3⟩; have k3b := cell_below hb3 k3; have k4b := cell_below hb3 k4; have f3b : w3.frozen? ⟨M + 1 + 1, 0, none⟩ = false := frozen_of_row _ _ _ _ 3 (HI.out.below hb3).m2; have f4b : w3.frozen? ⟨M + 1 + 1 + 1, 0, none⟩ = false := frozen_of_row _ _ _ _ 3 (HI.out.below hb3).m3)
        | (refine ⟨trivial, ?_⟩; gi_at_call 13; refine (CallsIn.inRound l (callsIn_wide.2 (num_any _ _))).mono ?_; rintro e w' ⟨rfl, rfl⟩))
      have hst := (HI.out.below hb3).stored (s' := en) (t' := cnt B.testBit en) (S := (i : Int) + ((en : Int) - (i : Int))) (T := (t : Int) + ((en : Int) - (i : Int))) hN1 (fun b hb => (hU.out b hb).2) htl (by omega) (by rw [HCG.out]; omega)
      exact ⟨(KeepsFrom.ofBelow hb3 _).trans (hst.2 _), r3, fun _ h => HG2.out h, hst.1⟩
    · have hs0 : s = 0 := by omega
      subst hs0
      clear hne hpl h0
      gi_wp2_with (first
        | (refine ⟨trivial, ?_⟩; gi_at_call 12; refine (CallsIn.inRound l (callsIn_wide.2 (HC1.out _ (by assumption)))).mono ?_; clear HC1; rintro e w2 ⟨rfl, hb2⟩; have k2a := cell_below hb2 k2)
        | (refine ⟨trivial, ?_⟩; gi_at_call 12; refine (CallsIn.inRound l (callsIn_wide.2 (HC2.out _ (by assumption)))).mono ?_; clear HC2; rintro e w3 ⟨rfl, hb3⟩; have k3b := cell_below hb3 k3; have k4b := cell_below hb3 k4; have f3b : w3.frozen? ⟨M + 1 + 1, 0, none⟩ = false := frozen_of_row _ _ _ _ 3 (HI.out.below hb3).m2; have f4b : w3.frozen? ⟨M + 1 + 1 + 1, 0, none⟩ = false := frozen_of_row _ _ _ _ 3 (HI.out.below hb3).m3)
        | (refine ⟨trivial, ?_⟩; gi_at_call 13; refine (CallsIn.inRound l (callsIn_wide.2 (num_any _ _))).mono ?_; rintro e w' ⟨rfl, rfl⟩))
      have hst := (HI.out.below hb3).stored (s' := en) (t' := cnt B.testBit en) (S := (i : Int) + ((en : Int) - (i : Int))) (T := (t : Int) + ((en : Int) - (i : Int))) hN1 (fun b hb => (hU.out b hb).2) htl (by omega) (by rw [HCG.out]; omega)
      exact ⟨(KeepsFrom.ofBelow hb3 _).trans (hst.2 _), r3, fun _ h => HG2.out h, hst.1⟩
  case done =>
    rintro D s W hD ⟨B', hR, hx⟩ ⟨hs1, hs2, hI⟩ hK
    obtain rfl := hI.rep.uniq hR
    have z := nx_no hx
    have hct : cnt B.testBit n = cnt B.testBit s := by
      obtain ⟨d, rfl⟩ : ∃ d, n = s + d := ⟨n - s, by omega⟩
      rw [cnt_add, cnt_zero d (fun j hj => z _ (by omega) (by omega))]
      rfl
    have c1 := count_in hI.rep (a := s) (c := n - s) (k := 0) (by omega) (cnt_zero _ fun j hj => z _ (by omega) (by omega)) (C := (n : Int) - (s : Int)) (K := 0) (by omega) rfl
    have HC1 := hide c1
    have hcl := cnt_le B.testBit s
    have HI := hide hI
    have HKD := hide hK
    have HCNT : Hid (∀ W', BRep W' L n B → Calls Tryd.prog 14 #[PB L] W' fun e w' => e = .returned (.int .i64 ((cnt B.testBit s : Nat) : Int)) ∧ w' = W') := hide fun W' h => by rw [← hct]; exact Count_any h
    have k0 : W.cell? ⟨N, 0, none⟩ = some (.int .i64 (n : Int)) := by rw [cell_of_row _ _ _ _ _ _ hI.b0]; rfl
    have k2 : W.cell? ⟨M, 0, none⟩ = some (.pointer (some ⟨L.p, 0, none⟩)) := by rw [cell_of_row _ _ _ _ _ _ hI.m0]; rfl
    have k3 : W.cell? ⟨M + 1 + 1, 0, none⟩ = some (.int .i64 (s : Int)) := by rw [cell_of_row _ _ _ _ _ _ hI.m2]; rfl
    have k4 : W.cell? ⟨M + 1 + 1 + 1, 0, none⟩ = some (.int .i64 ((cnt B.testBit s : Nat) : Int)) := by rw [cell_of_row _ _ _ _ _ _ hI.m3]; rfl
    have k1 : W.cell? ⟨N + 1, 0, none⟩ = some (.bool false) := by rw [cell_of_row _ _ _ _ _ _ hI.b1]; rfl
    have hbW : Below W.heap.size W W := Below.refl _ _
    clear START c1 hI hR hx z hct hK hs2
    generalize cnt B.testBit s = t at *
    unfold PB at *
    gi_wp2_with (refine ⟨trivial, ?_⟩; gi_at_call 12; refine (callsIn_wide.2 (HC1.out _ (by assumption))).mono ?_; clear HC1; rintro e w2 ⟨rfl, hb2⟩; have k1a := cell_below hb2 k1; have k2a := cell_below hb2 k2; have k4a := cell_below hb2 k4; have f1a : w2.frozen? ⟨N + 1, 0, none⟩ = false := frozen_of_row _ _ _ _ 4 (HI.out.below hb2).b1)
    have g2 : (w2.setCell ⟨N + 1, 0, none⟩ (.bool true)).drew.cell? ⟨M, 0, none⟩ = some (.pointer (some ⟨L.p, 0, none⟩)) := (World.cell?_of_block (Go.heap_setCell_other _ _ _ _ (by show M ≠ N + 1; omega))).trans k2a
    have g4 : (w2.setCell ⟨N + 1, 0, none⟩ (.bool true)).drew.cell? ⟨M + 1 + 1 + 1, 0, none⟩ = some (.int .i64 (t : Int)) := (World.cell?_of_block (Go.heap_setCell_other _ _ _ _ (by show M + 1 + 1 + 1 ≠ N + 1; omega))).trans k4a
    refine wpIn_wide.2 ?_
    go_region_held3 (fun w' => w'.cell? ⟨M, 0, none⟩ = some (.pointer (some ⟨L.p, 0, none⟩)) ∧ w'.cell? ⟨M + 1 + 1 + 1, 0, none⟩ = some (.int .i64 (t : Int))) (first | (constructor <;> assumption) | go_keep)
      (first
        | (go_at_call 13; refine (num_any _ _).mono ?_; rintro e w' ⟨rfl, rfl⟩)
        | (go_at_call 14; refine (HCNT.out w2.drew ((HI.out.below hb2).rep.kept fun _ _ => rfl)).mono ?_; rintro e w' ⟨rfl, rfl⟩))
    have hDW : D < W.heap.size := (Array.getElem?_eq_some_iff.1 HKD.out).1
    have hKD2 : (w2.setCell ⟨N + 1, 0, none⟩ (.bool true)).drew.heap[D]? = some (.deferred (some [])) := (Go.heap_setCell_other _ _ _ _ (by show D ≠ N + 1; omega)).trans ((hb2.block D hDW).trans HKD.out)
    have HKD2 := hide hKD2
    have HCELL : Hid (((w2.setCell ⟨N + 1, 0, none⟩ (.bool true)).drew.putObj D (.deferred none)).cell? ⟨N + 1, 0, none⟩ = some (.bool true)) := hide (by
      rw [World.cell?_of_block (w := (w2.setCell ⟨N + 1, 0, none⟩ (.bool true)).drew) (World.putObj_heap_other (by show N + 1 ≠ D; omega))]
      exact World.cell?_setCell_same' _ _ _ (by rw [k1a]; rfl))
    have HBEL : Hid (Below N w ((w2.setCell ⟨N + 1, 0, none⟩ (.bool true)).drew.putObj D (.deferred none))) := hide (by
      have hNW : N ≤ W.heap.size := Nat.le_of_lt (Array.getElem?_eq_some_iff.1 HI.out.b0).1
      have hbb := (((HI.out.bel).trans (hb2.mono hNW)).setCell (p := ⟨N + 1, 0, none⟩) (by show N ≤ N + 1; omega) (.bool true)).drew
      refine hbb.grown (grownBy_putObj' _ D (.deferred none)) ?_ (fun k e => by cases e; omega)
      have := hb2.size
      show N ≤ (w2.setCell ⟨N + 1, 0, none⟩ (.bool true)).heap.size
      simp [World.setCell]
      omega)
    clear hKD2
    all_goals
      gi_wp2
      refine ⟨by simp, .inl ⟨_, _, rfl, run_takeDeferred HKD2.out, ?_⟩⟩
      refine ⟨.bool true, ?_, rfl, ?_⟩
      · simp [results, Tryd.results3, go_sem, HCELL.out]
      · rw [HNN.out]; exact HBEL.out
  case stop =>
    rintro D c W hD h hK
    exact h.elim
end Go.Proofs.YtglajdmkbckjjaaDoor
