import Derived.Test.YtophcdfaflehcaaDoorWLp
namespace Go.Proofs.YtophcdfaflehcaaDoor
open Go.RowKit Go.Shelf
attribute [local go_sem] Oper.semAt_some
set_option linter.unusedVariables false
set_option linter.unusedSimpArgs false
set_option maxRecDepth 20000

theorem ne_def {W : World} {a D : Nat} {cs : Array Value} {t : TypeId} {d : Option (List Deferred)} (h3 : W.heap[a]? = some (.cells cs t (0, 0))) (hK : W.heap[D]? = some (.deferred d)) : a ≠ D := fun e => by
  rw [e, hK] at h3
  cases h3
set_option maxHeartbeats 2000000 in
theorem looped_any {w : World} {b p q : Nat} {L0 : List Int} (n : Int) (hp : WX w (fun _ => True) p L0) (hq : VX w (fun _ => True) q L0) (hbb : w.heap[b]? = some (.cells #[.pointer (some ⟨p, 0, none⟩)] 23 (0, 0))) :
    Calls Tryd.prog 20 #[.func (.func 24) #[] #[.pointer (some ⟨b, 0, none⟩)], .pointer (some ⟨p, 0, none⟩), .pointer (some ⟨q, 0, none⟩), .int .i64 n] w fun e w' => e = .returned (.bool true) ∧ ∃ L, WX w' (fun g => g < w.heap.size) p L ∧ VX w' (fun g => g < w.heap.size) q L ∧ Chg (fun g => g = p ∨ g = q) w w' := by
  refine (callsIn_wide (n := 5)).1 ?_
  have hfe := fnEqNil
  have HTL : Hid (L0.length ≤ 1000000) := hide (by obtain ⟨lv, h, _⟩ := hp; exact h.len)
  obtain ⟨lv0, hr0⟩ := hp.row
  obtain ⟨mv0, hs0⟩ := hq.row
  have lp := (Array.getElem?_eq_some_iff.1 hr0).1
  have lq := (Array.getElem?_eq_some_iff.1 hs0).1
  have lb := (Array.getElem?_eq_some_iff.1 hbb).1
  have HP := hide (hp.mono (Y := fun g => g < w.heap.size) fun g h _ => h)
  have HQ := hide (hq.mono (Y := fun g => g < w.heap.size) fun g h _ => h)
  have HBB := hide hbb
  clear hp hq hbb hr0 hs0
  refine callsIn_of_wp_marks Tryd.func20 rfl trivial ?_ rfl
  simp only [Tryd.ntmps20, List.size_toArray, List.length_cons, List.length_nil, Nat.reduceAdd, Nat.reduceSub, Array.replicate_succ, Array.replicate_zero, List.push_toArray, List.append_toArray, List.nil_append, List.cons_append]
  gi_wp2
  obtain ⟨W0, hW0⟩ : ∃ W0, (((((w.alloc (Obj.cells #[Value.pointer (some ⟨p, 0, none⟩)] 23)).alloc (Obj.cells #[Value.pointer (some ⟨q, 0, none⟩)] 49)).alloc (Obj.cells #[Value.int IntKind.i64 n] 3)).alloc (Obj.cells #[Value.bool false] 4)).alloc (Obj.cells #[Value.int IntKind.i64 0] 3)) = W0 := ⟨_, rfl⟩
  rw [hW0]
  have HK0 : Hid (KB w W0 b p q n false 0 L0 L0) := hide (by
    have hbw : Below w.heap.size w W0 := by rw [← hW0]; exact (((((Below.refl _ _).alloc (Nat.le_refl _) _).alloc (by simp) _).alloc (by simp; omega) _).alloc (by simp; omega) _).alloc (by simp; omega) _
    refine ⟨Chg.ofBelow hbw, ?_, ?_, ?_, ?_, ?_, (hbw.block _ lb).trans HBB.out, HP.out.on hbw, HQ.out.on hbw, lp, lq, lb⟩
    · rw [← hW0, Below.heap_alloc _ _ _ (by simp only [World.size_alloc]; omega), Below.heap_alloc _ _ _ (by simp only [World.size_alloc]; omega), Below.heap_alloc _ _ _ (by simp only [World.size_alloc]; omega), Below.heap_alloc _ _ _ (by simp only [World.size_alloc]; omega)]; exact Go.heap_alloc_new w _
    · rw [← hW0, Below.heap_alloc _ _ _ (by simp only [World.size_alloc]; omega), Below.heap_alloc _ _ _ (by simp only [World.size_alloc]; omega), Below.heap_alloc _ _ _ (by simp only [World.size_alloc]; omega)]; have := Go.heap_alloc_new (w.alloc (Obj.cells #[Value.pointer (some ⟨p, 0, none⟩)] 23)) (Obj.cells #[Value.pointer (some ⟨q, 0, none⟩)] 49); rwa [World.size_alloc] at this
    · rw [← hW0, Below.heap_alloc _ _ _ (by simp only [World.size_alloc]; omega), Below.heap_alloc _ _ _ (by simp only [World.size_alloc]; omega)]; have := Go.heap_alloc_new ((w.alloc (Obj.cells #[Value.pointer (some ⟨p, 0, none⟩)] 23)).alloc (Obj.cells #[Value.pointer (some ⟨q, 0, none⟩)] 49)) (Obj.cells #[Value.int IntKind.i64 n] 3); rwa [World.size_alloc, World.size_alloc] at this
    · rw [← hW0, Below.heap_alloc _ _ _ (by simp)]; have := Go.heap_alloc_new (((w.alloc (Obj.cells #[Value.pointer (some ⟨p, 0, none⟩)] 23)).alloc (Obj.cells #[Value.pointer (some ⟨q, 0, none⟩)] 49)).alloc (Obj.cells #[Value.int IntKind.i64 n] 3)) (Obj.cells #[Value.bool false] 4); rwa [World.size_alloc, World.size_alloc, World.size_alloc] at this
    · rw [← hW0]; have := Go.heap_alloc_new ((((w.alloc (Obj.cells #[Value.pointer (some ⟨p, 0, none⟩)] 23)).alloc (Obj.cells #[Value.pointer (some ⟨q, 0, none⟩)] 49)).alloc (Obj.cells #[Value.int IntKind.i64 n] 3)).alloc (Obj.cells #[Value.bool false] 4)) (Obj.cells #[Value.int IntKind.i64 0] 3); rwa [World.size_alloc, World.size_alloc, World.size_alloc, World.size_alloc] at this)
  have hNW0 : w.heap.size ≤ W0.heap.size := HK0.out.chg.size
  clear hW0 HP HQ HBB
  generalize hT : L0.length = T at *
  have HT := hide hT
  clear hT
  refine wpIn_range_mv rfl (by decide) (gf := 24) (lb := #[.pointer (some ⟨b, 0, none⟩)]) rfl trivial enters_rest
    (rest_seq _ b p T) (fun _ => rfl)
    (KI w b p q T n) (KX w b p q n)
    (fun s A B' row hs hg hr => hs.own hNW0 hg hr)
    (fun c _ A B' row hs hg hr => ⟨hs.1, hs.2.elim fun L h => h.elim fun seen h => ⟨L, seen, h.own hNW0 hg hr⟩⟩)
    (fun s W hs => hs.inv) (fun s s' W W' hs hm => hs.move hm) (fun s s' W W' hm => hm.keeps)
    (fun s x s' => fun _ A B' row hs hg hr => hs) (fun s A B' row hs hg hr => by
      obtain ⟨h1, v, h2⟩ := hs
      obtain ⟨lv, h3, h4⟩ := WX.own (X := fun _ => True) ⟨v, h2, fun _ _ => trivial⟩ hg hr
      exact ⟨h1, lv, h3⟩)
    ⟨L0, 0, Nat.le_of_eq HT.out, by rw [HT.out]; omega, HK0.out⟩
    ?a1 ?assign ?body ?done ?stop
  case assign =>
    intro l x W K hK
    simp only [rsEnc]
    gi_wp2
    exact hK
  case body =>
    rintro l ⟨j, o⟩ x s' W hl1 hl2 hI ⟨hx, rfl⟩
    dsimp only at hx
    subst hx
    obtain ⟨L, seen, g1, g2, g4⟩ := hI
    have HN := hide g4.nextQ
    have c1 : W.cell? ⟨w.heap.size + 1, 0, none⟩ = some (.pointer (some ⟨q, 0, none⟩)) := by rw [cell_of_row _ _ _ _ _ _ g4.b1]; rfl
    have hTB := HTL.out
    clear g4 HK0
    have HKS : Hid (∀ W9, KB w W9 b p q n false seen L L → KeepsFrom w.heap.size W W9 → KB w (W9.setCell ⟨w.heap.size + 1 + 1 + 1 + 1, 0, none⟩ (.int .i64 ((seen : Int) + 1))) b p q n false (seen + 1) L L ∧ KeepsFrom w.heap.size W (W9.setCell ⟨w.heap.size + 1 + 1 + 1 + 1, 0, none⟩ (.int .i64 ((seen : Int) + 1)))) := hide fun W9 h9 hk => ⟨h9.see (by omega), hk.trans (set_keeps h9.b4 _ _)⟩
    have HCL : Hid (∀ W9 seen' L1 L2, KB w W9 b p q n false seen' L1 L2 → W9.cell? ⟨w.heap.size + 1 + 1 + 1 + 1, 0, none⟩ = some (.int .i64 (seen' : Int)) ∧ W9.frozen? ⟨w.heap.size + 1 + 1 + 1 + 1, 0, none⟩ = false ∧ W9.cell? ⟨w.heap.size + 1 + 1, 0, none⟩ = some (.int .i64 n) ∧ W9.cell? ⟨w.heap.size + 1 + 1 + 1, 0, none⟩ = some (.bool false) ∧ W9.frozen? ⟨w.heap.size + 1 + 1 + 1, 0, none⟩ = false ∧ W9.cell? ⟨w.heap.size, 0, none⟩ = some (.pointer (some ⟨p, 0, none⟩)) ∧ W9.cell? ⟨w.heap.size + 1, 0, none⟩ = some (.pointer (some ⟨q, 0, none⟩))) := hide fun W9 s9 L1 L2 h9 =>
      ⟨cell_of_row _ _ _ _ _ _ h9.b4, frozen_of_row _ _ _ _ _ h9.b4, cell_of_row _ _ _ _ _ _ h9.b2, cell_of_row _ _ _ _ _ _ h9.b3, frozen_of_row _ _ _ _ _ h9.b3, cell_of_row _ _ _ _ _ _ h9.b0, cell_of_row _ _ _ _ _ _ h9.b1⟩
    have HUP : Hid (∀ W9, KeepsFrom w.heap.size W W9 → KeepsFrom W0.heap.size W W9) := hide fun W9 h5 => ⟨h5.size, fun b o hb ho hc => h5.same b o (by omega) ho hc⟩
    by_cases hsk : ((seen : Int) + 1) = n
    · have hske : (((seen : Int) + 1) == n) = true := by simpa using hsk
      clear hsk
      gi_wp2_with (first
        | (refine ⟨trivial, ?_⟩; gi_at_call 18; refine (CallsIn.inRound l (callsIn_wide.2 HN.out)).mono ?_; rintro e w9 ⟨rfl, hC9, hG9⟩; obtain ⟨d1, d2, -⟩ := HCL.out _ _ _ _ hC9; obtain ⟨hS9, hF9⟩ := HKS.out _ hC9 hG9; obtain ⟨e1, e2, e3, e4, e5, e6, e7⟩ := HCL.out _ _ _ _ hS9; have HS9 := hide hS9; have HF9 := hide hF9; clear hC9 hG9 hS9 hF9 HN HKS HCL)
        | (refine ⟨trivial, ?_⟩; gi_at_call 9; refine (CallsIn.inRound l (callsIn_wide.2 (num_any _ _))).mono ?_; rintro e w' ⟨rfl, rfl⟩))
      exact ⟨HUP.out _ (HF9.out.trans (set_keeps HS9.out.b3 _ _)), rfl, L, seen + 1, HS9.out.tell true⟩
    · have hske : (((seen : Int) + 1) == n) = false := by simpa using hsk
      by_cases hev : ((seen : Int) + 1) % 2 = 0
      · have heve : ((((seen : Int) + 1) % 2) == 0) = true := by simpa using hev
        clear hev
        cases L with
        | nil =>
          gi_wp2_with (first
            | (refine ⟨trivial, ?_⟩; gi_at_call 18; refine (CallsIn.inRound l (callsIn_wide.2 HN.out)).mono ?_; rintro e w9 ⟨rfl, hC9, hG9⟩; obtain ⟨d1, d2, -⟩ := HCL.out _ _ _ _ hC9; obtain ⟨hS9, hF9⟩ := HKS.out _ hC9 hG9; obtain ⟨e1, e2, e3, e4, e5, e6, e7⟩ := HCL.out _ _ _ _ hS9; have HS9 := hide hS9; have HF9 := hide hF9; have HX1 := hide hS9.wp.nextN; have HX2 := hide hS9.wq.nextN; clear hC9 hG9 hS9 hF9 HN HKS HCL)
            | (refine ⟨trivial, ?_⟩; gi_at_call 12; refine (CallsIn.inRound l (callsIn_wide.2 HX1.out)).mono ?_; rintro e wa ⟨rfl, ha⟩; have ha2 := ha.symm; clear ha; subst ha2; clear HX1)
            | (refine ⟨trivial, ?_⟩; gi_at_call 18; refine (CallsIn.inRound l (callsIn_wide.2 HX2.out)).mono ?_; rintro e wb ⟨rfl, hb⟩; have hb2 := hb.symm; clear hb; subst hb2; clear HX2)
            | (refine ⟨trivial, ?_⟩; gi_at_call 9; refine (CallsIn.inRound l (callsIn_wide.2 (num_any _ _))).mono ?_; rintro e w' ⟨rfl, hw'⟩; have hw2 := hw'.symm; clear hw'; subst hw2))
          exact ⟨HUP.out _ HF9.out, [], seen + 1, g1, by simp at g2 ⊢; omega, HS9.out⟩
        | cons y r =>
          gi_wp2_with (first
            | (refine ⟨trivial, ?_⟩; gi_at_call 18; refine (CallsIn.inRound l (callsIn_wide.2 HN.out)).mono ?_; rintro e w9 ⟨rfl, hC9, hG9⟩; obtain ⟨d1, d2, -⟩ := HCL.out _ _ _ _ hC9; obtain ⟨hS9, hF9⟩ := HKS.out _ hC9 hG9; obtain ⟨e1, e2, e3, e4, e5, e6, e7⟩ := HCL.out _ _ _ _ hS9; have HS9 := hide hS9; have HF9 := hide hF9; have HX1 := hide hS9.nextP; clear hC9 hG9 hS9 hF9 HN HKS)
            | (refine ⟨trivial, ?_⟩; gi_at_call 12; refine (CallsIn.inRound l (callsIn_wide.2 HX1.out)).mono ?_; rintro e wa ⟨rfl, hCa, hGa⟩; obtain ⟨-, -, -, -, -, -, f7⟩ := HCL.out _ _ _ _ hCa; have HX2 := hide hCa.nextQ; have HFa := hide (HF9.out.trans hGa); clear hCa hGa HX1 HCL)
            | (refine ⟨trivial, ?_⟩; gi_at_call 18; refine (CallsIn.inRound l (callsIn_wide.2 HX2.out)).mono ?_; rintro e wb ⟨rfl, hCb, hGb⟩; have HSb := hide hCb; have HFb := hide (HFa.out.trans hGb); clear hCb hGb HX2)
            | (refine ⟨trivial, ?_⟩; gi_at_call 9; refine (CallsIn.inRound l (callsIn_wide.2 (num_any _ _))).mono ?_; rintro e w' ⟨rfl, hw'⟩; have hw2 := hw'.symm; clear hw'; subst hw2))
          exact ⟨HUP.out _ HFb.out, r, seen + 1, by simp at g1 ⊢; omega, by simp at g2 ⊢; omega, HSb.out⟩
      · have heve : ((((seen : Int) + 1) % 2) == 0) = false := by simpa using hev
        clear hev
        gi_wp2_with (first
          | (refine ⟨trivial, ?_⟩; gi_at_call 18; refine (CallsIn.inRound l (callsIn_wide.2 HN.out)).mono ?_; rintro e w9 ⟨rfl, hC9, hG9⟩; obtain ⟨d1, d2, -⟩ := HCL.out _ _ _ _ hC9; obtain ⟨hS9, hF9⟩ := HKS.out _ hC9 hG9; obtain ⟨e1, e2, e3, e4, e5, e6, e7⟩ := HCL.out _ _ _ _ hS9; have HS9 := hide hS9; have HF9 := hide hF9; clear hC9 hG9 hS9 hF9 HN HKS HCL)
          | (refine ⟨trivial, ?_⟩; gi_at_call 9; refine (CallsIn.inRound l (callsIn_wide.2 (num_any _ _))).mono ?_; rintro e w' ⟨rfl, rfl⟩))
        exact ⟨HUP.out _ HF9.out, L, seen + 1, g1, by omega, HS9.out⟩
  case done =>
    rintro D ⟨j, o⟩ W hD ⟨ho, ve, hE⟩ hI hK
    dsimp only at ho
    subst ho
    obtain ⟨L, seen, g1, g2, hC⟩ := hI
    have hLn : L = [] := by
      obtain ⟨lv, h, _⟩ := hC.wp
      exact (h.uniq hE).2
    subst hLn
    have HKD := hide hK
    have hDL : w.heap.size ≤ D := by omega
    have c1 : W.cell? ⟨w.heap.size + 1, 0, none⟩ = some (.pointer (some ⟨q, 0, none⟩)) := cell_of_row _ _ _ _ _ _ hC.b1
    have c3 : W.cell? ⟨w.heap.size + 1 + 1 + 1, 0, none⟩ = some (.bool false) := cell_of_row _ _ _ _ _ _ hC.b3
    have f3 : W.frozen? ⟨w.heap.size + 1 + 1 + 1, 0, none⟩ = false := frozen_of_row _ _ _ _ _ hC.b3
    have HLF := hide hC.wq.left
    have HC := hide hC
    clear hE hC hK HK0
    gi_wp2_with (refine ⟨trivial, ?_⟩; gi_at_call 19; refine (callsIn_wide.2 HLF.out).mono ?_; rintro e w' ⟨rfl, hw'⟩; have hw2 := hw'.symm; clear hw'; subst hw2; clear HLF)
    have hC9 := HC.out.tell true
    have hK9 : (W.setCell ⟨w.heap.size + 1 + 1 + 1, 0, none⟩ (.bool true)).heap[D]? = some (.deferred (some [])) := (set_keeps HC.out.b3 (.bool true) 0).same _ _ (Nat.zero_le _) HKD.out rfl
    have hcell : ((W.setCell ⟨w.heap.size + 1 + 1 + 1, 0, none⟩ (.bool true)).putObj D (.deferred none)).cell? ⟨w.heap.size + 1 + 1 + 1, 0, none⟩ = some (.bool true) := by
      rw [World.cell?_of_block (w := (W.setCell ⟨w.heap.size + 1 + 1 + 1, 0, none⟩ (.bool true))) (World.putObj_heap_other (ne_def hC9.b3 hK9))]
      exact cell_of_row _ _ _ _ _ _ hC9.b3
    have hown := hC9.own (K := w.heap.size) (Nat.le_refl _) (grownBy_putObj' (W.setCell ⟨w.heap.size + 1 + 1 + 1, 0, none⟩ (.bool true)) D (.deferred none)) (fun r e => by
      cases e
      exact ⟨hDL, _, hK9, rfl⟩)
    refine ⟨by simp, .inl ⟨_, _, rfl, run_takeDeferred hK9, ?_⟩⟩
    refine ⟨.bool true, ?_, rfl, _, hown.wp, hown.wq, hown.chg⟩
    simp [results, Tryd.results20, go_sem, hcell]
  case stop =>
    rintro D c W hD ⟨rfl, L, seen, hC9⟩ hK9
    have hDL : w.heap.size ≤ D := by omega
    clear HK0
    gi_wp2
    have hcell : (W.putObj D (.deferred none)).cell? ⟨w.heap.size + 1 + 1 + 1, 0, none⟩ = some (.bool true) := by
      rw [World.cell?_of_block (w := W) (World.putObj_heap_other (ne_def hC9.b3 hK9))]
      exact cell_of_row _ _ _ _ _ _ hC9.b3
    have hown := hC9.own (K := w.heap.size) (Nat.le_refl _) (grownBy_putObj' W D (.deferred none)) (fun r e => by
      cases e
      exact ⟨hDL, _, hK9, rfl⟩)
    refine ⟨by simp, .inl ⟨_, _, rfl, run_takeDeferred hK9, ?_⟩⟩
    refine ⟨.bool true, ?_, rfl, _, hown.wp, hown.wq, hown.chg⟩
    simp [results, Tryd.results20, go_sem, hcell]
end Go.Proofs.YtophcdfaflehcaaDoor
