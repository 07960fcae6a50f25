import Derived.Test.YtophcdfaflehcaaDoorWLvN
namespace Go.Proofs.YtophcdfaflehcaaDoor
open Go.RowKit Go.Shelf
attribute [local go_sem] Oper.semAt_some
set_option linter.unusedVariables false
set_option linter.unusedSimpArgs false
set_option maxRecDepth 20000

set_option maxHeartbeats 2000000 in
theorem leave_good {w : World} {v : Value} {l : List Nat} (n s : Nat) (k : Int) (hT : TabAt w) (hv : WSl w v l) (hr : l.length ≤ 17592186044416) (h1 : 1 ≤ n) (h2 : n ≤ 65536) (h3 : s ≤ n) (he : cwErr n l = 0) (hk : 0 < k) :
    Calls Tryd.prog 4 #[.int .i64 (n : Int), v, .int .i64 (s : Int), .int .i64 k] w fun e w' => e = .returned (.bool true) ∧ Below w.heap.size w w' := by
  refine (callsIn_wide (n := 5)).1 ?_
  have HLT := hide hv.lt
  have HO : Hid (∀ W, Below w.heap.size w W → Calls Tryd.prog 8 #[v] W fun e w' => ∃ v', e = .returned v' ∧ URow w' v' l ∧ Below W.heap.size W w') := hide fun W hW => (ownWords_any (hv.below hW) hr).mono fun e w' ⟨v', h1, h2, h3, _⟩ => ⟨v', h1, h2, h3⟩
  have HNW : Hid (∀ w1 v1, Below w.heap.size w w1 → URow w1 v1 l → Calls Tryd.prog 7 #[.int .i64 (n : Int), v1, .int .i64 (s : Int)] w1 fun e w' => ∃ p, e = .returned (.tuple #[.pointer (some ⟨p, 0, none⟩), .int .i64 0]) ∧ RS w1 w' p (wlk (valW l) n s)) := hide fun w1 v1 hb h => new_rs n s (hT.below hb) (h.wsl HLT.out) h1 h2 h3 he
  have HW1 : Hid (∀ w1 b, Below w.heap.size w w1 → w1.heap[b]? = some (.cells #[.int .u64 1] 28 (0, 0)) → Calls Tryd.prog 7 #[.int .i64 1, .slice (some ⟨b, 0, none⟩) 1 1, .int .i64 0] w1 fun e w' => ∃ p, e = .returned (.tuple #[.pointer (some ⟨p, 0, none⟩), .int .i64 0]) ∧ RS w1 w' p [0]) := hide fun w1 b hb hc => by
    have hw : WSl w1 (.slice (some ⟨b, 0, none⟩) 1 1) [1] := ⟨_, _, rfl, by simp, by unfold maxLen; simp, by simp, by simp, fun _ => ⟨b, 0, rfl, fun i hi => by
      have : i = 0 := by simpa using hi
      subst this
      rw [cell_of_row _ _ _ _ _ _ hc]; rfl⟩⟩
    exact new_rs 1 0 (hT.below hb) hw (by decide) (by decide) (by decide) (by decide)
  generalize hWL : wlk (valW l) n s = wl at *
  obtain ⟨a, cap, rfl, q1, q2, q3, q4, q5⟩ := hv
  clear q3 q4 q5 he hT hWL HLT
  unfold maxLen at q2
  generalize l.length = len at *
  have hpe := pEqNil
  have hfe := fnEqNil
  obtain ⟨w0, hw0⟩ : ∃ w0, (w.alloc (Obj.cells #[Value.int IntKind.i64 k] 3)).alloc (Obj.cells #[Value.bool false] 4) = w0 := ⟨_, rfl⟩
  have HB0 : Hid (Below w.heap.size w w0) := hide (by rw [← hw0]; exact ((Below.refl _ _).alloc (Nat.le_refl _) _).alloc (by simp) _)
  have HW0 := hide hw0
  clear hw0
  refine callsIn_of_wp_marks Tryd.func4 rfl trivial ?_ rfl
  simp only [Tryd.ntmps4, List.size_toArray, List.length_cons, List.length_nil, Nat.reduceAdd, Nat.reduceSub, Array.replicate_succ, Array.replicate_zero, List.push_toArray, List.append_toArray, List.nil_append, List.cons_append]
  gi_wp2_with (first
    | (refine ⟨trivial, ?_⟩; gi_at_call 8; have HPX := HP; refine (callsIn_wide.2 (HO.out _ HP.out.bel)).mono ?_; rintro e w3 ⟨v3, rfl, hU3, hB3⟩; have HU3 := hide hU3; have HP3 := hide (HP.out.on hB3); have HB3 := hide hB3; clear hU3 hB3 HPX HO)
    | (refine ⟨trivial, ?_⟩; gi_at_call 8; rw [HW0.out]; refine (callsIn_wide.2 (HO.out _ HB0.out)).mono ?_; rintro e w1 ⟨v1, rfl, hU1, hB1⟩; have HU1 := hide hU1; have HB1 := hide (HB0.out.trans (hB1.mono HB0.out.size)); have HB01 := hide hB1; clear hU1 hB1)
    | (refine ⟨trivial, ?_⟩; gi_at_call 7; refine (callsIn_wide.2 (HNW.out _ _ HP3.out.bel HU3.out)).mono ?_; rintro e w4 ⟨q, rfl, hR4⟩; have HQ := hide hR4; clear hR4 HNW HU3)
    | (refine ⟨trivial, ?_⟩; gi_at_call 7; refine (callsIn_wide.2 (HNW.out _ _ HB1.out HU1.out)).mono ?_; rintro e w2 ⟨p, rfl, hR2⟩; have HP := hide (hR2.up HB1.out); have HPR := hide hR2; clear hR2 HU1))
  have hs0 : w0.heap.size = w.heap.size + 2 := by rw [← HW0.out]; simp
  have r0 : w0.heap[w.heap.size]? = some (.cells #[.int .i64 k] 3 (0, 0)) := by rw [← HW0.out, Below.heap_alloc _ _ _ (by simp)]; exact Go.heap_alloc_new w _
  have r1 : w0.heap[w.heap.size + 1]? = some (.cells #[.bool false] 4 (0, 0)) := by rw [← HW0.out]; have := Go.heap_alloc_new (w.alloc (Obj.cells #[Value.int IntKind.i64 k] 3)) (Obj.cells #[Value.bool false] 4); rwa [World.size_alloc] at this
  have s1 := HB01.out.size
  have s2 := HPR.out.bel.size
  have s3 := HB3.out.size
  have s4 := HQ.out.bel.size
  have k4 : ∀ b, b < w0.heap.size → w4.heap[b]? = w0.heap[b]? := fun b hb => by
    rw [HQ.out.bel.block b (by omega), HB3.out.block b (by omega), HPR.out.bel.block b (by omega), HB01.out.block b hb]
  obtain ⟨xp, lp⟩ := HPR.out.wx
  obtain ⟨xq, lq⟩ := HQ.out.wx
  obtain ⟨lv2, hrow2⟩ := xp.row
  have hp2 := (Array.getElem?_eq_some_iff.1 hrow2).1
  have hB4 : Below w.heap.size w w4 := HP3.out.bel.trans (HQ.out.bel.mono HP3.out.bel.size)
  have hLB : LB w (w4.alloc (.cells #[.pointer (some ⟨q, 0, none⟩)] 23)) w4.heap.size p q k (fun g => w.heap.size + 1 < g ∧ g < w4.heap.size) wl wl := by
    have ha := (Below.refl w4.heap.size w4).alloc (Nat.le_refl _) (.cells #[.pointer (some ⟨q, 0, none⟩)] 23)
    refine ⟨hB4.alloc hB4.size _, ?_, ?_, Go.heap_alloc_new w4 _, ?_, ?_, by omega, by omega, fun g h => by omega, by omega⟩
    · rw [ha.block _ (by omega), k4 _ (by omega)]; exact r0
    · rw [ha.block _ (by omega), k4 _ (by omega)]; exact r1
    · exact (((xp.on HB3.out).on HQ.out.bel).mono (Y := fun g => w.heap.size + 1 < g ∧ g < w4.heap.size) fun g h1 h2 => ⟨by omega, h1⟩).on ha
    · exact (xq.mono (Y := fun g => w.heap.size + 1 < g ∧ g < w4.heap.size) fun g h1 h2 => ⟨by omega, h1⟩).on ha
  have h5 : ((w4.alloc (.cells #[.pointer (some ⟨q, 0, none⟩)] 23)).alloc (.cells #[.int .u64 1] 28)).heap[w4.heap.size + 1]? = some (.cells #[.int .u64 1] 28 (0, 0)) := by have := Go.heap_alloc_new (w4.alloc (.cells #[.pointer (some ⟨q, 0, none⟩)] 23)) (.cells #[.int .u64 1] 28); rwa [World.size_alloc] at this
  have HL5 := hide (hLB.on ((Below.refl _ _).alloc (Nat.le_refl _) (.cells #[.int .u64 1] 28)))
  have H5 := hide h5
  have hM4 : w.heap.size + 2 ≤ w4.heap.size := by omega
  clear hs0 r0 r1 s1 s2 s3 s4 k4 xp lp xq lq hrow2 hp2 hB4 hLB h5 HB01 HPR HQ HB3 HP3 HP HB1 HW0 HB0
  have HWN := hide (HW1.out _ _ HL5.out.bel H5.out)
  generalize (w4.alloc (.cells #[.pointer (some ⟨q, 0, none⟩)] 23)).alloc (.cells #[.int .u64 1] 28) = w5 at *
  generalize w4.heap.size = M at *
  clear HW1 H5
  gi_wp2_with (first
    | (refine ⟨trivial, ?_⟩; gi_at_call 7; refine (callsIn_wide.2 HWN.out).mono ?_; rintro e w6 ⟨x6, rfl, hR6⟩; have HL6 := hide (HL5.out.on hR6.bel); have HX6 := hide hR6.left; have cv : w6.cell? ⟨M, 0, none⟩ = some (.pointer (some ⟨q, 0, none⟩)) := (by rw [cell_of_row _ _ _ _ _ _ (HL5.out.on hR6.bel).bv]; rfl); have ck : (w6.alloc (Obj.cells #[Value.int IntKind.i64 0] 3)).cell? ⟨w.heap.size, 0, none⟩ = some (.int .i64 k) := (by rw [cell_of_row _ _ _ _ _ _ ((HL5.out.on hR6.bel).on ((Below.refl _ _).alloc (Nat.le_refl _) (Obj.cells #[Value.int IntKind.i64 0] 3))).bk]; rfl); clear hR6 HWN)
    | (refine ⟨trivial, ?_⟩; gi_at_call 11; refine (callsIn_wide.2 HX6.out).mono ?_; rintro e w' ⟨rfl, rfl⟩; clear HX6)
    | (refine ⟨trivial, ?_⟩; gi_at_call 11; refine (callsIn_wide.2 HL6.out.wq.left).mono ?_; rintro e w' ⟨rfl, rfl⟩)
    | (refine ⟨trivial, ?_⟩; gi_at_call 13; refine (callsIn_wide.2 (Rest_any _ _)).mono ?_; rintro e w' ⟨rfl, rfl⟩)
    | (refine ⟨trivial, ?_⟩; gi_at_call 9; refine (callsIn_wide.2 (num_any _ _)).mono ?_; rintro e w' ⟨rfl, rfl⟩))
  have HTL : Hid (wl.length ≤ 1000000) := hide (by obtain ⟨lv, h, _⟩ := HL6.out.wp; exact h.len)
  obtain ⟨W0, hW0⟩ : ∃ W0, ((w'.alloc (Obj.cells #[Value.int IntKind.i64 0] 3)).alloc (Obj.cells #[Value.pointer (some ⟨p, 0, none⟩)] 23)) = W0 := ⟨_, rfl⟩
  rw [hW0]
  have hMS : M < w'.heap.size := (Array.getElem?_eq_some_iff.1 HL6.out.bv).1
  have HL0 : Hid (LC w W0 M p q w'.heap.size k (fun g => w.heap.size + 1 < g ∧ g < M) 0 wl wl) := hide (by
    refine ⟨?_, ?_, ?_, fun h => by omega, by omega, hMS⟩
    · rw [← hW0]; exact (HL6.out.on ((Below.refl _ _).alloc (Nat.le_refl _) _)).on ((Below.refl _ _).alloc (Nat.le_refl _) _)
    · rw [← hW0, Below.heap_alloc _ _ _ (by simp)]; exact Go.heap_alloc_new w' _
    · rw [← hW0]; have := Go.heap_alloc_new (w'.alloc (Obj.cells #[Value.int IntKind.i64 0] 3)) (Obj.cells #[Value.pointer (some ⟨p, 0, none⟩)] 23); rwa [World.size_alloc] at this)
  generalize hX : (fun g => w.heap.size + 1 < g ∧ g < M) = X at *
  generalize hT : wl.length = T at *
  have HT := hide hT
  have hNW0 : w.heap.size ≤ W0.heap.size := HL0.out.lb.bel.size
  clear hW0 HL6 HL5 hX hT ck cv
  generalize w'.heap.size = S at *
  refine wpIn_range_mv rfl (by decide) (gf := 24) (lb := #[.pointer (some ⟨S + 1, 0, none⟩)]) rfl trivial enters_rest
    (rest_seq _ (S + 1) p T) (fun _ => rfl)
    (LI w M p q S T k X) (LX w M p q S T k X)
    (fun s A B' row hs hg hr => hs.own hNW0 hg hr)
    (fun c _ A B' row hs hg hr => ⟨hs.1, hs.2.elim fun L h => h.elim fun seen h => ⟨L, seen, h.1, h.2.1, h.2.2.own hNW0 hg hr⟩⟩)
    (fun s W hs => hs.inv) (fun s s' W W' hs hm => hs.move hm) (fun s s' W W' hm => hm.keeps)
    (fun s x s' => fun _ A B' row hs hg hr => hs) (fun s A B' row hs hg hr => by
      obtain ⟨h1, v, h2⟩ := hs
      obtain ⟨lv, h3, h4⟩ := WX.own (X := fun _ => True) ⟨v, h2, fun _ _ => trivial⟩ hg hr
      exact ⟨h1, lv, h3⟩)
    ⟨wl, 0, Nat.le_of_eq HT.out, by rw [HT.out]; omega, by omega, HL0.out⟩
    ?a1 ?assign ?body ?done ?stop
  case assign =>
    intro l x W K hK
    simp only [rsEnc]
    gi_wp2
    exact hK
  case body =>
    rintro l ⟨j, o⟩ x s' W hl1 hl2 hI ⟨hx, rfl⟩
    dsimp only at hx
    subst hx
    obtain ⟨L, seen, g1, g2, g3, g4⟩ := hI
    have HI := hide g4
    have HN := hide g4.nextQ
    obtain ⟨lvq, hrq⟩ := g4.lb.wq.row
    have HRQ := hide hrq
    have c1 : W.cell? ⟨M, 0, none⟩ = some (.pointer (some ⟨q, 0, none⟩)) := by rw [cell_of_row _ _ _ _ _ _ g4.lb.bv]; rfl
    have HT2 := HTL.out
    clear g4 HL0 hrq HTL
    have HFIN : Hid (∀ W9, LC w W9 M p q S k X seen L L → W9.cell? ⟨S, 0, none⟩ = some (.int .i64 (seen : Int)) ∧ W9.frozen? ⟨S, 0, none⟩ = false ∧ (W9.setCell ⟨S, 0, none⟩ (.int .i64 ((seen : Int) + 1))).cell? ⟨w.heap.size, 0, none⟩ = some (.int .i64 k)) := hide fun W9 h9 => by
      refine ⟨by rw [cell_of_row _ _ _ _ _ _ h9.bs]; rfl, frozen_of_row _ _ _ _ _ h9.bs, ?_⟩
      rw [cell_of_row _ _ _ _ _ _ (h9.see (z := (seen : Int) + 1) (by omega)).lb.bk]; rfl
    have HKF : Hid (∀ W9, LC w W9 M p q S k X seen L L → Chg (fun b => b = q) W W9 → KeepsFrom W0.heap.size W (W9.setCell ⟨S, 0, none⟩ (.int .i64 ((seen : Int) + 1)))) := hide fun W9 h9 hc => by
      refine (hc.keeps (fun b hb => ⟨#[lvq], 62, by rw [hb]; exact HRQ.out⟩) _).trans (Chg.keeps (Chg.set _) (fun b hb => ⟨#[.int .i64 (seen : Int)], 3, by rw [hb]; exact h9.bs⟩) _)
    by_cases hsk : ((seen : Int) + 1) = k
    · have hske : (((seen : Int) + 1) == k) = true := by simpa using hsk
      have HSK := hide hsk
      clear hsk
      gi_wp2_with (first
        | (refine ⟨trivial, ?_⟩; gi_at_call 12; refine (CallsIn.inRound l (callsIn_wide.2 HN.out)).mono ?_; rintro e w9 ⟨rfl, hC9, hG9⟩; obtain ⟨d1, d2, d3⟩ := HFIN.out _ hC9; have HC9 := hide hC9; have HG9 := hide hG9; clear hC9 hG9 HN HFIN)
        | (refine ⟨trivial, ?_⟩; gi_at_call 9; refine (CallsIn.inRound l (callsIn_wide.2 (num_any _ _))).mono ?_; rintro e w' ⟨rfl, rfl⟩))
      exact ⟨HKF.out _ HC9.out HG9.out, rfl, L, seen + 1, by omega, by have := HSK.out; omega, HC9.out.see (by omega)⟩
    · have hske : (((seen : Int) + 1) == k) = false := by simpa using hsk
      gi_wp2_with (first
        | (refine ⟨trivial, ?_⟩; gi_at_call 12; refine (CallsIn.inRound l (callsIn_wide.2 HN.out)).mono ?_; rintro e w9 ⟨rfl, hC9, hG9⟩; obtain ⟨d1, d2, d3⟩ := HFIN.out _ hC9; have HC9 := hide hC9; have HG9 := hide hG9; clear hC9 hG9 HN HFIN)
        | (refine ⟨trivial, ?_⟩; gi_at_call 9; refine (CallsIn.inRound l (callsIn_wide.2 (num_any _ _))).mono ?_; rintro e w' ⟨rfl, rfl⟩))
      exact ⟨HKF.out _ HC9.out HG9.out, L, seen + 1, g1, by omega, by omega, HC9.out.see (by omega)⟩
  case done =>
    rintro D ⟨j, o⟩ W hD ⟨ho, ve, hE⟩ hI hK
    dsimp only at ho
    subst ho
    obtain ⟨L, seen, g1, g2, g3, hC⟩ := hI
    have hLn : L = [] := by
      obtain ⟨lv, h, _⟩ := hC.lb.wp
      exact (h.uniq hE).2
    have hsT : seen = T := by rw [hLn] at g2; simpa using g2
    have hne1 : ((seen : Int) != k) = true := by
      have : ¬ (seen : Int) = k := by omega
      simpa using this
    have hne2 : ((seen : Int) != (T : Int)) = false := by rw [hsT]; simp
    clear hE hsT g3 g1
    have hTB := HTL.out
    have HKD := hide hK
    have hDL : w.heap.size ≤ D := by have := HL0.out.lb.bel.size; omega
    have c1 : W.cell? ⟨S, 0, none⟩ = some (.int .i64 (seen : Int)) := by rw [cell_of_row _ _ _ _ _ _ hC.bs]; rfl
    have c2 : W.cell? ⟨w.heap.size, 0, none⟩ = some (.int .i64 k) := by rw [cell_of_row _ _ _ _ _ _ hC.lb.bk]; rfl
    have HLB := hide hC.lb
    clear hC hK HL0
    gi_wp2
    gi_loopw [21] (fun y wr => ∃ (i : Nat) (L : List Int), y = .int .i64 (i : Int) ∧ i ≤ T + 1 ∧ L.length = T - i ∧ LB w wr M p q k X L L ∧ wr.heap[D]? = some (.deferred (some []))) (fun y _ => T + 1 - (intOf y).toNat)
    case atStart => exact ⟨seen, L, rfl, by omega, by omega, HLB.out, HKD.out⟩
    case round =>
      obtain ⟨i, L', rfl, hi, hL', hB, hD'⟩ := hrel
      have HB := hide hB
      have HD' := hide hD'
      have cv : wr.cell? ⟨M, 0, none⟩ = some (.pointer (some ⟨q, 0, none⟩)) := by rw [cell_of_row _ _ _ _ _ _ hB.bv]; rfl
      have hvq : ∀ W', Chg (fun b => b = p) wr W' → W'.cell? ⟨M, 0, none⟩ = some (.pointer (some ⟨q, 0, none⟩)) := fun W' hc => by
        obtain ⟨lv, hrow⟩ := HB.out.wp.row
        rw [World.cell?_of_block (hc.keep M (Array.getElem?_eq_some_iff.1 HB.out.bv).1 (neT HB.out.bv hrow (by decide)))]
        exact cv
      have HVQ := hide hvq
      clear hB hD' HLB HKD c1 c2 hvq
      by_cases hiT : i < T
      · cases L' with
        | nil => simp at hL'; omega
        | cons x r =>
          have hle : (i : Int) ≤ (T : Int) := by omega
          have hne : ((i : Int) == (T : Int)) = false := by
            have : ¬ (i : Int) = (T : Int) := by omega
            simpa using this
          have HN1 := hide HB.out.nextP
          obtain ⟨lvp, hrp⟩ := HB.out.wp.row
          have HRP := hide hrp
          clear hrp
          gi_wp2_with (first
            | (refine ⟨trivial, ?_⟩; gi_at_call 12; refine (callsIn_wide.2 HN1.out).mono ?_; rintro e w8 ⟨rfl, hB8, hC8⟩; have HN2 := hide hB8.nextQ; have HD8 : Hid (w8.heap[D]? = some (.deferred (some []))) := hide ((hC8.keeps (fun b hb => ⟨#[lvp], 62, by rw [hb]; exact HRP.out⟩) 0).same _ _ (Nat.zero_le _) HD'.out rfl); have cv8 := HVQ.out _ hC8; obtain ⟨lvq, hrq⟩ := hB8.wq.row; have HRQ := hide hrq; clear hB8 hC8 hrq HN1)
            | (refine ⟨trivial, ?_⟩; gi_at_call 12; refine (callsIn_wide.2 HN2.out).mono ?_; rintro e w9 ⟨rfl, hB9, hC9⟩; have HB9 := hide hB9; have HD9 : Hid (w9.heap[D]? = some (.deferred (some []))) := hide ((hC9.keeps (fun b hb => ⟨#[lvq], 62, by rw [hb]; exact HRQ.out⟩) 0).same _ _ (Nat.zero_le _) HD8.out rfl); clear hB9 hC9 HN2)
            | (refine ⟨trivial, ?_⟩; gi_at_call 9; refine (callsIn_wide.2 (num_any _ _)).mono ?_; rintro e w' ⟨rfl, rfl⟩))
          go_roundw
          case rel => exact ⟨i + 1, r, by go_num, by omega, by simp at hL'; omega, HB9.out, HD9.out⟩
          case measure => simp [intOf]; omega
      · have hLn : L' = [] := List.length_eq_zero_iff.1 (by omega)
        subst hLn
        by_cases hiE : i = T
        · subst hiE
          have hle : (i : Int) ≤ (i : Int) := by omega
          have HN1 := hide HB.out.wp.nextN
          have HN2 := hide HB.out.wq.nextN
          gi_wp2_with (first
            | (refine ⟨trivial, ?_⟩; gi_at_call 12; refine (callsIn_wide.2 HN1.out).mono ?_; rintro e w8 ⟨rfl, rfl⟩; clear HN1)
            | (refine ⟨trivial, ?_⟩; gi_at_call 12; refine (callsIn_wide.2 HN2.out).mono ?_; rintro e w9 ⟨rfl, rfl⟩; clear HN2)
            | (refine ⟨trivial, ?_⟩; gi_at_call 9; refine (callsIn_wide.2 (num_any _ _)).mono ?_; rintro e w' ⟨rfl, rfl⟩))
          go_roundw
          case rel => exact ⟨i + 1, [], by go_num, by omega, by simp, HB.out, HD'.out⟩
          case measure => simp [intOf]
        · have hnl : ¬ (i : Int) ≤ (T : Int) := by omega
          have k1 : wr.cell? ⟨w.heap.size + 1, 0, none⟩ = some (.bool false) := by rw [cell_of_row _ _ _ _ _ _ HB.out.br]; rfl
          have f1 : wr.frozen? ⟨w.heap.size + 1, 0, none⟩ = false := frozen_of_row _ _ _ _ _ HB.out.br
          have hDne : D ≠ w.heap.size + 1 := fun e => by
            have := HD'.out
            rw [e, HB.out.br] at this
            cases this
          have hKD2 : (wr.setCell ⟨w.heap.size + 1, 0, none⟩ (.bool true)).heap[D]? = some (.deferred (some [])) := (Go.heap_setCell_other _ _ _ _ hDne).trans HD'.out
          have HKD2 := hide hKD2
          have HCELL : Hid (((wr.setCell ⟨w.heap.size + 1, 0, none⟩ (.bool true)).putObj D (.deferred none)).cell? ⟨w.heap.size + 1, 0, none⟩ = some (.bool true)) := hide (by
            rw [World.cell?_of_block (w := wr.setCell ⟨w.heap.size + 1, 0, none⟩ (.bool true)) (World.putObj_heap_other (fun e => hDne e.symm))]
            exact World.cell?_setCell_same' _ _ _ (by rw [k1]; rfl))
          have HBEL : Hid (Below w.heap.size w ((wr.setCell ⟨w.heap.size + 1, 0, none⟩ (.bool true)).putObj D (.deferred none))) := hide (by
            have hbb := HB.out.bel.setCell (p := ⟨w.heap.size + 1, 0, none⟩) (by show w.heap.size ≤ w.heap.size + 1; omega) (.bool true)
            exact hbb.grown (grownBy_putObj' _ D (.deferred none)) (by have := HB.out.bel.size; simp [World.setCell]; omega) (fun k e => by cases e; omega))
          clear hKD2
          gi_wp2
          refine ⟨by simp, .inl ⟨_, _, rfl, run_takeDeferred HKD2.out, ?_⟩⟩
          refine ⟨.bool true, ?_, rfl, ?_⟩
          · simp [results, Tryd.results4, go_sem, HCELL.out]
          · exact HBEL.out
  case stop =>
    rintro D c W hD ⟨rfl, L, seen, g2, g3, hC⟩ hK
    have hne1 : ((seen : Int) != k) = false := by simpa using g3
    clear g3
    have hTB := HTL.out
    have HKD := hide hK
    have hDL : w.heap.size ≤ D := by have := HL0.out.lb.bel.size; omega
    have c1 : W.cell? ⟨S, 0, none⟩ = some (.int .i64 (seen : Int)) := by rw [cell_of_row _ _ _ _ _ _ hC.bs]; rfl
    have c2 : W.cell? ⟨w.heap.size, 0, none⟩ = some (.int .i64 k) := by rw [cell_of_row _ _ _ _ _ _ hC.lb.bk]; rfl
    have HLB := hide hC.lb
    clear hC hK HL0
    gi_wp2
    gi_loopw [21] (fun y wr => ∃ (i : Nat) (L : List Int), y = .int .i64 (i : Int) ∧ i ≤ T + 1 ∧ L.length = T - i ∧ LB w wr M p q k X L L ∧ wr.heap[D]? = some (.deferred (some []))) (fun y _ => T + 1 - (intOf y).toNat)
    case atStart => exact ⟨seen, L, rfl, by omega, by omega, HLB.out, HKD.out⟩
    case round =>
      obtain ⟨i, L', rfl, hi, hL', hB, hD'⟩ := hrel
      have HB := hide hB
      have HD' := hide hD'
      have cv : wr.cell? ⟨M, 0, none⟩ = some (.pointer (some ⟨q, 0, none⟩)) := by rw [cell_of_row _ _ _ _ _ _ hB.bv]; rfl
      have hvq : ∀ W', Chg (fun b => b = p) wr W' → W'.cell? ⟨M, 0, none⟩ = some (.pointer (some ⟨q, 0, none⟩)) := fun W' hc => by
        obtain ⟨lv, hrow⟩ := HB.out.wp.row
        rw [World.cell?_of_block (hc.keep M (Array.getElem?_eq_some_iff.1 HB.out.bv).1 (neT HB.out.bv hrow (by decide)))]
        exact cv
      have HVQ := hide hvq
      clear hB hD' HLB HKD c1 c2 hvq
      by_cases hiT : i < T
      · cases L' with
        | nil => simp at hL'; omega
        | cons x r =>
          have hle : (i : Int) ≤ (T : Int) := by omega
          have hne : ((i : Int) == (T : Int)) = false := by
            have : ¬ (i : Int) = (T : Int) := by omega
            simpa using this
          have HN1 := hide HB.out.nextP
          obtain ⟨lvp, hrp⟩ := HB.out.wp.row
          have HRP := hide hrp
          clear hrp
          gi_wp2_with (first
            | (refine ⟨trivial, ?_⟩; gi_at_call 12; refine (callsIn_wide.2 HN1.out).mono ?_; rintro e w8 ⟨rfl, hB8, hC8⟩; have HN2 := hide hB8.nextQ; have HD8 : Hid (w8.heap[D]? = some (.deferred (some []))) := hide ((hC8.keeps (fun b hb => ⟨#[lvp], 62, by rw [hb]; exact HRP.out⟩) 0).same _ _ (Nat.zero_le _) HD'.out rfl); have cv8 := HVQ.out _ hC8; obtain ⟨lvq, hrq⟩ := hB8.wq.row; have HRQ := hide hrq; clear hB8 hC8 hrq HN1)
            | (refine ⟨trivial, ?_⟩; gi_at_call 12; refine (callsIn_wide.2 HN2.out).mono ?_; rintro e w9 ⟨rfl, hB9, hC9⟩; have HB9 := hide hB9; have HD9 : Hid (w9.heap[D]? = some (.deferred (some []))) := hide ((hC9.keeps (fun b hb => ⟨#[lvq], 62, by rw [hb]; exact HRQ.out⟩) 0).same _ _ (Nat.zero_le _) HD8.out rfl); clear hB9 hC9 HN2)
            | (refine ⟨trivial, ?_⟩; gi_at_call 9; refine (callsIn_wide.2 (num_any _ _)).mono ?_; rintro e w' ⟨rfl, rfl⟩))
          go_roundw
          case rel => exact ⟨i + 1, r, by go_num, by omega, by simp at hL'; omega, HB9.out, HD9.out⟩
          case measure => simp [intOf]; omega
      · have hLn : L' = [] := List.length_eq_zero_iff.1 (by omega)
        subst hLn
        by_cases hiE : i = T
        · subst hiE
          have hle : (i : Int) ≤ (i : Int) := by omega
          have HN1 := hide HB.out.wp.nextN
          have HN2 := hide HB.out.wq.nextN
          gi_wp2_with (first
            | (refine ⟨trivial, ?_⟩; gi_at_call 12; refine (callsIn_wide.2 HN1.out).mono ?_; rintro e w8 ⟨rfl, rfl⟩; clear HN1)
            | (refine ⟨trivial, ?_⟩; gi_at_call 12; refine (callsIn_wide.2 HN2.out).mono ?_; rintro e w9 ⟨rfl, rfl⟩; clear HN2)
            | (refine ⟨trivial, ?_⟩; gi_at_call 9; refine (callsIn_wide.2 (num_any _ _)).mono ?_; rintro e w' ⟨rfl, rfl⟩))
          go_roundw
          case rel => exact ⟨i + 1, [], by go_num, by omega, by simp, HB.out, HD'.out⟩
          case measure => simp [intOf]
        · have hnl : ¬ (i : Int) ≤ (T : Int) := by omega
          have k1 : wr.cell? ⟨w.heap.size + 1, 0, none⟩ = some (.bool false) := by rw [cell_of_row _ _ _ _ _ _ HB.out.br]; rfl
          have f1 : wr.frozen? ⟨w.heap.size + 1, 0, none⟩ = false := frozen_of_row _ _ _ _ _ HB.out.br
          have hDne : D ≠ w.heap.size + 1 := fun e => by
            have := HD'.out
            rw [e, HB.out.br] at this
            cases this
          have hKD2 : (wr.setCell ⟨w.heap.size + 1, 0, none⟩ (.bool true)).heap[D]? = some (.deferred (some [])) := (Go.heap_setCell_other _ _ _ _ hDne).trans HD'.out
          have HKD2 := hide hKD2
          have HCELL : Hid (((wr.setCell ⟨w.heap.size + 1, 0, none⟩ (.bool true)).putObj D (.deferred none)).cell? ⟨w.heap.size + 1, 0, none⟩ = some (.bool true)) := hide (by
            rw [World.cell?_of_block (w := wr.setCell ⟨w.heap.size + 1, 0, none⟩ (.bool true)) (World.putObj_heap_other (fun e => hDne e.symm))]
            exact World.cell?_setCell_same' _ _ _ (by rw [k1]; rfl))
          have HBEL : Hid (Below w.heap.size w ((wr.setCell ⟨w.heap.size + 1, 0, none⟩ (.bool true)).putObj D (.deferred none))) := hide (by
            have hbb := HB.out.bel.setCell (p := ⟨w.heap.size + 1, 0, none⟩) (by show w.heap.size ≤ w.heap.size + 1; omega) (.bool true)
            exact hbb.grown (grownBy_putObj' _ D (.deferred none)) (by have := HB.out.bel.size; simp [World.setCell]; omega) (fun k e => by cases e; omega))
          clear hKD2
          gi_wp2
          refine ⟨by simp, .inl ⟨_, _, rfl, run_takeDeferred HKD2.out, ?_⟩⟩
          refine ⟨.bool true, ?_, rfl, ?_⟩
          · simp [results, Tryd.results4, go_sem, HCELL.out]
          · exact HBEL.out
end Go.Proofs.YtophcdfaflehcaaDoor
