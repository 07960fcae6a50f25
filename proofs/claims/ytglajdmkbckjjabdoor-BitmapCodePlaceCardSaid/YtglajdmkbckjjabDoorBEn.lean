import Derived.Test.YtglajdmkbckjjabDoorBEi
namespace Go.Proofs.YtglajdmkbckjjabDoor
open Go.RowKit Go.Shelf
attribute [local go_sem] Oper.semAt_some
set_option linter.unusedVariables false
set_option linter.unusedSimpArgs false
set_option maxRecDepth 20000

theorem low_and (B : Nat) : bits .and .u64 ((wd B 0 : Nat) : Int) 1 = (((B.testBit 0).toNat : Nat) : Int) := by
  have h1 := u64_and_nat (wd B 0) 1 (wd_lt B 0) (by decide)
  refine h1.trans ?_
  rw [Nat.and_one_is_mod]
  have h2 := Nat.toNat_testBit (wd B 0) 0
  rw [testBit_wd] at h2
  rw [Nat.pow_zero, Nat.div_one] at h2
  rw [← h2]
  simp
/-- what Encode hands back -/
def EnP (w : World) (n B : Nat) (e : Ending) (w' : World) : Prop := ∃ cv c, e = .returned (.tuple #[cv, .int .i64 0]) ∧ w'.ownsRow w.heap.size 5 1 cv c.length (c.map byV) ∧ Wrt c (encD B n) ∧ Below w.heap.size w w'
theorem own_high {w : World} {b b' : Nat} {e : TypeId} {size : Nat} {v : Value} {n : Nat} {xs : List Value} (h : w.ownsRow b e size v n xs) (hb : ∀ g, v.ownBlock = some g → b' ≤ g) : w.ownsRow b' e size v n xs := by
  refine ⟨h.1, ?_⟩
  rcases h.2 with h0 | ⟨g, cap, cur, rfl, h1, r⟩
  · exact .inl h0
  · exact .inr ⟨g, cap, cur, rfl, hb g rfl, r⟩
set_option maxHeartbeats 4000000 in
theorem encode_main {w : World} {v : Value} {l : List Nat} (n : Nat) (hT : TabAt w) (hv : WSl w v l) (h1 : 1 ≤ n) (h2 : n ≤ 65536) (he : cwErr n l = 0) :
    Calls Tryd.prog 9 #[.int .i64 (n : Int), v] w (EnP w n (valW l)) := by
  refine (callsIn_wide (n := 5)).1 ?_
  have HF := hide (From_any n h1 h2 hv he)
  generalize valW l = B at *
  obtain ⟨va, vcap, rfl, -⟩ := hv
  have HT := hide hT
  have htl := hT.lt
  have hw0 := low_and B
  have hnw : 1 ≤ nW n ∧ nW n ≤ 1024 := by unfold nW; omega
  clear hT he
  generalize l.length = llen at *
  refine callsIn_of_wp_marks Tryd.func9 rfl trivial ?_ rfl
  simp only [Tryd.ntmps9, List.size_toArray, List.length_cons, List.length_nil, Nat.reduceAdd, Nat.reduceSub, Array.replicate_succ, Array.replicate_zero, List.push_toArray, List.append_toArray, List.nil_append, List.cons_append]
  gi_wp2_with (first
    | (refine ⟨trivial, ?_⟩; gi_at_call 25; refine (callsIn_wide.2 HF.out).mono ?_; clear HF; rintro e w1 ⟨L, rfl, hN⟩; have HN := hide hN; clear hN; unfold PB))
  obtain ⟨W2, hW2⟩ : ∃ W2, (w1.alloc (Obj.cells #[Value.slice none 0 0, Value.int IntKind.i64 0] 68)).alloc (Obj.cells #[Value.pointer (some ⟨w1.heap.size, 0, none⟩)] 66) = W2 := ⟨_, rfl⟩
  rw [hW2]
  obtain ⟨P, hP⟩ : ∃ P, w1.heap.size = P := ⟨_, rfl⟩
  have hsz : W2.heap.size = P + 2 := by rw [← hW2, ← hP]; simp
  have hb12 : Below w1.heap.size w1 W2 := by rw [← hW2]; exact ((Below.refl _ _).alloc (Nat.le_refl _) _).alloc (by simp) _
  have q0 : W2.heap[P]? = some (.cells #[.slice none 0 0, .int .i64 0] 68 (0, 0)) := by rw [← hW2, ← hP, Below.heap_alloc _ _ _ (by simp)]; exact Go.heap_alloc_new w1 _
  have q1 : W2.heap[P + 1]? = some (.cells #[.pointer (some ⟨P, 0, none⟩)] 66 (0, 0)) := by rw [← hW2, ← hP]; have := Go.heap_alloc_new (w1.alloc (Obj.cells #[Value.slice none 0 0, Value.int IntKind.i64 0] 68)) (Obj.cells #[Value.pointer (some ⟨w1.heap.size, 0, none⟩)] 66); rwa [World.size_alloc] at this
  have hrep2 : BRep W2 L n B := HN.out.1.below hb12
  have hbel2 : Below w.heap.size w W2 := HN.out.2.1.trans (hb12.mono HN.out.2.1.size)
  have htab2 : TabAt W2 := HT.out.below hbel2
  have hPw : w.heap.size ≤ P := by rw [← hP]; exact HN.out.2.1.size
  have hLP : ∀ b, L.U b → b < P := fun b hb => by rw [← hP]; exact HN.out.1.uLt b hb
  have HDG : Hid (∀ q, Calls Tryd.prog 26 #[.pointer (some ⟨P, 0, none⟩), .int .u64 (((B.testBit 0).toNat : Nat) : Int)] (W2.drewN q) fun e w' => e = .returned (.tuple #[]) ∧ WZ W2 W2 w' P ([] ++ [B.testBit 0])) := hide fun q => WZ.digit (wA := W2) (w := W2.drewN q) ⟨⟨.slice none 0 0, [], (⟨q0, ⟨rfl, .inl ⟨rfl, rfl⟩⟩, wrt_nil, Chg.refl _ _, (fun b e => by simp [Value.ownBlock] at e), by omega⟩ : WS W2 W2 P (.slice none 0 0) [] []).below ⟨rfl, rfl, rfl, Nat.le_refl _, fun _ _ => rfl⟩⟩, ⟨rfl, rfl, rfl, Nat.le_refl _, fun _ _ h _ _ => h⟩⟩ (B.testBit 0) (by simp)
  have HS3 : Hid (∀ w', WZ W2 W2 w' P ([] ++ [B.testBit 0]) → w'.cell? ⟨P + 1, 0, none⟩ = some (.pointer (some ⟨P, 0, none⟩)) ∧ w'.cell? ⟨L.p, 1, none⟩ = some (.slice (some ⟨L.lo, 0, none⟩) (nW n) (nW n)) ∧ w'.cell? ⟨L.lo, 0, none⟩ = some (.int .u64 (wd B 0 : Nat))) := hide fun w' hz => by
    have hr : BRep w' L n B := by
      refine hrep2.kept fun b hb => ?_
      obtain ⟨cv, c, hs⟩ := hz.1
      have := hLP b hb
      exact hs.chg.keep b (by omega) (by omega)
    refine ⟨?_, hr.c1, hr.cl (k := 0) (by omega)⟩
    rw [cell_of_row _ _ _ _ _ _ (hz.2.keep _ _ q1 (by omega) (fun cs fr e => by simp at e))]
    rfl
  rw [hP]
  clear hW2 HN HT hb12 hP
  have c1 : W2.cell? ⟨P + 1, 0, none⟩ = some (.pointer (some ⟨P, 0, none⟩)) := by rw [cell_of_row _ _ _ _ _ _ q1]; rfl
  have c2 := hrep2.c1
  have c3 := hrep2.cl (k := 0) (by omega)
  refine wpIn_wide.2 ?_
  have HREP := hide hrep2
  have HBEL := hide hbel2
  have HTAB := hide htab2
  have HQ0 := hide q0
  have HQ1 := hide q1
  clear hrep2 hbel2 htab2 q0 q1
  generalize hdv : B.testBit 0 = dv at *
  generalize hx : wd B 0 = x at *
  clear hx
  generalize nW n = m1 at *
  have hm0 : (0 : Int) < (m1 : Int) := by omega
  have hm1 : 0 < m1 := by omega
  go_region_held3 (fun w' => w'.cell? ⟨P + 1, 0, none⟩ = some (.pointer (some ⟨P, 0, none⟩)) ∧ w'.cell? ⟨L.p, 1, none⟩ = some (.slice (some ⟨L.lo, 0, none⟩) m1 m1) ∧ w'.cell? ⟨L.lo, 0, none⟩ = some (.int .u64 (x : Int))) (first | assumption | (refine ⟨?_, ?_, ?_⟩ <;> assumption) | go_keep)
    (first | (go_at_call 26; refine (HDG.out 1).mono ?_; clear HDG; rintro e w3 ⟨rfl, h3⟩; obtain ⟨s1, s2, s3⟩ := HS3.out _ h3; have H3 := hide h3; clear h3 HS3))
  clear c1 c2 c3 s2 s3 hw0 hm0 hm1 hnw
  gi_wp2_with (refine ⟨trivial, ?_⟩; gi_at_call 27; refine (callsIn_wide.2 (Runs_any _ L)).mono ?_; rintro e w' ⟨rfl, rfl⟩)
  obtain ⟨W0, hW0⟩ : ∃ W0, (w3.alloc (Obj.cells #[Value.int IntKind.i64 0] 3)).alloc (Obj.cells #[PB L] 44) = W0 := ⟨_, rfl⟩
  rw [hW0]
  obtain ⟨Q, hQ⟩ : ∃ Q, w3.heap.size = Q := ⟨_, rfl⟩
  have hs0 : W0.heap.size = Q + 2 := by rw [← hW0, ← hQ]; simp
  have hQ2 : W2.heap.size ≤ Q := by rw [← hQ]; exact H3.out.2.size
  have START : EI W2 W0 P Q L 0 [dv] := by
    have hbw : Below w3.heap.size w3 W0 := by rw [← hW0]; exact ((Below.refl _ _).alloc (Nat.le_refl _) _).alloc (by simp) _
    obtain ⟨cv, c, hws⟩ := H3.out.1
    refine ⟨⟨cv, c, by simpa using hws.below hbw⟩, ?_, ?_, by omega⟩
    · rw [← hW0, ← hQ, Below.heap_alloc _ _ _ (by simp)]; exact Go.heap_alloc_new w3 _
    · rw [← hW0, ← hQ]; have := Go.heap_alloc_new (w3.alloc (Obj.cells #[Value.int IntKind.i64 0] 3)) (Obj.cells #[PB L] 44); rwa [World.size_alloc] at this
  have HRP : Hid (∀ W s D, EI W2 W P Q L s D → BRep W L n B ∧ TabAt W ∧ Below w.heap.size w W ∧ W.cell? ⟨P + 1, 0, none⟩ = some (.pointer (some ⟨P, 0, none⟩)) ∧ W.cell? ⟨Q + 1, 0, none⟩ = some (PB L) ∧ W.cell? ⟨Q, 0, none⟩ = some (.int .i64 (s : Int)) ∧ W.frozen? ⟨Q, 0, none⟩ = false) := hide fun W s D h => by
    have hc := h.chg
    refine ⟨HREP.out.kept fun b hb => hc.keep b (by have := hLP b hb; omega) (by have := hLP b hb; omega), HTAB.out.of (hc.keep _ (by omega) (by omega)), HBEL.out.trans (hc.below (by omega) fun b e => by omega), ?_, ?_, ?_, frozen_of_row _ _ _ _ _ h.plc⟩
    · rw [cell_of_row _ _ _ _ _ _ ((hc.keep (P + 1) (by omega) (by omega)).trans HQ1.out)]; rfl
    · rw [cell_of_row _ _ _ _ _ _ h.clo]; rfl
    · rw [cell_of_row _ _ _ _ _ _ h.plc]; rfl
  have HENC : Hid ([dv] ++ encP B n 0 = encD B n) := hide (by rw [encD, hdv]; rfl)
  rw [hQ]
  clear hW0 H3 hQ s1 HREP HTAB HBEL HQ0 HQ1
  refine wpIn_range_st rfl (by decide) (gf := 54) (lb := #[.pointer (some ⟨Q + 1, 0, none⟩)]) rfl trivial enters38
    (runs_seq _ (Q + 1) L n) (fun _ => rfl)
    (fun s W => s ≤ n ∧ (0 < s → s < n → B.testBit s = false) ∧ ∃ D, EI W2 W P Q L s D ∧ D ++ encP B n s = encD B n ∧ D.length ≤ 2 * s + 1)
    (fun _ _ => False)
    (fun s A B' row hs hg hr => ⟨hs.1, hs.2.1, by obtain ⟨D, e1, e2⟩ := hs.2.2; exact ⟨D, e1.own (by omega) hg hr, e2⟩⟩)
    (fun _ _ _ _ _ hs _ _ => hs)
    (fun s W hs => by obtain ⟨D, e1, e2⟩ := hs.2.2; obtain ⟨r1, r2, r3, r4, r5, r6⟩ := HRP.out W s D e1; exact ⟨⟨B, r1⟩, r2, r5⟩)
    (fun s x s' => fun _ A B' row hs hg hr => by obtain ⟨B2, e1, e2, e3, e4⟩ := hs; exact ⟨B2, own_rep e1 hg hr, e2, e3, e4⟩) (fun s A B' row hs hg hr => by obtain ⟨B2, e1, e2⟩ := hs; exact ⟨B2, own_rep e1 hg hr, e2⟩)
    ⟨Nat.zero_le _, fun h => by omega, [dv], START, HENC.out, by simp⟩
    ?a1 ?assign ?body ?done ?stop
  case assign =>
    intro l x W K hK
    simp only [rnEnc]
    gi_wp2
    exact hK
  case body =>
    rintro l s x s' W hl1 hl2 ⟨hs1, hs2, D, hI, hD1, hD2⟩ ⟨B', hR, hx1, hx2, rfl⟩
    obtain ⟨r1, r2, r3, k1, k2, k3, f3⟩ := HRP.out W s D hI
    obtain rfl := r1.uniq hR
    obtain ⟨i, en⟩ := x
    dsimp only at hx1 hx2 ⊢
    obtain ⟨u1, u2, u3⟩ := run_ends hs1 hx1
    obtain ⟨g1, g2, g3, g4⟩ := nx_facts hx1 hs1
    obtain ⟨a1, a2⟩ := run_all g3 g2
    rw [← hx2] at u2 u3 a1 a2
    have hrun := encP_run (n := n) g1 u2 u3 g4 a1 a2
    have HI := hide hI
    have hl1' := stD_small (i - s)
    have hl2' := stD_small (en - i)
    have HST1 := hide (wstretch_at hI.wz (i - s) (by omega) (by omega) (X := (i : Int) - (s : Int)) (by omega))
    have HNEW : Hid ((D ++ stD (i - s) ++ stD (en - i)) ++ encP B n en = encD B n ∧ (D ++ stD (i - s) ++ stD (en - i)).length ≤ 2 * en + 1) := hide ⟨by rw [← hD1, hrun]; simp, by simp; omega⟩
    have HA2 := hide a2
    have HL1 : Hid ((D ++ stD (i - s)).length ≤ 9000000) := hide (by simp; omega)
    clear START hrun hI hR g3 g4 hx1 hx2 hs2 a1 a2 hD1 hD2 r1 r2 r3 HENC
    gi_wp2_with (first
      | (refine ⟨trivial, ?_⟩; gi_at_call 28; refine (CallsIn.inRound l (callsIn_wide.2 HST1.out)).mono ?_; clear HST1; rintro e w4 ⟨rfl, h4⟩; have HI4 := hide (HI.out.took h4); have HK4 := hide h4.2; have HST2 := hide (wstretch_at HI4.out.wz (en - i) (by omega) HL1.out (X := (en : Int) - (i : Int)) (by omega)); obtain ⟨-, -, -, k1a, -⟩ := HRP.out w4 s _ HI4.out; clear h4)
      | (refine ⟨trivial, ?_⟩; gi_at_call 28; refine (CallsIn.inRound l (callsIn_wide.2 HST2.out)).mono ?_; clear HST2; rintro e w5 ⟨rfl, h5⟩; have HI5 := hide (HI4.out.took h5); have HK5 := hide h5.2; obtain ⟨-, -, -, k1b, -, k3b, f3b⟩ := HRP.out w5 s _ HI5.out; clear h5))
    obtain ⟨cv0, cc0, hws0⟩ := HI.out.ws
    obtain ⟨cv4, cc4, hws4⟩ := HI4.out.ws
    exact ⟨((keeps_TF HK4.out hws0.row).trans (keeps_TF HK5.out hws4.row)).trans (keeps_put HI5.out.plc), u3, fun _ h => HA2.out h, _, HI5.out.put hQ2 (by omega), HNEW.out⟩
  case done =>
    rintro DD s W hDD ⟨B', hR, hx⟩ ⟨hs1, hs2, D, hI, hD1, hD2⟩ hK
    obtain ⟨r1, r2, r3, k1, k2, k3, f3⟩ := HRP.out W s D hI
    obtain rfl := r1.uniq hR
    have z := nx_no hx
    have henc := encP_clear hs1 z
    have HI := hide hI
    have HKD := hide hK
    have HST1 := hide (wstretch_at hI.wz (n - s) (by omega) (by omega) (X := (n : Int) - (s : Int)) (by omega))
    have HFULL : Hid (D ++ stD (n - s) = encD B n) := hide (by rw [← hD1, henc])
    clear START hI hR hx z hK hs2 henc hD1 r1 r2 r3 HENC
    gi_wp2_with (refine ⟨trivial, ?_⟩; gi_at_call 28; refine (callsIn_wide.2 HST1.out).mono ?_; clear HST1; rintro e w4 ⟨rfl, h4⟩; have HI4 := hide (HI.out.took h4); have HK4 := hide h4.2; obtain ⟨-, -, hb4, k1a, -⟩ := HRP.out w4 s _ HI4.out; have HB4 := hide hb4; obtain ⟨cv4, cc4, hws4⟩ := HI4.out.ws; have HW4 := hide hws4; have kc : w4.cell? ⟨P, 0, none⟩ = some cv4 := cell_of_row _ _ _ _ _ _ hws4.row; clear h4 hb4 hws4)
    have hkd : w4.heap[DD]? = some (.deferred (some [])) := HK4.out.keep _ _ HKD.out (by omega) (fun cs fr e => by simp at e)
    have hg : w4.grownBy (w4.putObj DD (.deferred none)) (some DD) := grownBy_putObj' w4 DD _
    have hown : (w4.putObj DD (.deferred none)).ownsRow w.heap.size 5 1 cv4 cc4.length (cc4.map byV) := by
      refine own_high (rowK8 HW4.out.own fun b e => ?_) fun b e => ?_
      · obtain ⟨cs, hcs⟩ := HW4.out.blk e
        rw [hcs]
        exact own_blk (N := W0.heap.size) hcs hg (fun r e => by cases e; exact ⟨hDD, _, hkd, rfl⟩)
      · have := HW4.out.loc b e
        omega
    have hbel : Below w.heap.size w (w4.putObj DD (.deferred none)) := HB4.out.grown hg (by have := HB4.out.size; omega) (fun k e => by cases e; omega)
    refine ⟨by simp, .inl ⟨_, _, rfl, run_takeDeferred hkd, ?_⟩⟩
    refine ⟨_, results_tmp2 rfl _ _ _, ?_⟩
    exact ⟨cv4, cc4, rfl, hown, by rw [← HFULL.out]; exact HW4.out.wrt, hbel⟩
  case stop =>
    rintro D c W hD h hK
    exact h.elim
end Go.Proofs.YtglajdmkbckjjabDoor
