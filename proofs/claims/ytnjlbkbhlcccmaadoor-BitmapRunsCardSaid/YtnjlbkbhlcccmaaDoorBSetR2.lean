import Derived.Test.YtnjlbkbhlcccmaaDoorBSetR
namespace Go.Proofs.YtnjlbkbhlcccmaaDoor
open Go.RowKit Go.Shelf
attribute [local go_sem] Oper.semAt_some
set_option linter.unusedVariables false
set_option linter.unusedSimpArgs false
set_option maxRecDepth 20000

set_option maxHeartbeats 2000000 in
theorem SetRange_any {w : World} {L : BL} {n B a c : Nat} (h : BRep w L n B) (hac : a + c ≤ n) :
    Calls Tryd.prog 37 #[PB L, .int .i64 (a : Int), .int .i64 (c : Int)] w fun e w' => e = .returned (.tuple #[.int .i64 ((cnt (fun j => !B.testBit (a + j)) c : Nat) : Int), .int .i64 0]) ∧ BRep w' L n (setR B a (a + c)) ∧ Chg L.U w w' := by
  refine (callsIn_wide (n := 5)).1 ?_
  have hck := checkRange_any (h.below ((Below.refl _ _).alloc (Nat.le_refl _) (.cells #[PB L] 33))) (a : Int) (c : Int)
  rw [show rgErr n (a : Int) (c : Int) = 0 by unfold rgErr; rw [if_neg (by omega), if_neg (by omega)]] at hck
  have HCK := hide hck
  have hn := h.n2
  clear hck
  have H := hide h
  have hlp := h.bp
  have hlo := h.blo
  clear h
  unfold PB at *
  refine callsIn_of_wp_marks Tryd.func37 rfl trivial ?_ rfl
  simp only [Tryd.ntmps37, List.size_toArray, List.length_cons, List.length_nil, Nat.reduceAdd, Nat.reduceSub, Array.replicate_succ, Array.replicate_zero, List.push_toArray, List.append_toArray, List.nil_append, List.cons_append]
  gi_wp2_with (first
    | (refine ⟨trivial, ?_⟩; gi_at_call 60; refine (callsIn_wide.2 HCK.out).mono ?_; rintro e w' ⟨rfl, rfl⟩; simp only [Int.natCast_zero])
    | (refine ⟨trivial, ?_⟩; gi_at_call 61; refine (callsIn_wide.2 (pieces_any _ _ _)).mono ?_; rintro e w' ⟨rfl, rfl⟩))
  have hsz := rW0_size w L a c
  have START := RInv.start L.U H.out a c
  have hl := hide H.out.uLt
  have hlu : Hid (∀ b, (L.U) b → b < w.heap.size) := hide (hl.out)
  generalize hW0 : rW0 w L a c = W0 at *
  unfold rW0 at hW0
  rw [hW0]
  clear hW0 HCK
  refine wpIn_range_st rfl (by decide) (gf := 68) (lb := #[.pointer (some ⟨w.heap.size + 1 + 1, 0, none⟩), .pointer (some ⟨w.heap.size + 1 + 1 + 1, 0, none⟩)]) rfl trivial enters60
    (pieces_seq _ (w.heap.size + 1 + 1) (w.heap.size + 1 + 1 + 1) a (a + c) (by omega) (by omega)) (fun _ => rfl)
    (fun s W => a ≤ s ∧ s ≤ a + c ∧ RInv L.U w W L n (setR B a s) a (a + c) (cnt (fun j => !B.testBit (a + j)) (s - a)))
    (fun _ _ => False)
    (fun s A B' row hs hg hr => ⟨hs.1, hs.2.1, hs.2.2.own (by omega) hg hr⟩)
    (fun _ _ _ _ _ hs _ _ => hs)
    (fun s W hs => ⟨by rw [cell_of_row _ _ _ _ _ _ hs.2.2.b2]; rfl, by rw [cell_of_row _ _ _ _ _ _ hs.2.2.b3]; rfl⟩)
    (fun s x s' => fun _ A B' row hs hg hr => hs) (fun s A B' row hs hg hr => hs)
    ⟨Nat.le_refl _, by omega, by rw [setR_none, Nat.sub_self]; exact START⟩
    (fun x => { tmps := #[.pointer (some ⟨L.p, 0, none⟩), .int .i64 a, .int .i64 c, .pointer (some ⟨w.heap.size, 0, none⟩), undef, undef, .int .i64 0, .int .i64 0, .int .i64 0, .pointer (some ⟨w.heap.size + 1, 0, none⟩), .int .i64 x.1, .int .u64 x.2, .pointer (some ⟨L.p, 0, none⟩), .int .i64 a, .int .i64 c, .int .i64 0, .int .i64 0, .bool false, undef, .int .i64 a, .int .i64 a, .int .i64 c, .int .i64 (a + c), .func (.func 68) #[] #[.pointer (some ⟨w.heap.size + 1 + 1, 0, none⟩), .pointer (some ⟨w.heap.size + 1 + 1 + 1, 0, none⟩)], .int .i64 x.1, .int .u64 x.2, undef, undef, undef, undef, undef, undef, undef, undef, undef, undef, undef, undef, undef, undef, undef], defers := [] })
    ?assign ?body ?done ?stop
  case assign =>
    intro l x W K hK
    simp only [pcEnc]
    gi_wp2
    exact hK
  case body =>
    rintro l s x s' W hl1 hl2 ⟨hs1, hs2, hI⟩ ⟨hlt, rfl, rfl⟩
    obtain ⟨s', hst⟩ : ∃ s', stopAt (a + c) s = s' := ⟨_, rfl⟩
    have hs' : s < s' ∧ s' ≤ (s / 64 + 1) * 64 ∧ s' ≤ a + c := by rw [← hst]; unfold stopAt; omega
    rw [hst]
    obtain ⟨q1, q2, q3⟩ := hs'
    have hkW : s / 64 < nW n := by unfold nW; omega
    have hR := hI.rep
    have c1 := hR.c1
    have hcl := hR.cl hkW
    have hc0 : W.cell? ⟨w.heap.size, 0, none⟩ = some (.pointer (some ⟨L.p, 0, none⟩)) := by rw [cell_of_row _ _ _ _ _ _ hI.b0]; rfl
    have hc1 : W.cell? ⟨w.heap.size + 1, 0, none⟩ = some (.int .i64 ((cnt (fun j => !B.testBit (a + j)) (s - a) : Nat) : Int)) := by rw [cell_of_row _ _ _ _ _ _ hI.b1]; rfl
    have hf1 : W.frozen? ⟨w.heap.size + 1, 0, none⟩ = false := frozen_of_row _ _ _ _ 3 hI.b1
    have hb1 : w.heap.size + 1 < W.heap.size := (Array.getElem?_eq_some_iff.1 hI.b1).1
    have hml : msk (s % 64) (s % 64 + (s' - s)) < 18446744073709551616 := (mask_nat (by omega)).2
    have eo := u64_or_nat _ _ (wd_lt (setR B a s) (s / 64)) hml
    have hxo : wd (setR B a s) (s / 64) ||| msk (s % 64) (s % 64 + (s' - s)) < 18446744073709551616 := Nat.or_lt_two_pow (n := 64) (wd_lt _ _) hml
    obtain ⟨e1, e2⟩ := wd_setR (B := B) hs1 q1 q2 rfl
    have hlay := fun (W' : World) (hw : BRep W' L n (setR B a s)) => lay_any (B' := (setR B a s')) hw hkW hxo e1 (fun j _ hj => e2 j hj) (setR_lt H.out.hB (by omega))
    have ec := cnt_setR (B := B) hs1 q1 q2
    have ecs : cnt (fun j => !B.testBit (a + j)) (s' - a) = cnt (fun j => !B.testBit (a + j)) (s - a) + cnt (fun j => !B.testBit (s + j)) (s' - s) := by
      rw [show s' - a = (s - a) + (s' - s) by omega, cnt_add]
      congr 1
      exact cnt_congr _ fun i _ => by rw [show a + (s - a + i) = s + i by omega]
    rw [← ec] at ecs
    have hle1 := cnt_le (fun j => !B.testBit (a + j)) (s - a)
    have hle2 := cnt_le (wd (setR B a s) (s / 64) ^^^ (wd (setR B a s) (s / 64) ||| msk (s % 64) (s % 64 + (s' - s)))).testBit 64
    have HECS := hide ecs
    have HLAY := hide hlay
    have HI := hide hI
    have HREP : Hid (BRep W.drew L n (setR B a s)) := hide (hR.kept fun _ _ => rfl)
    clear ecs ec hlay hI hR hst START
    generalize cnt (wd (setR B a s) (s / 64) ^^^ (wd (setR B a s) (s / 64) ||| msk (s % 64) (s % 64 + (s' - s)))).testBit 64 = d at *
    generalize cnt (fun j => !B.testBit (a + j)) (s - a) = cc at *
    generalize wd (setR B a s) (s / 64) ||| msk (s % 64) (s % 64 + (s' - s)) = y at *
    generalize msk (s % 64) (s % 64 + (s' - s)) = m at *
    generalize wd (setR B a s) (s / 64) = u at *
    obtain ⟨k, hk⟩ : ∃ k, s / 64 = k := ⟨_, rfl⟩
    rw [hk] at hkW hcl HLAY ⊢
    clear hk
    obtain ⟨m1, hm1⟩ : ∃ m1, nW n = m1 := ⟨_, rfl⟩
    rw [hm1] at hkW c1
    have hW : m1 ≤ 1024 := by rw [← hm1]; unfold nW; omega
    have HM1 := hide hm1
    clear hm1
    have hclD : W.drew.cell? ⟨L.lo, k, none⟩ = some (.int .u64 (u : Int)) := hcl
    have hc1D : W.drew.cell? ⟨w.heap.size + 1, 0, none⟩ = some (.int .i64 (cc : Int)) := hc1
    have hf1D : W.drew.frozen? ⟨w.heap.size + 1, 0, none⟩ = false := hf1
    have hdr : W.drew.cell? ⟨w.heap.size, 0, none⟩ = some (.pointer (some ⟨L.p, 0, none⟩)) ∧ W.drew.cell? ⟨L.p, 1, none⟩ = some (.slice (some ⟨L.lo, 0, none⟩) m1 m1) := ⟨hc0, c1⟩
    clear e1 e2 hcl hc1 hf1 hc0 c1
    refine wpIn_block ?_
    refine wpIn_region_heldR (fun W' => W'.cell? ⟨w.heap.size, 0, none⟩ = some (.pointer (some ⟨L.p, 0, none⟩)) ∧ W'.cell? ⟨L.p, 1, none⟩ = some (.slice (some ⟨L.lo, 0, none⟩) m1 m1)) (by kernel_rfl) (by kernel_rfl) (by rintro ⟨_, _, h⟩; exact h) hdr (fun hHeld => ?_)
    clear hdr
    simp only [List.size_toArray, List.length_cons, List.length_nil, Nat.reduceAdd, Array.replicate_succ, Array.replicate_zero, List.push_toArray, List.nil_append, List.cons_append]
    refine wpAnyH_take (i := 1) (v := ?v1) rfl (by kernel_rfl) (by kernel_rfl) (by kernel_rfl) (fun _ _ _ h => h) (Or.inl ⟨by rfl, ?h1⟩) hHeld ?r1
    case h1 => intro w' hSw; obtain ⟨hs0, hs1⟩ := hSw; go_simp; (try with_reducible rfl)
    simp only [Act.put, List.setIfInBounds_toArray, List.set_cons_zero, List.set_cons_succ]
    refine wpAnyH_take (i := 2) (v := ?v2) rfl (by kernel_rfl) (by kernel_rfl) (by kernel_rfl) (fun _ _ _ h => h) (Or.inl ⟨by rfl, ?h2⟩) hHeld ?r2
    case h2 => intro w' hSw; obtain ⟨hs0, hs1⟩ := hSw; go_simp; (try with_reducible rfl)
    simp only [Act.put, List.setIfInBounds_toArray, List.set_cons_zero, List.set_cons_succ]
    refine wpAnyH_take (i := 3) (v := ?v3) rfl (by kernel_rfl) (by kernel_rfl) (by kernel_rfl) (fun _ _ _ h => h) (Or.inl ⟨by rfl, ?h3⟩) hHeld ?r3
    case h3 => intro w' hSw; obtain ⟨hs0, hs1⟩ := hSw; go_simp; (try with_reducible rfl)
    simp only [Act.put, List.setIfInBounds_toArray, List.set_cons_zero, List.set_cons_succ]
    refine wpAnyH_take (i := 4) (v := ?v4) rfl (by kernel_rfl) (by kernel_rfl) (by kernel_rfl) (fun _ _ _ h => h) (Or.inl ⟨by rfl, ?h4⟩) hHeld ?r4
    case h4 => intro w' hSw; obtain ⟨hs0, hs1⟩ := hSw; go_simp; (try with_reducible rfl)
    simp only [Act.put, List.setIfInBounds_toArray, List.set_cons_zero, List.set_cons_succ]
    refine wpAnyH_take (i := 5) (v := ?v5) rfl (by kernel_rfl) (by kernel_rfl) (by kernel_rfl) (fun _ _ _ h => h) (Or.inl ⟨by rfl, ?h5⟩) hHeld ?r5
    case h5 => intro w' hSw; obtain ⟨hs0, hs1⟩ := hSw; go_simp; (try with_reducible rfl)
    simp only [Act.put, List.setIfInBounds_toArray, List.set_cons_zero, List.set_cons_succ]
    refine wpAnyH_take (i := 6) (v := ?v6) rfl (by kernel_rfl) (by kernel_rfl) (by kernel_rfl) (fun _ _ _ h => h) (Or.inl ⟨by rfl, ?h6⟩) hHeld ?r6
    case h6 => intro w' hSw; obtain ⟨hs0, hs1⟩ := hSw; go_simp; (try with_reducible rfl)
    simp only [Act.put, List.setIfInBounds_toArray, List.set_cons_zero, List.set_cons_succ]
    refine wpAnyH_take (i := 7) (v := ?v7) rfl (by kernel_rfl) (by kernel_rfl) (by kernel_rfl) (fun _ _ _ h => h) (Or.inl ⟨by rfl, ?h7⟩) hHeld ?r7
    case h7 => intro w' hSw; obtain ⟨hs0, hs1⟩ := hSw; go_simp; (try with_reducible rfl)
    simp only [Act.put, List.setIfInBounds_toArray, List.set_cons_zero, List.set_cons_succ]
    refine wpAnyH_take (i := 8) (v := ?v8) rfl (by kernel_rfl) (by kernel_rfl) (by kernel_rfl) (fun _ _ _ h => h) (Or.inl ⟨by rfl, ?h8⟩) hHeld ?r8
    case h8 => intro w' hSw; obtain ⟨hs0, hs1⟩ := hSw; go_simp; (try with_reducible rfl)
    simp only [Act.put, List.setIfInBounds_toArray, List.set_cons_zero, List.set_cons_succ]
    refine wpAnyH_take (i := 10) (v := ?v9) rfl (by kernel_rfl) (by kernel_rfl) (by kernel_rfl) (fun _ _ _ h => h) (Or.inl ⟨by rfl, ?h9⟩) hHeld ?r9
    case h9 => intro w' hSw; obtain ⟨hs0, hs1⟩ := hSw; go_simp; (try with_reducible rfl)
    simp only [Act.put, List.setIfInBounds_toArray, List.set_cons_zero, List.set_cons_succ]
    refine wpAnyH_ready (rs := [0, 9]) (by kernel_rfl) (by simp) ?_
    refine AllReadyH.cons rfl (fun K hK => ?_) ?_
    · go_simp
      refine hK.out _ _ hHeld (fun hHeld => ?_)
      clear hK K
      (try simp only [Act.put, List.setIfInBounds_toArray, List.set_cons_zero, List.set_cons_succ])
      refine wpAnyH_ready (rs := [9]) (by kernel_rfl) (by simp) ?_
      refine AllReadyH.cons rfl (fun K hK => ?_) ?_
      · go_simp
        refine hK.out _ _ hHeld (fun hHeld => ?_)
        clear hK K
        (try simp only [Act.put, List.setIfInBounds_toArray, List.set_cons_zero, List.set_cons_succ])
        refine wpAnyH_take (i := 11) (v := ?v10) rfl (by kernel_rfl) (by kernel_rfl) (by kernel_rfl) (fun _ _ _ h => h) (Or.inl ⟨by rfl, ?h10⟩) hHeld ?r10
        case h10 => intro w' hSw; obtain ⟨hs0, hs1⟩ := hSw; go_simp; (try with_reducible rfl)
        simp only [Act.put, List.setIfInBounds_toArray, List.set_cons_zero, List.set_cons_succ]
        refine wpAnyH_ready (rs := [12]) (by kernel_rfl) (by simp) ?_
        refine AllReadyH.cons rfl (fun K hK => ?_) ?_
        · go_simp
          (go_at_call 56; refine (HLAY.out _ HREP.out).mono ?_; rintro e w2 ⟨rfl, hrep2, hchg2, hsz2⟩; have hc2 := (World.cell?_of_block (hchg2.keep (w.heap.size + 1) hb1 (fun hu => by have := hl.out _ hu; omega))).trans hc1D; have hf2 := (World.frozen?_of_block (hchg2.keep (w.heap.size + 1) hb1 (fun hu => by have := hl.out _ hu; omega))).trans hf1D; have HR2 := hide hrep2; have HC2 := hide hchg2; have HZ2 := hide hsz2; clear hrep2 hchg2 hsz2)
          refine hK.out _ _ ⟨(World.cell?_of_block (HC2.out.keep w.heap.size (by show w.heap.size < W.heap.size; omega) (fun hu => by have := hl.out _ hu; omega))).trans hHeld.1, by have := HR2.out.c1; rw [HM1.out] at this; exact this⟩ (fun hHeld => ?_)
          clear hK K
          (try simp only [Act.put, List.setIfInBounds_toArray, List.set_cons_zero, List.set_cons_succ])
          refine wpAnyH_take (i := 13) (v := ?v11) rfl (by kernel_rfl) (by kernel_rfl) (by kernel_rfl) (fun _ _ _ h => h) (Or.inl ⟨by rfl, ?h11⟩) hHeld ?r11
          case h11 => intro w' hSw; obtain ⟨hs0, hs1⟩ := hSw; go_simp; (try with_reducible rfl)
          simp only [Act.put, List.setIfInBounds_toArray, List.set_cons_zero, List.set_cons_succ]
          refine wpAnyH_ready (rs := [14]) (by kernel_rfl) (by simp) ?_
          refine AllReadyH.cons rfl (fun K hK => ?_) ?_
          · go_simp
            refine hK.out _ _ ⟨(World.cell?_of_block (Go.heap_setCell_other _ _ _ _ (by simp))).trans hHeld.1, (World.cell?_of_block (Go.heap_setCell_other _ _ _ _ (by show L.p ≠ w.heap.size + 1; omega))).trans hHeld.2⟩ (fun hHeld => ?_)
            clear hK K
            (try simp only [Act.put, List.setIfInBounds_toArray, List.set_cons_zero, List.set_cons_succ])
            refine wpAnyH_done (by kernel_rfl) ?_ _
            exact (fun hh => ⟨hh.2, by omega, by omega, hh.1⟩) (HI.out.stored (N := W0.heap.size) (C := IntKind.i64.wrap ((cc : Int) + (d : Int))) (c' := cnt (fun j => !B.testBit (a + j)) (s' - a)) hl.out hlu.out HR2.out HC2.out.ofDrew (Nat.le_of_eq HZ2.out.symm) (by rw [HECS.out, IntKind.wrap_i64]; omega) (by omega))
          exact AllReadyH.nil
        exact AllReadyH.nil
      exact AllReadyH.nil
    refine AllReadyH.cons rfl (fun K hK => ?_) ?_
    · go_simp
      refine hK.out _ _ hHeld (fun hHeld => ?_)
      clear hK K
      (try simp only [Act.put, List.setIfInBounds_toArray, List.set_cons_zero, List.set_cons_succ])
      refine wpAnyH_take (i := 11) (v := ?v12) rfl (by kernel_rfl) (by kernel_rfl) (by kernel_rfl) (fun _ _ _ h => h) (Or.inl ⟨by rfl, ?h12⟩) hHeld ?r12
      case h12 => intro w' hSw; obtain ⟨hs0, hs1⟩ := hSw; go_simp; (try with_reducible rfl)
      simp only [Act.put, List.setIfInBounds_toArray, List.set_cons_zero, List.set_cons_succ]
      refine wpAnyH_ready (rs := [0, 12]) (by kernel_rfl) (by simp) ?_
      refine AllReadyH.cons rfl (fun K hK => ?_) ?_
      · go_simp
        refine hK.out _ _ hHeld (fun hHeld => ?_)
        clear hK K
        (try simp only [Act.put, List.setIfInBounds_toArray, List.set_cons_zero, List.set_cons_succ])
        refine wpAnyH_ready (rs := [12]) (by kernel_rfl) (by simp) ?_
        refine AllReadyH.cons rfl (fun K hK => ?_) ?_
        · go_simp
          (go_at_call 56; refine (HLAY.out _ HREP.out).mono ?_; rintro e w2 ⟨rfl, hrep2, hchg2, hsz2⟩; have hc2 := (World.cell?_of_block (hchg2.keep (w.heap.size + 1) hb1 (fun hu => by have := hl.out _ hu; omega))).trans hc1D; have hf2 := (World.frozen?_of_block (hchg2.keep (w.heap.size + 1) hb1 (fun hu => by have := hl.out _ hu; omega))).trans hf1D; have HR2 := hide hrep2; have HC2 := hide hchg2; have HZ2 := hide hsz2; clear hrep2 hchg2 hsz2)
          refine hK.out _ _ ⟨(World.cell?_of_block (HC2.out.keep w.heap.size (by show w.heap.size < W.heap.size; omega) (fun hu => by have := hl.out _ hu; omega))).trans hHeld.1, by have := HR2.out.c1; rw [HM1.out] at this; exact this⟩ (fun hHeld => ?_)
          clear hK K
          (try simp only [Act.put, List.setIfInBounds_toArray, List.set_cons_zero, List.set_cons_succ])
          refine wpAnyH_take (i := 13) (v := ?v13) rfl (by kernel_rfl) (by kernel_rfl) (by kernel_rfl) (fun _ _ _ h => h) (Or.inl ⟨by rfl, ?h13⟩) hHeld ?r13
          case h13 => intro w' hSw; obtain ⟨hs0, hs1⟩ := hSw; go_simp; (try with_reducible rfl)
          simp only [Act.put, List.setIfInBounds_toArray, List.set_cons_zero, List.set_cons_succ]
          refine wpAnyH_ready (rs := [14]) (by kernel_rfl) (by simp) ?_
          refine AllReadyH.cons rfl (fun K hK => ?_) ?_
          · go_simp
            refine hK.out _ _ ⟨(World.cell?_of_block (Go.heap_setCell_other _ _ _ _ (by simp))).trans hHeld.1, (World.cell?_of_block (Go.heap_setCell_other _ _ _ _ (by show L.p ≠ w.heap.size + 1; omega))).trans hHeld.2⟩ (fun hHeld => ?_)
            clear hK K
            (try simp only [Act.put, List.setIfInBounds_toArray, List.set_cons_zero, List.set_cons_succ])
            refine wpAnyH_done (by kernel_rfl) ?_ _
            exact (fun hh => ⟨hh.2, by omega, by omega, hh.1⟩) (HI.out.stored (N := W0.heap.size) (C := IntKind.i64.wrap ((cc : Int) + (d : Int))) (c' := cnt (fun j => !B.testBit (a + j)) (s' - a)) hl.out hlu.out HR2.out HC2.out.ofDrew (Nat.le_of_eq HZ2.out.symm) (by rw [HECS.out, IntKind.wrap_i64]; omega) (by omega))
          exact AllReadyH.nil
        exact AllReadyH.nil
      refine AllReadyH.cons rfl (fun K hK => ?_) ?_
      · go_simp
        (go_at_call 56; refine (HLAY.out _ HREP.out).mono ?_; rintro e w2 ⟨rfl, hrep2, hchg2, hsz2⟩; have hc2 := (World.cell?_of_block (hchg2.keep (w.heap.size + 1) hb1 (fun hu => by have := hl.out _ hu; omega))).trans hc1D; have hf2 := (World.frozen?_of_block (hchg2.keep (w.heap.size + 1) hb1 (fun hu => by have := hl.out _ hu; omega))).trans hf1D; have HR2 := hide hrep2; have HC2 := hide hchg2; have HZ2 := hide hsz2; clear hrep2 hchg2 hsz2)
        refine hK.out _ _ ⟨(World.cell?_of_block (HC2.out.keep w.heap.size (by show w.heap.size < W.heap.size; omega) (fun hu => by have := hl.out _ hu; omega))).trans hHeld.1, by have := HR2.out.c1; rw [HM1.out] at this; exact this⟩ (fun hHeld => ?_)
        clear hK K
        (try simp only [Act.put, List.setIfInBounds_toArray, List.set_cons_zero, List.set_cons_succ])
        refine wpAnyH_ready (rs := [0]) (by kernel_rfl) (by simp) ?_
        refine AllReadyH.cons rfl (fun K hK => ?_) ?_
        · go_simp
          refine hK.out _ _ hHeld (fun hHeld => ?_)
          clear hK K
          (try simp only [Act.put, List.setIfInBounds_toArray, List.set_cons_zero, List.set_cons_succ])
          refine wpAnyH_take (i := 13) (v := ?v14) rfl (by kernel_rfl) (by kernel_rfl) (by kernel_rfl) (fun _ _ _ h => h) (Or.inl ⟨by rfl, ?h14⟩) hHeld ?r14
          case h14 => intro w' hSw; obtain ⟨hs0, hs1⟩ := hSw; go_simp; (try with_reducible rfl)
          simp only [Act.put, List.setIfInBounds_toArray, List.set_cons_zero, List.set_cons_succ]
          refine wpAnyH_ready (rs := [14]) (by kernel_rfl) (by simp) ?_
          refine AllReadyH.cons rfl (fun K hK => ?_) ?_
          · go_simp
            refine hK.out _ _ ⟨(World.cell?_of_block (Go.heap_setCell_other _ _ _ _ (by simp))).trans hHeld.1, (World.cell?_of_block (Go.heap_setCell_other _ _ _ _ (by show L.p ≠ w.heap.size + 1; omega))).trans hHeld.2⟩ (fun hHeld => ?_)
            clear hK K
            (try simp only [Act.put, List.setIfInBounds_toArray, List.set_cons_zero, List.set_cons_succ])
            refine wpAnyH_done (by kernel_rfl) ?_ _
            exact (fun hh => ⟨hh.2, by omega, by omega, hh.1⟩) (HI.out.stored (N := W0.heap.size) (C := IntKind.i64.wrap ((cc : Int) + (d : Int))) (c' := cnt (fun j => !B.testBit (a + j)) (s' - a)) hl.out hlu.out HR2.out HC2.out.ofDrew (Nat.le_of_eq HZ2.out.symm) (by rw [HECS.out, IntKind.wrap_i64]; omega) (by omega))
          exact AllReadyH.nil
        exact AllReadyH.nil
      exact AllReadyH.nil
    exact AllReadyH.nil
  case done =>
    rintro D s W hD hE ⟨hs1, hs2, hI⟩ hK
    have es : s = a + c := by have : a + c ≤ s := hE; omega
    have hc1 : W.cell? ⟨w.heap.size + 1, 0, none⟩ = some (.int .i64 ((cnt (fun j => !B.testBit (a + j)) (s - a) : Nat) : Int)) := by rw [cell_of_row _ _ _ _ _ _ hI.b1]; rfl
    have hg : W.grownBy (W.putObj D (.deferred none)) (some D) := grownBy_putObj' W D _
    have hI2 := hI.own (N := W0.heap.size) (by omega) hg (fun r e => by cases e; exact ⟨hD, _, hK, rfl⟩)
    rw [es, show a + c - a = c by omega] at hI2 hc1
    have HI := hide hI2
    clear hI hI2 START hs1 hs2
    gi_wp2
    refine ⟨by simp, .inl ⟨_, _, rfl, run_takeDeferred hK, ?_⟩⟩
    refine ⟨_, results_tmp2 rfl _ _ _, rfl, ?_⟩
    exact ⟨HI.out.rep, HI.out.chg⟩
  case stop =>
    rintro D c W hD h hK
    exact h.elim
end Go.Proofs.YtnjlbkbhlcccmaaDoor
