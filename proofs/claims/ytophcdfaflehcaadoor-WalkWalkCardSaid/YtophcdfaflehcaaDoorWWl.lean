import Derived.Test.YtophcdfaflehcaaDoorWWk
namespace Go.Proofs.YtophcdfaflehcaaDoor
open Go.RowKit
set_option linter.unusedVariables false
set_option linter.unusedSimpArgs false
set_option maxRecDepth 20000

theorem vEqNil (W : World) (a : Addr) : (binOp .eql 49 (.pointer (some a)) (.pointer none)).run Tryd.prog W = .ok (.bool false) W := by kernel_rfl
set_option maxHeartbeats 1000000 in
theorem walk_bad {w : World} {v sv : Value} {l : List Nat} {os : List OpV} (n s : Int) (hv : WSl w v l) (hr : l.length ≤ 17592186044416) (ho : OSl w sv os) (he : nErr n s l ≠ 0) :
    Calls Tryd.prog 6 #[.int .i64 n, v, .int .i64 s, sv] w fun e w' => e = .returned (.bool true) ∧ Below w.heap.size w w' := by
  have HO := hide (ownWords_any hv hr)
  have HLT := hide hv.lt
  have HV := hide hv
  have HN : Hid (∀ w1 v1, URow w1 v1 l → Calls Tryd.prog 7 #[.int .i64 n, v1, .int .i64 s] w1 fun e w' => e = .returned (.tuple #[.pointer none, .int .i64 ((nErr n s l : Nat) : Int)]) ∧ Below w1.heap.size w1 w') := hide fun w1 v1 h1 => new_bad n s (h1.wsl HLT.out) he
  have HM : Hid (∀ W, Below w.heap.size w W → Calls Tryd.prog 17 #[.int .i64 n, v, .int .i64 s] W fun e w' => e = .returned (.tuple #[.pointer none, .int .i64 ((nErr n s l : Nat) : Int)]) ∧ w' = W) := hide fun W hW => rNew_bad n s (hv.below hW) he
  generalize nErr n s l = ee at *
  obtain ⟨a, cap, rfl, q1, q2, -⟩ := hv
  obtain ⟨oa, ocap, rfl, o1, o2, -⟩ := ho
  unfold maxLen at q2 o2
  clear he
  have HSW : Hid (∀ W v1, WSl W v1 l → Below w.heap.size w W → Calls Tryd.prog 16 #[v1, .slice a l.length cap] W fun e w' => e = .returned (.bool true) ∧ Below W.heap.size W w') := hide fun W v1 h1 hW => sameWords_any h1 (HV.out.below hW) hr
  generalize l.length = len at *
  generalize os.length = olen at *
  go_enter Tryd.func6, Tryd.ntmps6
  go_wp2_with (first
    | (go_at_call 8; refine HO.out.mono ?_; rintro e w1 ⟨v1, rfl, hU1, hB1, hN1⟩; obtain ⟨xa, xm, xc, ex⟩ : ∃ a m c, v1 = .slice a m c := (by rcases hU1.2 with ⟨e, _⟩ | ⟨g, cap, cur, e, _⟩ <;> exact ⟨_, _, _, e⟩); subst ex; have HU1 := hide (hU1.wsl HLT.out); have HUU := hide hU1; have HB1 := hide hB1; clear hU1 hB1 hN1 HO)
    | (go_at_call 7; refine (HN.out _ _ HUU.out).mono ?_; rintro e w2 ⟨rfl, hB2⟩; have HU2 := hide (HU1.out.below hB2); have HB2 := hide (HB1.out.trans (hB2.mono HB1.out.size)); clear hB2 HN)
    | (go_at_call 17; refine (HM.out _ HB2.out).mono ?_; rintro e w3 ⟨rfl, h3⟩; have h3s := h3.symm; clear h3; subst h3s; clear HM)
    | (go_at_call 16; refine (HSW.out _ _ HU2.out HB2.out).mono ?_; rintro e w4 ⟨rfl, hB4⟩; have HB4 := hide (HB2.out.trans (hB4.mono HB2.out.size)); clear hB4 HSW)
    | (go_at_call 9; refine (num_any _ _).mono ?_; rintro e w' ⟨rfl, hw'⟩; have hw2 := hw'.symm; clear hw'; subst hw2))
  go_ret
  exact ⟨rfl, HB4.out⟩
theorem looped_ww {w W : World} {p q b1 B0 : Nat} {L : List Int} (m : Int) (h : WW w W p q L) (hb : W.heap[b1]? = some (.cells #[.pointer (some ⟨p, 0, none⟩)] 23 (0, 0))) (hB : W.heap[B0]? = some (.cells #[.pointer (some ⟨p, 0, none⟩)] 23 (0, 0))) :
    Calls Tryd.prog 20 #[.func (.func 24) #[] #[.pointer (some ⟨b1, 0, none⟩)], .pointer (some ⟨p, 0, none⟩), .pointer (some ⟨q, 0, none⟩), .int .i64 m] W fun e w' => e = .returned (.bool true) ∧ ∃ L', WW w w' p q L' ∧ w'.heap[B0]? = some (.cells #[.pointer (some ⟨p, 0, none⟩)] 23 (0, 0)) :=
  (looped_any m h.wp h.wq hb).mono fun e w' ⟨g1, L', g2, g3, g4⟩ => ⟨g1, L', h.chg g2 g3 g4, (g4.keep B0 (Array.getElem?_eq_some_iff.1 hB).1 (by
    obtain ⟨lv, hr⟩ := h.wp.row
    obtain ⟨mv, hs⟩ := h.wq.row
    rintro (e | e)
    · exact neT hB hr (by decide) e
    · exact neT hB hs (by decide) e)).trans hB⟩
set_option maxHeartbeats 2000000 in
theorem walk_good {w : World} {v sv : Value} {l : List Nat} {os : List OpV} (n s : Nat) (hT : TabAt w) (hv : WSl w v l) (hr : l.length ≤ 17592186044416) (ho : OSl w sv os) (h1 : 1 ≤ n) (h2 : n ≤ 65536) (h3 : s ≤ n) (he : cwErr n l = 0) :
    Calls Tryd.prog 6 #[.int .i64 (n : Int), v, .int .i64 (s : Int), sv] w fun e w' => e = .returned (.bool true) ∧ Below w.heap.size w w' := by
  have HO := hide (ownWords_any hv hr)
  have HLT := hide hv.lt
  have HV := hide hv
  have hlen : l.length ≤ 1024 := by rw [(valW_listed h1 hv.lt he).1]; unfold nW; omega
  have HNW : Hid (∀ w1 v1, Below w.heap.size w w1 → URow w1 v1 l → Calls Tryd.prog 7 #[.int .i64 (n : Int), v1, .int .i64 (s : Int)] w1 fun e w' => ∃ p, e = .returned (.tuple #[.pointer (some ⟨p, 0, none⟩), .int .i64 0]) ∧ RS w1 w' p (wlk (valW l) n s)) := hide fun w1 v1 hb h => new_rs n s (hT.below hb) (h.wsl HLT.out) h1 h2 h3 he
  have HM : Hid (∀ W, Below w.heap.size w W → Calls Tryd.prog 17 #[.int .i64 (n : Int), v, .int .i64 (s : Int)] W fun e w' => ∃ q lv, e = .returned (.tuple #[.pointer (some ⟨q, 0, none⟩), .int .i64 0]) ∧ VR w' q lv (wlk (valW l) n s) ∧ Below W.heap.size W w' ∧ W.heap.size ≤ q) := hide fun W hW => (rNew_any n s (hv.below hW) h1 h2 h3 he).mono fun e w' ⟨q, lv, g1, g2, g3, g4, _⟩ => ⟨q, lv, g1, g2, g3, g4⟩
  generalize wlk (valW l) n s = wl at *
  have HOS : Hid (∀ x, Below w.heap.size w x → OSl x sv os) := hide fun x hx => ho.below hx
  obtain ⟨a, cap, rfl, q1, q2, -⟩ := hv
  obtain ⟨oa, ocap, rfl, o1, o2, -⟩ := ho
  unfold maxLen at q2 o2
  clear he hT
  have hpe := pEqNil
  have hve := vEqNil
  have HSW : Hid (∀ W v1, WSl W v1 l → Below w.heap.size w W → Calls Tryd.prog 16 #[v1, .slice a l.length cap] W fun e w' => e = .returned (.bool true) ∧ Below W.heap.size W w') := hide fun W v1 h1 hW => sameWords_any h1 (HV.out.below hW) hr
  have HZL : Hid (∀ W v1, URow W v1 l → ZRow W v1 l.length) := hide fun W v1 h => h.z
  clear HV
  generalize l.length = len at *
  generalize hN : os.length = N at *
  have HNN := hide hN
  clear hN
  go_enter Tryd.func6, Tryd.ntmps6
  go_wp2_with (first
    | (go_at_call 8; refine HO.out.mono ?_; rintro e w1 ⟨v1, rfl, hU1, hB1, hN1⟩; obtain ⟨xa, xc, ex, x1, x2⟩ := (HZL.out _ _ hU1).form; subst ex; have HUU := hide hU1; have HB1 := hide hB1; have HX1 := hide hN1; clear hU1 hB1 hN1 HO)
    | (go_at_call 7; refine (HNW.out _ _ HB1.out HUU.out).mono ?_; rintro e w2 ⟨p, rfl, hR2⟩; have HU2 := hide ((HUU.out.wsl HLT.out).below hR2.bel); have HZ2 := hide ((HZL.out _ _ HUU.out).kept fun g e => hR2.bel.block g ((HZL.out _ _ HUU.out).loc e)); have HB2 := hide (HB1.out.trans (hR2.bel.mono HB1.out.size)); have HP2 := hide hR2.wx; clear hR2 HNW)
    | (go_at_call 17; refine (HM.out _ HB2.out).mono ?_; rintro e w3 ⟨q, lvq, rfl, hQ3, hB3, lq3⟩; have HU3 := hide (HU2.out.below hB3); have HZ3 := hide (HZ2.out.kept fun g e => hB3.block g (HZ2.out.loc e)); have HW3 : Hid (WW w w3 p q wl) := hide ⟨HB2.out.trans (hB3.mono HB2.out.size), (HP2.out.1.on hB3).mono fun _ _ _ => trivial, ⟨lvq, hQ3, fun _ _ => trivial⟩, (by have := HP2.out.2; have := HB1.out.size; omega), (by have := HB2.out.size; omega)⟩; clear hQ3 hB3 lq3 HM)
    | (go_at_call 16; refine (HSW.out _ _ HU3.out HW3.out.bel).mono ?_; rintro e w4 ⟨rfl, hB4⟩; have HW4 := hide (HW3.out.on hB4); have HZ4 := hide (HZ3.out.kept fun g e => hB4.block g (HZ3.out.loc e)); clear hB4 HSW)
    | (go_at_call 9; refine (num_any _ _).mono ?_; rintro e w' ⟨rfl, hw'⟩; have hw2 := hw'.symm; clear hw'; subst hw2))
  have HX : Hid (∀ g off, xa = some ⟨g, off, none⟩ → w.heap.size ≤ g) := hide fun g off e => HX1.out g (by rw [e]; rfl)
  clear HX1 HU2 HU3 HUU HZ2 HZ3 HB1 HB2 HP2 HW3 HZL HLT
  go_loopw [14] (fun y wr => ∃ i : Nat, i ≤ len ∧ y = .int .i64 (i : Int) ∧ WW w wr p q wl ∧ ZRow wr (.slice xa len xc) len) (fun y _ => len - (intOf y).toNat)
  case atStart => exact ⟨0, Nat.zero_le _, rfl, HW4.out, HZ4.out⟩
  case round =>
    obtain ⟨i, hi, rfl, hW, hZ⟩ := hrel
    have HW := hide hW
    have HZ := hide hZ
    clear hW hZ HW4 HZ4
    by_cases hlt : i < len
    · obtain ⟨g, cp, z, cs, ev, k1, k2, hg, hc, hset⟩ := HZ.out.at hlt
      simp only [Value.slice.injEq] at ev
      obtain ⟨rfl, -, rfl⟩ := ev
      have HG := hide hg
      have HSET := hide hset
      have hf : wr.frozen? ⟨g, i, none⟩ = false := frozen_of_row _ _ _ _ _ hg
      have hii : 0 ≤ (i : Int) ∧ (i : Int) < (len : Int) := ⟨by omega, by omega⟩
      unfold maxLen at k2
      have HXG := HX.out g 0 rfl
      clear hg hset
      go_wp2_with fail
      go_roundw
      case rel => exact ⟨i + 1, by omega, by go_num, HW.out.set HG.out HXG _, HSET.out _⟩
      case measure => simp [intOf]; omega
    · have hnl : ¬ (i : Int) < (len : Int) := by omega
      have HR0 := hide HW.out.bel
      go_wp2_with (go_at_call 13; refine (Rest_any _ _).mono ?_; rintro e w' ⟨rfl, rfl⟩)
      have HB0 : Hid ((wr.alloc (Obj.cells #[Value.pointer (some ⟨p, 0, none⟩)] 23)).heap[wr.heap.size]? = some (.cells #[.pointer (some ⟨p, 0, none⟩)] 23 (0, 0))) := hide (Go.heap_alloc_new wr _)
      have HWA := hide (HW.out.on ((Below.refl _ _).alloc (Nat.le_refl _) (Obj.cells #[Value.pointer (some ⟨p, 0, none⟩)] 23)))
      generalize wr.alloc (Obj.cells #[Value.pointer (some ⟨p, 0, none⟩)] 23) = wA at *
      generalize wr.heap.size = B0 at *
      clear HW HZ HR0
      go_loopw [16] (fun y W => ∃ (i : Nat) (L : List Int), i ≤ N ∧ y = .int .i64 (i : Int) ∧ WW w W p q L ∧ W.heap[B0]? = some (.cells #[.pointer (some ⟨p, 0, none⟩)] 23 (0, 0))) (fun y _ => N - (intOf y).toNat)
      case atStart => exact ⟨0, wl, Nat.zero_le _, rfl, HWA.out, HB0.out⟩
      case round =>
        obtain ⟨j, L, hj, rfl, hW, hB⟩ := hrel
        have HW := hide hW
        have HB := hide hB
        clear hW hB HWA HB0
        by_cases hjN : j < N
        · obtain ⟨a', c', e', -, -, hc'⟩ := HOS.out wr HW.out.bel
          obtain ⟨g, off, ea, hce⟩ := hc' (by rw [HNN.out]; omega)
          obtain ⟨e0, e1⟩ := hce j (by rw [HNN.out]; omega)
          simp only [Value.slice.injEq] at e'
          obtain ⟨rfl, -, -⟩ := e'
          subst ea
          have hjj : 0 ≤ (j : Int) ∧ (j : Int) < (N : Int) := ⟨by omega, by omega⟩
          have HCE : Hid (∀ x, Below w.heap.size w x → x.cell? ⟨g, off + j * 2 + 1, none⟩ = some (.int .i64 (os.getD j default).n)) := hide fun x hx => by
            obtain ⟨a2, c2, e2, -, -, hc2⟩ := HOS.out x hx
            obtain ⟨g2, off2, ea2, hce2⟩ := hc2 (by rw [HNN.out]; omega)
            simp only [Value.slice.injEq] at e2
            obtain ⟨rfl, -, -⟩ := e2
            simp only [Option.some.injEq, Addr.mk.injEq] at ea2
            obtain ⟨rfl, rfl, -⟩ := ea2
            exact (hce2 j (by rw [HNN.out]; omega)).2
          generalize os.getD j default = sop at *
          obtain ⟨kind, nn⟩ := sop
          dsimp only at e0 e1 HCE
          clear hc' hce
          by_cases k0 : kind = 0
          · subst k0
            cases L with
            | nil =>
              have HX1 := hide HW.out.wp.nextN
              have HX2 := hide HW.out.wq.nextN
              go_wp2_with (first
                | (go_at_call 12; refine HX1.out.mono ?_; rintro e wa ⟨rfl, ha⟩; have ha2 := ha.symm; clear ha; subst ha2; clear HX1)
                | (go_at_call 18; refine HX2.out.mono ?_; rintro e wb ⟨rfl, hb⟩; have hb2 := hb.symm; clear hb; subst hb2; clear HX2)
                | (go_at_call 9; refine (num_any _ _).mono ?_; rintro e w' ⟨rfl, hw'⟩; have hw2 := hw'.symm; clear hw'; subst hw2))
              go_roundw
              case rel => exact ⟨j + 1, [], by omega, by go_num, HW.out, HB.out⟩
              case measure => simp [intOf]; omega
            | cons x r =>
              have HX1 := hide (WW.nextP HW.out.bel HW.out.lp HW.out.wp HW.out.wq)
              have HKB : Hid (∀ W1 W2, Chg (fun k => k = p) wr W1 → Chg (fun k => k = q) W1 W2 → VX W1 (fun _ => True) q (x :: r) → W2.heap[B0]? = some (.cells #[.pointer (some ⟨p, 0, none⟩)] 23 (0, 0))) := hide fun W1 W2 c1 c2 hq1 => by
                obtain ⟨lv, hr⟩ := HW.out.wp.row
                obtain ⟨mv, hs⟩ := hq1.row
                have hb1 := (c1.keep B0 (Array.getElem?_eq_some_iff.1 HB.out).1 (neT HB.out hr (by decide))).trans HB.out
                exact (c2.keep B0 (Array.getElem?_eq_some_iff.1 hb1).1 (neT hb1 hs (by decide))).trans hb1
              go_wp2_with (first
                | (go_at_call 12; refine HX1.out.mono ?_; rintro e wa ⟨rfl, hp1, hq1, hB1, hC1⟩; have HX2 := hide (WW.nextQ hB1 HW.out.lq hp1 hq1); have HC1 := hide hC1; have HQ1 := hide hq1; clear hp1 hq1 hB1 hC1 HX1)
                | (go_at_call 18; refine HX2.out.mono ?_; rintro e wb ⟨rfl, hp2, hq2, hB2, hC2⟩; have HW2 : Hid (WW w wb p q r) := hide ⟨hB2, hp2, hq2, HW.out.lp, HW.out.lq⟩; have HB2 := hide (HKB.out _ _ HC1.out hC2 HQ1.out); clear hp2 hq2 hB2 hC2 HX2)
                | (go_at_call 9; refine (num_any _ _).mono ?_; rintro e w' ⟨rfl, hw'⟩; have hw2 := hw'.symm; clear hw'; subst hw2))
              go_roundw
              case rel => exact ⟨j + 1, r, by omega, by go_num, HW2.out, HB2.out⟩
              case measure => simp [intOf]; omega
          · have k0' : (kind == 0) = false := by simpa using k0
            by_cases k1 : kind = 1
            · subst k1
              clear k0 k0'
              have HX1 := hide HW.out.wp.left
              have HX2 := hide HW.out.wq.left
              generalize L.length = LL at *
              go_wp2_with (first
                | (go_at_call 11; refine HX1.out.mono ?_; rintro e wa ⟨rfl, ha⟩; have ha2 := ha.symm; clear ha; subst ha2; clear HX1)
                | (go_at_call 19; refine HX2.out.mono ?_; rintro e wb ⟨rfl, hb⟩; have hb2 := hb.symm; clear hb; subst hb2; clear HX2))
              go_roundw
              case rel => exact ⟨j + 1, L, by omega, by go_num, HW.out, HB.out⟩
              case measure => simp [intOf]; omega
            · have k1' : (kind == 1) = false := by simpa using k1
              by_cases k2 : kind = 2
              · subst k2
                clear k0 k0' k1 k1'
                go_wp2_with fail
                go_region_held3 (fun w' => w'.cell? ⟨g, off + j * 2 + 1, none⟩ = some (.int .i64 nn)) (first | assumption | go_keep)
                  (first
                  | (go_at_call 13; refine (Rest_any _ _).mono ?_; rintro e w8 ⟨rfl, h8⟩; have hb8 : Below wr.heap.size wr w8 := (by rw [h8]; exact (Below.refl _ _).drew.alloc (Nat.le_refl _) _); have hn8 : w8.heap[wr.heap.size]? = some (.cells #[.pointer (some ⟨p, 0, none⟩)] 23 (0, 0)) := (by rw [h8]; exact Go.heap_alloc_new wr.drew _); have s8 := HCE.out _ (HW.out.on hb8).bel; have HX8 := hide (looped_ww (B0 := B0) nn (HW.out.on hb8) hn8 ((hb8.block B0 (Array.getElem?_eq_some_iff.1 HB.out).1).trans HB.out)); clear h8 hb8 hn8)
                  | (go_at_call 20; refine HX8.out.mono ?_; rintro e wa ⟨rfl, L', hW2, hB2⟩; have s9 := HCE.out _ hW2.bel; have HW2 := hide hW2; have HB2 := hide hB2; clear hW2 hB2 HX8))
                go_wp2_with fail
                go_roundw
                case rel => exact ⟨j + 1, L', by omega, by go_num, HW2.out, HB2.out⟩
                case measure => simp [intOf]; omega
              · have k2' : (kind == 2) = false := by simpa using k2
                by_cases k3 : kind = 3
                · subst k3
                  clear k0 k0' k1 k1' k2 k2'
                  have HX := hide (looped_ww nn HW.out HB.out HB.out)
                  go_wp2_with (go_at_call 20; refine HX.out.mono ?_; rintro e wa ⟨rfl, L', hW2, hB2⟩; have HW2 := hide hW2; have HB2 := hide hB2; clear hW2 hB2 HX)
                  go_roundw
                  case rel => exact ⟨j + 1, L', by omega, by go_num, HW2.out, HB2.out⟩
                  case measure => simp [intOf]; omega
                · have k3' : (kind == 3) = false := by simpa using k3
                  clear k0 k1 k2 k3
                  go_wp2_with fail
                  go_roundw
                  case rel => exact ⟨j + 1, L, by omega, by go_num, HW.out, HB.out⟩
                  case measure => simp [intOf]; omega
        · have hnl2 : ¬ (j : Int) < (N : Int) := by omega
          have HX1 := hide HW.out.wp.left
          have HX2 := hide HW.out.wq.left
          generalize L.length = LL at *
          go_wp2_with (first
            | (go_at_call 11; refine HX1.out.mono ?_; rintro e wa ⟨rfl, ha⟩; have ha2 := ha.symm; clear ha; subst ha2; clear HX1)
            | (go_at_call 19; refine HX2.out.mono ?_; rintro e wb ⟨rfl, hb⟩; have hb2 := hb.symm; clear hb; subst hb2; clear HX2))
          go_ret
          exact ⟨by simp, HW.out.bel⟩
end Go.Proofs.YtophcdfaflehcaaDoor
