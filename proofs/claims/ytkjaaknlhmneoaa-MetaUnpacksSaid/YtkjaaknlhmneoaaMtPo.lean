import Derived.Test.YtkjaaknlhmneoaaMtMk
namespace Go.Proofs.Ytkjaaknlhmneoaa
open Go.RowKit
open Num
set_option linter.unusedVariables false
set_option linter.unusedSimpArgs false
set_option maxRecDepth 20000

theorem PB.fits {w : World} {O m s : Nat} {B : Nat → List Nat} (h : PB w O m s B) (hm : 0 < m) : O + 1 + m ≤ w.heap.size := by
  have := (Array.getElem?_eq_some_iff.1 (h.blk (m - 1) (by omega))).1
  omega
/-- the law behind its first question -/
structure PQ (w x : World) (v : Value) (ws : List Nat) (O1 O2 : Nat) (rv : Value) (m s : Nat) (B : Nat → List Nat) : Prop where
  pw : PW w x v ws
  pl : PB x O1 m s B
  pt : PB x O2 m s B
  rr : RBB (O2 + 1 + m) x rv m s B
  o1 : w.heap.size < O1
  o2 : O1 + 1 + m ≤ O2
theorem PQ.step {w x y : World} {v : Value} {ws : List Nat} {O1 O2 : Nat} {rv : Value} {m s : Nat} {B : Nat → List Nat} (h : PQ w x v ws O1 O2 rv m s B) (hm : 0 < m) (hb : Below x.heap.size x y) : PQ w y v ws O1 O2 rv m s B :=
  ⟨h.pw.step hb, h.pl.below hb, h.pt.below hb, h.rr.below hb, h.o1, h.o2⟩
/-- .. and behind the marks -/
structure PR (w x : World) (v : Value) (ws : List Nat) (O2 : Nat) (rv : Value) (m s : Nat) (B : Nat → List Nat) : Prop where
  pw : PW w x v ws
  pt : PB x O2 m s B
  rr : RBB (O2 + 1 + m) x rv m s B
theorem PR.step {w x y : World} {v : Value} {ws : List Nat} {O2 : Nat} {rv : Value} {m s : Nat} {B : Nat → List Nat} (h : PR w x v ws O2 rv m s B) (hm : 0 < m) (hb : Below x.heap.size x y) : PR w y v ws O2 rv m s B :=
  ⟨h.pw.step hb, h.pt.below hb, h.rr.below hb⟩
theorem PQ.marked {w x wr : World} {v : Value} {ws : List Nat} {O1 O2 : Nat} {rv : Value} {m s k : Nat} {B : Nat → List Nat} (h : PQ w x v ws O1 O2 rv m s B) (hm : 0 < m) (hv : USl w v ws) (hk : MK x wr O1 m s k B) : PR w wr v ws O2 rv m s B := by
  have f1 := h.pl.fits hm
  have f2 := h.pt.fits hm
  have o1 := h.o1
  have o2 := h.o2
  have hx := h.pw.bel
  have hb : Below w.heap.size w wr := ⟨hk.os.trans hx.os, hk.tape.trans hx.tape, hk.output.trans hx.output, Nat.le_trans hx.size hk.size, fun b hb => (hk.keep b (by omega) (.inl (by omega))).trans (hx.block b hb)⟩
  exact ⟨⟨hv.below hb, (hk.keep _ (by omega) (.inl o1)).trans h.pw.row, hb⟩, h.pt.kept fun b h1 h2 => hk.keep b (by omega) (.inr (by omega)), h.rr.stay hk.size fun b h1 h2 => hk.keep b h2 (.inr (by omega))⟩
set_option maxHeartbeats 4000000 in
theorem packs_ok (w : World) (n s : Nat) (v : Value) (ws : List Nat) (hv : USl w v ws) (hs : okSz (s : Int) = true) (h1 : 1 ≤ n) (h2 : n ≤ 65536) (hl : ws.length = (n + 63) / 64) (hlast : ws.getD ((n + 63) / 64 - 1) 0 < 2 ^ lr n) :
    Calls Try.prog 7 #[.int .i64 (n : Int), v, .int .i64 (s : Int)] w fun e w' => e = .returned (.bool true) ∧ Below w.heap.size w w' := by
  have hsb := okSz_pos hs
  have hln : ws.length ≤ 1024 := by omega
  have hws : ∀ i, i < ws.length → ws.getD i 0 < 18446744073709551616 := fun i hi => by
    obtain ⟨_, _, _, _, _, q, _⟩ := id hv
    exact q _ (by rw [List.getD_eq_getElem?_getD, List.getElem?_eq_getElem hi]; exact List.getElem_mem hi)
  have hu := under_bits hl h1 hws hlast
  have HH := hide (handWords_any w v ws hv (by omega))
  have HA := hide fun y (h : PW w y v ws) => argWords_any (w := y) (g := w.heap.size) h.us h.row (by omega)
  have HT := hide fun y (h : PW w y v ws) => untouchedWords_any (w := y) (g := w.heap.size) h.us h.row (by omega)
  have HP := hide fun y u (h : USl y u ws) => pack_ok y n s u ws h hs h1 h2 hl (andNot_lm hlast)
  have HZ := hide fun y u (h : USl y u (List.replicate ws.length 0)) => pack_ok y n s u (List.replicate ws.length 0) h hs h1 h2 (by simpa using hl) (andNot_lm (by
    have : (List.replicate ws.length 0).getD ((n + 63) / 64 - 1) 0 = 0 := by
      rw [List.getD_eq_getElem?_getD]
      cases e : (List.replicate ws.length 0)[(n + 63) / 64 - 1]? with
      | none => rfl
      | some z => exact List.eq_of_mem_replicate (List.mem_of_getElem? e)
    rw [this]; exact Nat.pow_pos (by decide)))
  have HF := hide fun y (h : USl y v ws) => rpack_ok y n s v ws h hs h1 h2 hl hu
  have HBL : Hid (∀ k, (bkT ws s (ws.length * 8) k).length = s) := hide fun k => bkT_len _ _ _ _
  have hm : 0 < (n - 1) / (8 * s) + 1 := Nat.succ_pos _
  have hm2 : (n - 1) / (8 * s) + 1 ≤ 65536 := by have := Nat.div_le_self (n - 1) (8 * s); omega
  have hs1 : 0 < s ∧ s ≤ 1024 := by omega
  have HSB := hide fun y u z (hu : RB y u ((n - 1) / (8 * s) + 1) s (bkT ws s (ws.length * 8))) (hz : RB y z ((n - 1) / (8 * s) + 1) s (bkT ws s (ws.length * 8))) => sameBlocks_eq y u z _ s _ hu hz (fun k _ => HBL.out k) hs1.2
  obtain ⟨Z, hZZ⟩ : ∃ Z, ((List.replicate ws.length 0).map u64v).toArray = Z := ⟨_, rfl⟩
  have hmk := fun W => made_wordsL ws.length (by omega) W
  have HUM := hide fun W => USl.made W ws.length (by unfold maxLen; omega)
  rw [hZZ] at hmk HUM
  have HUS := hide hv
  generalize (n - 1) / (8 * s) + 1 = m at *
  generalize bkT ws s (ws.length * 8) = B at *
  obtain ⟨a, cap, rfl, q1, q2, q3, q4⟩ := id hv
  have HUV := hide hv
  clear hZZ q1 q2 q3 q4 hv hs hl hlast hws hu h1 h2 hsb
  generalize hLL : ws.length = L at *
  clear hLL
  go_enter Try.func7, Try.ntmps7
  go_wp2_with (first
    | (go_at_call 20; refine HH.out.mono ?_; rintro e y1 ⟨rfl, hr1, hb1⟩; have W1 : Hid (PW w y1 (.slice a L cap) ws) := hide ⟨HUS.out.below hb1, hr1, hb1⟩; clear hr1 hb1 HH HUS)
    | (go_at_call 21; refine (HA.out _ W1.out).mono ?_; rintro e z1 ⟨u1, rfl, hz1, hu1⟩; have hws := hz1.symm; clear hz1; subst hws; have U1 := hide hu1; clear hu1)
    | (go_at_call 15; refine (HP.out _ _ U1.out).mono ?_; rintro e y2 ⟨O1, rfl, hp2, ho2, hb⟩; have W2 := hide (W1.out.step hb); have L2 := hide hp2; have N2 : Hid (w.heap.size < O1) := hide (by have := (Array.getElem?_eq_some_iff.1 W1.out.row).1; omega); clear hp2 ho2 hb U1 W1)
    | (go_at_call 21; refine (HA.out _ W2.out).mono ?_; rintro e z2 ⟨u2, rfl, hz2, hu2⟩; have hws := hz2.symm; clear hz2; subst hws; have U2 := hide hu2; clear hu2)
    | (go_at_call 15; refine (HP.out _ _ U2.out).mono ?_; rintro e y3 ⟨O2, rfl, hp3, ho3, hb⟩; have W3 := hide (W2.out.step hb); have L3 := hide (L2.out.below hb); have T3 := hide hp3; have N3 : Hid (O1 + 1 + m ≤ O2) := hide (by have := L2.out.fits hm; omega); clear hp3 ho3 hb U2 W2 L2)
    | (go_at_call 15; refine (HZ.out _ _ (HUM.out y3)).mono ?_; rintro e y4 ⟨O3, rfl, _, _, hb⟩; have hbz := (Below.refl y3.heap.size y3).alloc (Nat.le_refl _) (.cells Z 43); have W4 := hide ((W3.out.step hbz).step hb); have L4 := hide ((L3.out.below hbz).below hb); have T4 := hide ((T3.out.below hbz).below hb); clear hb hbz W3 HZ HUM L3 T3)
    | (go_at_call 22; refine (HF.out _ W4.out.us).mono ?_; rintro e y5 ⟨rv, rfl, hr5, hb⟩; obtain ⟨rO, rcap, hrv, r1, r2, r3, r4, r5⟩ := id hr5; have Q5 : Hid (PQ w y5 (.slice a L cap) ws O1 O2 rv m s B) := hide ⟨W4.out.step hb, L4.out.below hb, T4.out.below hb, (by have hf := T4.out.fits hm; obtain ⟨O, c, g1, g2, g3, g4, g5, g6⟩ := hr5; exact ⟨O, c, g1, g2, g3, by omega, g5, fun k hk => by obtain ⟨g, e1, e2, e3⟩ := g6 k hk; exact ⟨g, by omega, e2, e3⟩⟩), N2.out, N3.out⟩; subst hrv; clear hr5 hb W4 L4 T4 HF N2 N3 r1 r2 r3 r4 r5)
    | (go_at_call 23; refine (HSB.out _ _ _ (Q5.out.pl.rb (by omega)) Q5.out.rr.rb).mono ?_; rintro e y6 ⟨rfl, q6, hy6⟩; have Q6 := hide (Q5.out.step (y := y6) hm (by rw [hy6]; exact ⟨rfl, rfl, rfl, Nat.le_refl _, fun _ _ => rfl⟩)); clear hy6 Q5)
    | (go_at_call 23; refine (HSB.out _ _ _ (Q6.out.pt.rb (by omega)) Q6.out.rr.rb).mono ?_; rintro e y7 ⟨rfl, q7, hy7⟩; have Q7 := hide (Q6.out.step (y := y7) hm (by rw [hy7]; exact ⟨rfl, rfl, rfl, Nat.le_refl _, fun _ _ => rfl⟩)); clear hy7 Q6)
    | (go_at_call 24; refine (HT.out _ Q7.out.pw).mono ?_; rintro e y8 ⟨rfl, q8, hy8⟩; have Q8 := hide (Q7.out.step (y := y8) hm (by rw [hy8]; exact ⟨rfl, rfl, rfl, Nat.le_refl _, fun _ _ => rfl⟩)); clear hy8 Q7 HT))
  have HM0 := hide (MK.start Q8.out.pl hm)
  go_loopw [14] (fun x wr => ∃ k : Nat, k ≤ m ∧ x = .int .i64 (k : Int) ∧ MK y8 wr O1 m s k B) (fun x _ => m - (intOf x).toNat)
  case atStart => exact ⟨0, Nat.zero_le _, rfl, HM0.out⟩
  case round =>
    obtain ⟨k, hk, rfl, hmk'⟩ := hrel
    have HM := hide hmk'
    clear hmk' HM0
    by_cases hkm : k < m
    · have k1 : (k : Int) < (m : Int) := by omega
      have hcv : IntKind.u8.wrap ((k : Int) + 1) = ((mk8 k : Nat) : Int) := by unfold mk8; simp [IntKind.wrap, IntKind.bits, IntKind.signed]
      have hcv2 : ((k : Int) + 1) % 256 = ((mk8 k : Nat) : Int) := by unfold mk8; omega
      have hmk8 : mk8 k < 256 := Nat.mod_lt _ (by decide)
      have HJ0 := hide (MJ.start HM.out hkm)
      go_wp2_with fail
      go_loopw [15] (fun x wr => ∃ j : Nat, j ≤ s ∧ x = .int .i64 (j : Int) ∧ MJ y8 wr O1 m s k j B) (fun x _ => s - (intOf x).toNat)
      case atStart => exact ⟨0, Nat.zero_le _, rfl, HJ0.out⟩
      case round =>
        obtain ⟨j, hj, rfl, hmj⟩ := hrel
        have HJ := hide hmj
        clear hmj HJ0
        have c0 := HJ.out.row hkm
        by_cases hjs : j < s
        · have j1 : (j : Int) < (s : Int) := by omega
          obtain ⟨_, ⟨cc, c1⟩, c2⟩ := HJ.out.cells hkm (HBL.out k) hjs
          have HJ2 := hide (HJ.out.put (HBL.out k) hjs)
          go_wp2_with fail
          go_roundw
          case rel => exact ⟨j + 1, by omega, by go_num, by first | exact HJ2.out | (rw [hcv2]; exact HJ2.out) | (rw [hcv]; exact HJ2.out)⟩
          case measure => simp [intOf]; omega
        · obtain rfl : s = j := by omega
          have HOW := hide (HJ.out.own (HBL.out k) hs1.2)
          have HG := hide (grown_any wr _ _ (mk8 k) hmk8 (by simp; omega) HOW.out)
          go_wp2_with (go_at_call 25; refine HG.out.mono ?_; rintro e z ⟨u, rfl, hg⟩; have HGR := hide hg; have hzo : z.heap[O1]? = wr.heap[O1]? := hg.gr.block O1 (by have := HM.out.inx; obtain ⟨⟨y0, e1, e2, e3, e4, e5, e6⟩, e7⟩ := HJ.out; have := e1.inx; have := e1.size; omega) (by simp [Value.ownBlock]; omega); have cz := (World.cell?_of_block (a := ⟨O1, k, none⟩) hzo).trans c0; have fz : z.frozen? ⟨O1, k, none⟩ = false := (by obtain ⟨⟨y0, e1, e2, e3, e4, e5, e6⟩, e7⟩ := HJ.out; exact (World.frozen?_of_block (a := ⟨O1, k, none⟩) (hzo.trans (e6 O1 (by omega)))).trans (e1.cell hkm).2); obtain ⟨ua, uc, hua, _⟩ := id hg.own.bsl; rw [List.length_append, List.length_replicate, List.length_replicate] at hua; subst hua; clear hg hzo HG HOW)
          go_roundw
          case rel => exact ⟨k + 1, by omega, by go_num, HJ.out.next hkm HGR.out⟩
          case measure => simp [intOf]; omega
    · obtain rfl : m = k := by omega
      have HPR := hide (Q8.out.marked hm HUV.out HM.out)
      have HDN := hide HM.out.done
      clear HM Q8
      have HDC : Hid (∀ i, i < m → ∃ g c, wr.cell? ⟨O1, i, none⟩ = some (.slice (some ⟨g, 0, none⟩) (s + 90) c) ∧ ∀ j, j < s + 90 → wr.cell? ⟨g, j, none⟩ = some (.int .u8 (mk8 i : Nat))) := hide fun i hi => by
        obtain ⟨u, d1, d2, _⟩ := HDN.out i hi
        obtain ⟨g, c, e, _, _, _, _⟩ := d2.shape (by simp)
        rw [List.length_replicate] at e
        refine ⟨g, c, by rw [d1, e], fun j hj => ?_⟩
        have hb := d2.bsl
        rw [e] at hb
        have := hb.news j (.int .u8 (mk8 i : Nat)) (by rw [List.getElem?_map, List.getElem?_replicate, if_pos hj]; rfl)
        rw [Addr.add_lit, Nat.zero_add] at this
        exact this
      clear HDN
      go_wp2_with fail
      go_loopw [16] (fun x wr' => ∃ i : Nat, i ≤ m ∧ x = .int .i64 (i : Int) ∧ wr' = wr) (fun x _ => m - (intOf x).toNat)
      case atStart => exact ⟨0, Nat.zero_le _, rfl, rfl⟩
      case round =>
        obtain ⟨i, hi, rfl, hwr⟩ := hrel
        have hws := hwr.symm
        subst hws
        clear hwr
        by_cases him : i < m
        · have i1 : (i : Int) < (m : Int) := by omega
          obtain ⟨g, c, d1, d2⟩ := HDC.out i him
          have HD2 := hide d2
          clear d2
          have hcv : IntKind.u8.wrap ((i : Int) + 1) = ((mk8 i : Nat) : Int) := by unfold mk8; simp [IntKind.wrap, IntKind.bits, IntKind.signed]
          have hcv2 : ((i : Int) + 1) % 256 = ((mk8 i : Nat) : Int) := by unfold mk8; omega
          generalize mk8 i = mi at *
          have hne : ((mi : Int) != (mi : Int)) = false := by simp
          go_wp2_with fail
          go_loopw [17] (fun x wr' => ∃ j : Nat, j ≤ s + 90 ∧ x = .int .i64 (j : Int) ∧ wr' = wr) (fun x _ => s + 90 - (intOf x).toNat)
          case atStart => exact ⟨0, Nat.zero_le _, rfl, rfl⟩
          case round =>
            obtain ⟨j, hj, rfl, hwr⟩ := hrel
            have hws := hwr.symm
            subst hws
            clear hwr
            by_cases hjs : j < s + 90
            · have j1 : (j : Int) < (s : Int) + 90 := by omega
              have d3 := HD2.out j hjs
              go_wp2_with fail
              go_roundw
              case rel => exact ⟨j + 1, by omega, by go_num, by trivial⟩
              case measure => simp [intOf]; omega
            · have j1 : ¬ (j : Int) < (s : Int) + 90 := by omega
              go_wp2_with fail
              go_roundw
              case rel => exact ⟨i + 1, by omega, by go_num, by trivial⟩
              case measure => simp [intOf]; omega
        · obtain rfl : m = i := by omega
          clear HDC
          go_wp2_with (first
            | (go_at_call 21; refine (HA.out _ HPR.out.pw).mono ?_; rintro e z1 ⟨u1, rfl, hz1, hu1⟩; have hws := hz1.symm; clear hz1; subst hws; have U1 := hide hu1; clear hu1)
            | (go_at_call 15; refine (HP.out _ _ U1.out).mono ?_; rintro e x2 ⟨O4, rfl, hp2, ho2, hb⟩; have R2 := hide (HPR.out.step hm hb); have L2 := hide hp2; clear hp2 ho2 hb U1 HPR)
            | (go_at_call 23; refine (HSB.out _ _ _ (L2.out.rb (by omega)) R2.out.rr.rb).mono ?_; rintro e x3 ⟨rfl, q3, hx3⟩; have R3 := hide (R2.out.step (y := x3) hm (by rw [hx3]; exact ⟨rfl, rfl, rfl, Nat.le_refl _, fun _ _ => rfl⟩)); clear hx3 R2 L2)
            | (go_at_call 23; refine (HSB.out _ _ _ (R3.out.pt.rb (by omega)) R3.out.rr.rb).mono ?_; rintro e x4 ⟨rfl, q4, hx4⟩; have R4 := hide (R3.out.step (y := x4) hm (by rw [hx4]; exact ⟨rfl, rfl, rfl, Nat.le_refl _, fun _ _ => rfl⟩)); clear hx4 R3))
          go_ret
          exact ⟨by first | rfl | (simp; done), R4.out.pw.bel⟩
end Go.Proofs.Ytkjaaknlhmneoaa
