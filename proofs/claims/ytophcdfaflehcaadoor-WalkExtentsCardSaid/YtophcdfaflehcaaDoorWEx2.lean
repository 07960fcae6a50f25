import Derived.Test.YtophcdfaflehcaaDoorWEx1
namespace Go.Proofs.YtophcdfaflehcaaDoor
open Go.RowKit Go.Shelf
attribute [local go_sem] Oper.semAt_some
set_option linter.unusedVariables false
set_option linter.unusedSimpArgs false
set_option maxRecDepth 20000

/-- Extents' boxes: of the error, of the bitmap, of n -/
structure EB (W : World) (be bm bn : Nat) (n : Nat) (L : BL) (B : Nat) : Prop where
  rep : BRep W L n B
  tab : TabAt W
  be : W.heap[be]? = some (.cells #[.int .i64 0] 24 (0, 0))
  bm : W.heap[bm]? = some (.cells #[PB L] 56 (0, 0))
  bn : W.heap[bn]? = some (.cells #[.int .i64 (n : Int)] 3 (0, 0))
theorem EB.kept {W W' : World} {be bm bn n : Nat} {L : BL} {B : Nat} (h : EB W be bm bn n L B) (hk : ∀ (b : Nat) (cs : Array Value) (t : TypeId), W.heap[b]? = some (.cells cs t (0, 0)) → (L.U b ∨ b = be ∨ b = bm ∨ b = bn ∨ b = 0) → W'.heap[b]? = some (.cells cs t (0, 0))) (ht : W'.heap[0]? = W.heap[0]?) : EB W' be bm bn n L B :=
  ⟨h.rep.kept fun b hu => by
    rcases hu with rfl | rfl | rfl
    · rw [hk _ _ _ h.rep.hp (.inl (.inl rfl)), h.rep.hp]
    · rw [hk _ _ _ h.rep.hlo (.inl (.inr (.inl rfl))), h.rep.hlo]
    · rw [hk _ _ _ h.rep.hhi (.inl (.inr (.inr rfl))), h.rep.hhi], h.tab.of ht, hk _ _ _ h.be (by simp), hk _ _ _ h.bm (by simp), hk _ _ _ h.bn (by simp)⟩
theorem EB.on {W W' : World} {be bm bn n : Nat} {L : BL} {B : Nat} (h : EB W be bm bn n L B) (hb : Below W.heap.size W W') : EB W' be bm bn n L B :=
  ⟨h.rep.below hb, h.tab.below hb, (hb.block _ (Array.getElem?_eq_some_iff.1 h.be).1).trans h.be, (hb.block _ (Array.getElem?_eq_some_iff.1 h.bm).1).trans h.bm, (hb.block _ (Array.getElem?_eq_some_iff.1 h.bn).1).trans h.bn⟩
def exEnc (x : Nat × Nat) : Array Value := #[.int .i64 (x.1 : Int), .int .i64 (x.2 : Int)]
def exStep (B n : Nat) (s : Nat) (x : Nat × Nat) (s' : Nat) (_W : World) : Prop := s ≤ n ∧ (s % 4 = 0 ∨ s = n) ∧ ∃ b, nx B n s = some b ∧ x = (b / 4, cnt (fun j => B.testBit (b + j)) (min ((b / 4 + 1) * 4) n - b)) ∧ s' = min ((b / 4 + 1) * 4) n
def exEnd (B n : Nat) (s : Nat) (_W : World) : Prop := s ≤ n ∧ (s % 4 = 0 ∨ s = n) ∧ nx B n s = none
def exInv (be bm bn n : Nat) (L : BL) (B : Nat) (s : Nat) (W : World) : Prop := EB W be bm bn n L B
theorem enters_ex : ∀ args w, (callFunc 27 args).run Tryd.prog w = .ok (.enter 27 args) w := enters_of Tryd.func27 (by kernel_rfl) rfl
theorem grown_of_below {W W' : World} (h : Below W.heap.size W W') : W.grownBy W' none := ⟨h.os, h.tape, h.output, h.size, fun k hk _ => h.block k hk⟩

/-- how far it is to the end -/
def msr (n : Nat) (z : Int) : Nat := if z < 0 then 0 else n + 1 - z.toNat
theorem msr_lt {n b : Nat} {o : Option Nat} {z : Int} (hz : z = orN o) (hb : b < n) (ho : ∀ b2, o = some b2 → b < b2) : msr n z < msr n (b : Int) := by
  have e1 : msr n (b : Int) = n + 1 - b := by unfold msr; rw [if_neg (by omega)]; omega
  rw [e1]
  cases o with
  | none =>
    have e2 : z = -1 := hz
    subst e2
    have : msr n (-1) = 0 := rfl
    omega
  | some b2 =>
    have e2 : z = (b2 : Int) := hz
    subst e2
    have := ho b2 rfl
    have e3 : msr n (b2 : Int) = n + 1 - b2 := by unfold msr; rw [if_neg (by omega)]; omega
    omega
set_option maxHeartbeats 2000000 in
theorem ex_seq (m be bm bn n : Nat) (L : BL) (B : Nat) :
    SeqSt Fence.wide m Tryd.prog 27 #[.pointer (some ⟨be, 0, none⟩), .pointer (some ⟨bm, 0, none⟩), .pointer (some ⟨bn, 0, none⟩)] exEnc (exStep B n) (exEnd B n) (exInv be bm bn n L B) 0 := by
  intro l J Jx W hInv hJ hJx hY h0
  have hE := hInv 0 W h0
  have c1 : W.cell? ⟨be, 0, none⟩ = some (.int .i64 0) := cell_of_row _ _ _ _ _ _ hE.be
  have c2 : W.cell? ⟨bm, 0, none⟩ = some (.pointer (some ⟨L.p, 0, none⟩)) := cell_of_row _ _ _ _ _ _ hE.bm
  have hN := Next_any hE.rep hE.tab 0
  rw [show (0 : Int).toNat = 0 from rfl] at hN
  have hn := hE.rep.n2
  obtain ⟨z0, hz0⟩ : ∃ z0, z0 = orN (nx B n 0) := ⟨_, rfl⟩
  rw [← hz0] at hN
  have HZ0 := hide hz0
  have HN := hide hN
  unfold PB at HN
  clear hN hE hz0
  refine callsIn_of_wp Tryd.func27 rfl trivial ?_ rfl
  simp only [Tryd.ntmps27, List.size_toArray, List.length_cons, List.length_nil, Nat.reduceAdd, Nat.reduceSub, Array.replicate_succ, Array.replicate_zero, List.push_toArray, List.append_toArray, List.nil_append, List.cons_append]
  gi_wp2_with ((refine ⟨trivial, fun h => by simp [Fence.wide] at h, ?_⟩; gi_at_call 28; refine (callsIn_wide.2 HN.out).mono ?_; rintro e w' ⟨rfl, hw'⟩; have hw2 := hw'.symm; clear hw'; subst hw2; clear HN))
  gi_loopw [5] (fun p wr => ∃ (s : Nat) (z : Int), J s wr ∧ s ≤ n ∧ (s % 4 = 0 ∨ s = n) ∧ p = .int .i64 z ∧ z = orN (nx B n s)) (fun p wr => msr n (intOf p))
  case atStart => exact ⟨0, z0, h0, Nat.zero_le _, .inl rfl, rfl, HZ0.out⟩
  case round =>
    obtain ⟨s, z, hj, hs, hbd, rfl, hz⟩ := hrel
    have hE := hInv s wr hj
    clear HZ0
    cases hx : nx B n s with
    | none =>
      rw [hx] at hz
      have hz' : z = -1 := hz
      clear hz
      subst hz'
      have HE : Hid (exEnd B n s wr) := hide ⟨hs, hbd, hx⟩
      have HJ := hide hj
      clear hx hE hY hInv h0 hj
      gi_wp2
      refine bodyPost_end (results_none rfl _ _ _) rfl ?_
      exact ⟨⟨_, rfl⟩, .inl ⟨s, HE.out, HJ.out⟩⟩
    | some b =>
      rw [hx] at hz
      have hz' : z = (b : Int) := hz
      clear hz
      subst hz'
      obtain ⟨-, r2, r3, r4⟩ := ext_step hs hbd hx
      have k2 : wr.cell? ⟨bm, 0, none⟩ = some (.pointer (some ⟨L.p, 0, none⟩)) := cell_of_row _ _ _ _ _ _ hE.bm
      have k3 : wr.cell? ⟨bn, 0, none⟩ = some (.int .i64 (n : Int)) := cell_of_row _ _ _ _ _ _ hE.bn
      have HE := hide hE
      have HJ := hide hj
      have HNX := hide hx
      obtain ⟨X, hX⟩ : ∃ X, b / 4 = X := ⟨_, rfl⟩
      have HX := hide hX
      have hb4 : (b : Int) / 4 = (X : Int) := by omega
      have hge : (0 : Int) ≤ (b : Int) := by omega
      have hXb : X * 4 ≤ b ∧ b < (X + 1) * 4 := by omega
      rw [hX] at r2 r3
      obtain ⟨CN, hCN⟩ : ∃ CN, cnt (fun j => B.testBit (b + j)) (min ((X + 1) * 4) n - b) = CN := ⟨_, rfl⟩
      have hcnb : CN ≤ 4 := by rw [← hCN]; exact Nat.le_trans (cnt_le _ _) (by omega)
      have HCN := hide hCN
      clear hx hE h0 hj hX hCN c1 c2 r2
      by_cases hcase : (X + 1) * 4 ≤ n
      · have hm2 : ((X : Int) + 1) * 4 ≤ (n : Int) := by omega
        obtain ⟨EN, hEN⟩ : ∃ EN, EN = (X + 1) * 4 := ⟨_, rfl⟩
        have HMIN : Hid (min ((X + 1) * 4) n = min ((X + 1) * 4) n) := hide rfl
        have HMIN2 : Hid (EN = min ((b / 4 + 1) * 4) n) := hide (by rw [HX.out]; omega)
        have HCN2 : Hid (cnt (fun j => B.testBit (b + j)) (EN - b) = CN) := hide (by rw [← HCN.out, show min ((X + 1) * 4) n = EN by omega])
        have hENb : b < EN ∧ EN ≤ n ∧ EN % 4 = 0 := by omega
        have HST : Hid (∀ W1, exStep B n s (X, CN) EN W1) := hide fun W1 => ⟨hs, hbd, b, HNX.out, by rw [HX.out, HCN.out], HMIN2.out⟩
        have HYY := hide fun W1 (h : J s W1) => hY s (X, CN) EN W1 h (HST.out W1)
        have HCR : Hid (Calls Tryd.prog 29 #[.pointer (some ⟨L.p, 0, none⟩), .int .i64 (b : Int), .int .i64 (((X : Int) + 1) * 4 - (b : Int))] wr fun e w' => e = .returned (.tuple #[.int .i64 (CN : Int), .int .i64 0]) ∧ Below wr.heap.size wr w') := hide (by
          have := CountRange_any HE.out.rep (a := b) (c := EN - b) (by omega)
          rw [HCN2.out] at this
          rw [show ((X : Int) + 1) * 4 - (b : Int) = ((EN - b : Nat) : Int) by omega]
          exact this)
        have HJ2 : Hid (∀ w', Below wr.heap.size wr w' → J s w') := hide fun w' hb => hJ s wr w' none HJ.out (grown_of_below hb) (fun r e => by cases e)
        obtain ⟨z2, hz2⟩ : ∃ z2, z2 = orN (nx B n EN) := ⟨_, rfl⟩
        have HZ2 := hide hz2
        have HNN : Hid (∀ W3, J EN W3 → W3.cell? ⟨bm, 0, none⟩ = some (.pointer (some ⟨L.p, 0, none⟩)) ∧ Calls Tryd.prog 28 #[.pointer (some ⟨L.p, 0, none⟩), .int .i64 (((X : Int) + 1) * 4)] W3 fun e w' => e = .returned (.int .i64 z2) ∧ w' = W3) := hide fun W3 h3 => by
          have hE3 := hInv EN W3 h3
          refine ⟨cell_of_row _ _ _ _ _ _ hE3.bm, ?_⟩
          have := Next_any hE3.rep hE3.tab (EN : Int)
          rw [Int.toNat_natCast, ← hz2] at this
          rw [show ((X : Int) + 1) * 4 = (EN : Int) by omega]
          exact this
        clear hY hInv hJ HST HJ HE hz2
        gi_wp2_with ((refine ⟨trivial, fun h => by simp [Fence.wide] at h, ?_⟩; gi_at_call 29; refine (callsIn_wide.2 HCR.out).mono ?_; rintro e w2 ⟨rfl, hb2⟩; obtain ⟨fn, tmps, assign, body, hy, hR2⟩ := HYY.out _ (HJ2.out _ hb2); simp only [exEnc] at hy; clear hb2 HCR))
        refine ⟨fun h => by simp [Fence.wide] at h, hR2.mono ?_⟩
        rintro r W3 (⟨rfl, hJ3⟩ | ⟨rfl, hJx3⟩)
        · obtain ⟨d1, hN3⟩ := HNN.out _ hJ3
          have HN3 := hide hN3
          have HJ3 := hide hJ3
          clear hN3 hJ3
          gi_wp2_with ((refine ⟨trivial, fun h => by simp [Fence.wide] at h, ?_⟩; gi_at_call 28; refine (callsIn_wide.2 HN3.out).mono ?_; rintro e w4 ⟨rfl, hw4⟩; have hw5 := hw4.symm; clear hw4; subst hw5; clear HN3))
          go_roundw
          case rel => exact ⟨EN, z2, HJ3.out, by omega, by omega, rfl, HZ2.out⟩
          case measure => exact msr_lt HZ2.out r4 fun b2 hq => by have := (nx_facts hq (by omega)).1; omega
        · gi_wp2
          refine bodyPost_ret (results_none rfl _ _ _) rfl ?_
          exact ⟨⟨_, rfl⟩, .inr hJx3⟩
      · have hm2 : ¬ ((X : Int) + 1) * 4 ≤ (n : Int) := by omega
        obtain ⟨EN, hEN⟩ : ∃ EN, EN = n := ⟨_, rfl⟩
        have HMIN : Hid (min ((X + 1) * 4) n = min ((X + 1) * 4) n) := hide rfl
        have HMIN2 : Hid (EN = min ((b / 4 + 1) * 4) n) := hide (by rw [HX.out]; omega)
        have HCN2 : Hid (cnt (fun j => B.testBit (b + j)) (EN - b) = CN) := hide (by rw [← HCN.out, show min ((X + 1) * 4) n = EN by omega])
        have hENb : b < EN ∧ EN ≤ n := by omega
        have HST : Hid (∀ W1, exStep B n s (X, CN) EN W1) := hide fun W1 => ⟨hs, hbd, b, HNX.out, by rw [HX.out, HCN.out], HMIN2.out⟩
        have HYY := hide fun W1 (h : J s W1) => hY s (X, CN) EN W1 h (HST.out W1)
        have HCR : Hid (Calls Tryd.prog 29 #[.pointer (some ⟨L.p, 0, none⟩), .int .i64 (b : Int), .int .i64 ((n : Int) - (b : Int))] wr fun e w' => e = .returned (.tuple #[.int .i64 (CN : Int), .int .i64 0]) ∧ Below wr.heap.size wr w') := hide (by
          have := CountRange_any HE.out.rep (a := b) (c := EN - b) (by omega)
          rw [HCN2.out] at this
          rw [show (n : Int) - (b : Int) = ((EN - b : Nat) : Int) by omega]
          exact this)
        have HJ2 : Hid (∀ w', Below wr.heap.size wr w' → J s w') := hide fun w' hb => hJ s wr w' none HJ.out (grown_of_below hb) (fun r e => by cases e)
        obtain ⟨z2, hz2⟩ : ∃ z2, z2 = orN (nx B n EN) := ⟨_, rfl⟩
        have HZ2 := hide hz2
        have HNN : Hid (∀ W3, J EN W3 → W3.cell? ⟨bm, 0, none⟩ = some (.pointer (some ⟨L.p, 0, none⟩)) ∧ Calls Tryd.prog 28 #[.pointer (some ⟨L.p, 0, none⟩), .int .i64 (n : Int)] W3 fun e w' => e = .returned (.int .i64 z2) ∧ w' = W3) := hide fun W3 h3 => by
          have hE3 := hInv EN W3 h3
          refine ⟨cell_of_row _ _ _ _ _ _ hE3.bm, ?_⟩
          have := Next_any hE3.rep hE3.tab (EN : Int)
          rw [Int.toNat_natCast, ← hz2] at this
          rw [show ((n : Int) : Int) = (EN : Int) by omega]
          exact this
        clear hY hInv hJ HST HJ HE hz2
        gi_wp2_with ((refine ⟨trivial, fun h => by simp [Fence.wide] at h, ?_⟩; gi_at_call 29; refine (callsIn_wide.2 HCR.out).mono ?_; rintro e w2 ⟨rfl, hb2⟩; obtain ⟨fn, tmps, assign, body, hy, hR2⟩ := HYY.out _ (HJ2.out _ hb2); simp only [exEnc] at hy; clear hb2 HCR))
        refine ⟨fun h => by simp [Fence.wide] at h, hR2.mono ?_⟩
        rintro r W3 (⟨rfl, hJ3⟩ | ⟨rfl, hJx3⟩)
        · obtain ⟨d1, hN3⟩ := HNN.out _ hJ3
          have HN3 := hide hN3
          have HJ3 := hide hJ3
          clear hN3 hJ3
          gi_wp2_with ((refine ⟨trivial, fun h => by simp [Fence.wide] at h, ?_⟩; gi_at_call 28; refine (callsIn_wide.2 HN3.out).mono ?_; rintro e w4 ⟨rfl, hw4⟩; have hw5 := hw4.symm; clear hw4; subst hw5; clear HN3))
          go_roundw
          case rel => exact ⟨EN, z2, HJ3.out, by omega, by omega, rfl, HZ2.out⟩
          case measure => exact msr_lt HZ2.out r4 fun b2 hq => by have := (nx_facts hq (by omega)).1; omega
        · gi_wp2
          refine bodyPost_ret (results_none rfl _ _ _) rfl ?_
          exact ⟨⟨_, rfl⟩, .inr hJx3⟩
end Go.Proofs.YtophcdfaflehcaaDoor
