import Derived.Test.YtglajdmkbckjjabBDd
namespace Go.Proofs.Ytglajdmkbckjjab
open Go.RowKit
set_option linter.unusedVariables false
set_option linter.unusedSimpArgs false
set_option maxRecDepth 20000

theorem good_read (n : Nat) : Good (readR n) := good_bnd good_dg fun d _ => good_rd n (n + 1) 0 d 0
/-- what Decode hands back -/
def DcP (w : World) (n : Nat) (q : Option Nat × Nat) (e : Ending) (w' : World) : Prop := match q.1 with
  | some B => ∃ v', e = .returned (.tuple #[v', .int .i64 0, .int .i64 0]) ∧ w'.ownsRow w.heap.size 58 1 v' (nW n) ((wds B (nW n)).map u64V) ∧ WSl w' v' (wds B (nW n)) ∧ B < 2 ^ n ∧ Below w.heap.size w w'
  | none => e = .returned (.tuple #[.slice none 0 0, .int .i64 (q.2 : Nat), .int .i64 31]) ∧ Below w.heap.size w w'
theorem decode_no {w : World} (n : Int) (cv : Value) (h : ¬ (1 ≤ n ∧ n ≤ 65536)) : Calls Try.prog 5 #[.int .i64 n, cv] w fun e w' => e = .returned (.tuple #[.slice none 0 0, .int .i64 0, .int .i64 1]) ∧ Below w.heap.size w w' := by
  have HN := hide (New_no w n h)
  go_enter Try.func5, Try.ntmps5
  go_wp2_with (go_at_call 12; refine HN.out.mono ?_; rintro e w' ⟨rfl, hw⟩; have hw2 := hw.symm; clear hw; subst hw2)
  refine bodyPost_ret (results_tmp3 rfl _ _ _) rfl ?_
  exact ⟨rfl, Below.refl _ _⟩
theorem own_low {w : World} {b b' : Nat} {e : TypeId} {size : Nat} {v : Value} {n : Nat} {xs : List Value} (h : w.ownsRow b e size v n xs) (hb : b' ≤ b) : w.ownsRow b' e size v n xs := by
  refine ⟨h.1, ?_⟩
  rcases h.2 with h0 | ⟨g, cap, cur, rfl, h1, r⟩
  · exact .inl h0
  · exact .inr ⟨g, cap, cur, rfl, Nat.le_trans hb h1, r⟩
set_option maxHeartbeats 2000000 in
theorem decode_any {w : World} {n : Nat} {cv : Value} {c : List Nat} (h1 : 1 ≤ n) (h2 : n ≤ 65536) (hc : CSl w cv c) (hl : c.length ≤ 150000000000000) :
    Calls Try.prog 5 #[.int .i64 (n : Int), cv] w (DcP w n (dOut n c)) := by
  have HN := hide (New_any w n h1 h2)
  have HST : Hid (∀ w1 L, BNewAt w w1 L n 0 → RB w (w1.alloc (.cells #[cv, .int .i64 0] 44)) w1.heap.size cv c 0 L n 0) := hide fun w1 L hN => by
    obtain ⟨hb, hbl, hu⟩ := hN
    refine ⟨Go.heap_alloc_new w1 _, hc, hb.below ((Below.refl _ _).alloc (Nat.le_refl _) _), hbl.alloc hbl.size _, hbl.size, fun b hU => ⟨hu b hU, fun e => ?_⟩⟩
    have := hb.uLt b hU
    omega
  have HRD := hide fun (w2 : World) (p : Nat) (L : BL) (h : RB w w2 p cv c 0 L n 0) => read_any h hl
  have hrk : ∀ k B, readR n (digs c) = (k, some B) → k ≤ 8 * c.length := fun k B h => by
    have := (good_read n).sle _ _ _ h
    rwa [digs_len] at this
  have hr1 : 1 ≤ (readR n (digs c)).1 ∧ (readR n (digs c)).1 ≤ 8 * c.length + 1 := by
    refine ⟨?_, ?_⟩
    · unfold readR
      cases hd : digs c with
      | nil => exact Nat.le_refl _
      | cons d l =>
        rw [bndR_some (c := 1) (a := d) rfl]
        show 1 ≤ 1 + _
        omega
    · have := (good_read n).le (digs c)
      rwa [digs_len] at this
  have HNO := hide fun k h => dOut_no (n := n) (c := c) (k := k) h
  have HSO := hide fun k B h hk => dOut_some (n := n) (c := c) (k := k) (B := B) h hk
  obtain ⟨Q, hQ⟩ : ∃ Q, dOut n c = Q := ⟨_, rfl⟩
  rw [hQ] at HNO HSO ⊢
  clear hQ
  have HL := hide hl
  obtain ⟨a, cap, rfl, -⟩ := hc
  clear hl
  generalize readR n (digs c) = q at *
  obtain ⟨k, o⟩ := q
  dsimp only at hr1 HRD
  have HK1 := hide hr1
  clear hr1
  cases o with
  | none =>
    have HQ := hide (HNO.out k rfl)
    simp only [Option.isSome] at HRD
    clear hrk HNO HSO
    go_enter Try.func5, Try.ntmps5
    go_wp2_with (first
      | (go_at_call 12; refine HN.out.mono ?_; clear HN; rintro e w1 ⟨L, rfl, hN⟩; have HS := hide (HST.out w1 L hN); clear hN HST; unfold PB; have HR := hide (HRD.out _ _ _ HS.out); clear HRD; unfold PB at HR)
      | (go_at_call 13; refine HR.out.mono ?_; clear HR; rintro e w2 ⟨rfl, B, hB, -⟩; have HB := hide hB; have HF := hide (fault_any hB.rd (by have := HK1.out; have := HL.out; omega) HK1.out.1); clear hB)
      | (go_at_call 15; refine HF.out.mono ?_; clear HF; rintro e w3 ⟨rfl, hw⟩; have hw2 := hw.symm; clear hw; subst hw2))
    refine bodyPost_ret (results_tmp3 rfl _ _ _) rfl ?_
    rw [HQ.out]
    exact ⟨rfl, HB.out.bel⟩
  | some B0 =>
    have hk := hrk k B0 rfl
    have HQ := hide (HSO.out k B0 rfl hk)
    have HKL := hide hk
    simp only [Option.isSome] at HRD
    clear hrk HNO HSO hk
    have hte : 1 ≤ endT c k ∧ endT c k ≤ 8 * c.length + 10 := by
      unfold endT
      have := HK1.out.1
      have h1 := (good_pad (fil k)).le ((digs c).drop k)
      rw [List.length_drop, digs_len] at h1
      have := HKL.out
      split <;> omega
    have HTE := hide hte
    clear hte
    cases he : endB c k with
    | true =>
      rw [he, if_pos rfl] at HQ
      have HAE := hide fun (w1 w2 : World) (p : Nat) (h : RS w1 w2 p (.slice a c.length cap) c k) => atEnd_any h HKL.out HL.out
      rw [he] at HAE
      clear he
      go_enter Try.func5, Try.ntmps5
      go_wp2_with (first
        | (go_at_call 12; refine HN.out.mono ?_; clear HN; rintro e w1 ⟨L, rfl, hN⟩; have HS := hide (HST.out w1 L hN); clear hN HST; unfold PB; have HR := hide (HRD.out _ _ _ HS.out); clear HRD; unfold PB at HR)
        | (go_at_call 13; refine HR.out.mono ?_; clear HR; rintro e w2 ⟨rfl, B, hB, hBB⟩; obtain rfl : B0 = B := (by simpa using hBB); have HB := hide hB; have HA := hide (HAE.out _ _ _ hB.rs); clear hB hBB HAE)
        | (go_at_call 14; refine HA.out.mono ?_; clear HA; rintro e w3 ⟨rfl, h3⟩; have HB3 := hide (HB.out.took h3); have HWD := hide (Words_any HB3.out.bm); unfold PB at HWD; clear h3)
        | (go_at_call 16; refine HWD.out.mono ?_; clear HWD; rintro e w4 ⟨v', rfl, ho4, hs4, hb4⟩; have HFIN : Hid (w4.ownsRow w.heap.size 58 1 v' (nW n) ((wds B0 (nW n)).map u64V) ∧ WSl w4 v' (wds B0 (nW n)) ∧ B0 < 2 ^ n ∧ Below w.heap.size w w4) := hide ⟨own_low ho4 HB3.out.bel.size, hs4, HB3.out.bm.hB, HB3.out.bel.trans (hb4.mono HB3.out.bel.size)⟩; obtain ⟨va, vcap, rfl, -⟩ := hs4; clear ho4 hb4))
      refine bodyPost_ret (results_tmp3 rfl _ _ _) rfl ?_
      rw [HQ.out]
      exact ⟨_, rfl, HFIN.out⟩
    | false =>
      rw [he, if_neg (by simp)] at HQ
      have HAE := hide fun (w1 w2 : World) (p : Nat) (h : RS w1 w2 p (.slice a c.length cap) c k) => atEnd_any h HKL.out HL.out
      rw [he] at HAE
      clear he
      go_enter Try.func5, Try.ntmps5
      go_wp2_with (first
        | (go_at_call 12; refine HN.out.mono ?_; clear HN; rintro e w1 ⟨L, rfl, hN⟩; have HS := hide (HST.out w1 L hN); clear hN HST; unfold PB; have HR := hide (HRD.out _ _ _ HS.out); clear HRD; unfold PB at HR)
        | (go_at_call 13; refine HR.out.mono ?_; clear HR; rintro e w2 ⟨rfl, B, hB, hBB⟩; have HB := hide hB; have HA := hide (HAE.out _ _ _ hB.rs); clear hB hBB HAE)
        | (go_at_call 14; refine HA.out.mono ?_; clear HA; rintro e w3 ⟨rfl, h3⟩; have HB3 := hide (HB.out.took h3); have HF := hide (fault_any HB3.out.rd (by have := HTE.out; have := HL.out; omega) HTE.out.1); clear h3)
        | (go_at_call 15; refine HF.out.mono ?_; clear HF; rintro e w4 ⟨rfl, hw⟩; have hw2 := hw.symm; clear hw; subst hw2))
      refine bodyPost_ret (results_tmp3 rfl _ _ _) rfl ?_
      rw [HQ.out]
      exact ⟨rfl, HB3.out.bel⟩
end Go.Proofs.Ytglajdmkbckjjab
