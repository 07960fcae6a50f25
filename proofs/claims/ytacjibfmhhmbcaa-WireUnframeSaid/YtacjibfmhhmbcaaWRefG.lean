import Derived.Test.YtacjibfmhhmbcaaWRefF
namespace Go.Proofs.Ytacjibfmhhmbcaa
open Go.RowKit
open Num
set_option linter.unusedVariables false
set_option linter.unusedSimpArgs false

theorem wro_ferr {k : Int} {n : Nat} (h1 : 1 ≤ k) (h4 : k ≤ 4) : ferr k n = if wro k n then 75 else 0 := by
  unfold ferr wro
  rw [if_neg (by omega)]
  by_cases h : (k = 2 ∧ n = 0) ∨ (k ≠ 2 ∧ 0 < n) ∨ 2048 < n
  · rw [if_pos h, if_pos (decide_eq_true h)]
  · rw [if_neg h, if_neg (by simpa using h)]

set_option maxHeartbeats 2000000 in
theorem renc_yes (w : World) (k a b c d : Nat) (vp : Value) (p : List Nat) (hp : BSl w vp p) (ha : a < 4294967296) (hb : b < 4294967296) (hc : c < 4294967296) (hd' : d < 4294967296) (hE : ferr k p.length = 0) :
    Calls Try.prog 8 #[frV k a b c d vp] w fun e w' => ∃ v', e = .returned (.tuple #[v', .int .i64 0]) ∧ Own w' w.heap.size v' (frm k a b c d (fsum k a b c d p) p) ∧ Below w.heap.size w w' := by
  obtain ⟨hk1, hk2, hpl⟩ := ferr_zero hE
  have hwr : wro k p.length = false := by
    have := wro_ferr (n := p.length) hk1 hk2
    rw [hE] at this
    cases h : wro k p.length
    · rfl
    · rw [h] at this; simp at this
  have hpb := hp.bytes
  obtain ⟨pa, pcap, rfl, hl1, hl2, hl3, _, _⟩ := id hp
  unfold maxLen at hl2
  have HCH : Hid (∀ x, Calls Try.prog 19 #[.int .i64 (k : Int), .int .i64 (p.length : Int)] x fun e w' => e = .returned (.bool false) ∧ w' = x) := hide fun x => (by have := wrong_any x k p.length (by omega) (by omega); rw [hwr] at this; exact this)
  have HW := hide ((Below.refl w.heap.size w).alloc (Nat.le_refl _) (.cells #[.int .i64 (k : Int), .int .u32 (a : Int), .int .u32 (b : Int), .int .u32 (c : Int), .int .u32 (d : Int), .slice pa p.length pcap] 25))
  have HBX : Hid (∀ x, Below (w.heap.size + 1) (w.alloc (.cells #[.int .i64 (k : Int), .int .u32 (a : Int), .int .u32 (b : Int), .int .u32 (c : Int), .int .u32 (d : Int), .slice pa p.length pcap] 25)) x → _) := hide fun x hx => box6 hx
  have HPX : Hid (∀ x, Below (w.heap.size + 1) (w.alloc (.cells #[.int .i64 (k : Int), .int .u32 (a : Int), .int .u32 (b : Int), .int .u32 (c : Int), .int .u32 (d : Int), .slice pa p.length pcap] 25)) x → BSl x (.slice pa p.length pcap) p) := hide fun x hx => (hp.below HW.out).below (by simpa using hx)
  have HSZ := hide (show (w.alloc (.cells #[.int .i64 (k : Int), .int .u32 (a : Int), .int .u32 (b : Int), .int .u32 (c : Int), .int .u32 (d : Int), .slice pa p.length pcap] 25)).heap.size = w.heap.size + 1 by simp)
  have hfl : fsum k a b c d p < 4294967296 := fsum_lt (by omega) hpb
  have HFR : Hid (∀ (x : World) (s : Nat), Below (w.heap.size + 1) (w.alloc (.cells #[.int .i64 (k : Int), .int .u32 (a : Int), .int .u32 (b : Int), .int .u32 (c : Int), .int .u32 (d : Int), .slice pa p.length pcap] 25)) x → s < 4294967296 → Calls Try.prog 21 #[.agg #[.int .i64 (k : Int), .int .u32 (a : Int), .int .u32 (b : Int), .int .u32 (c : Int), .int .u32 (d : Int), .slice pa p.length pcap], .int .u32 (s : Int)] x fun e w' => ∃ v', e = .returned v' ∧ Own w' x.heap.size v' (frm k a b c d s p) ∧ Below x.heap.size x w') := hide fun x s hx hs => framed_any x k a b c d s _ p (HPX.out x hx) (by omega) ha hb hc hd' hs (by omega)
  have HFIN : Hid (∀ x y v, Own y x.heap.size v (frm k a b c d (fsum k a b c d p) p) → Below (w.heap.size + 1) (w.alloc (.cells #[.int .i64 (k : Int), .int .u32 (a : Int), .int .u32 (b : Int), .int .u32 (c : Int), .int .u32 (d : Int), .slice pa p.length pcap] 25)) x → Below x.heap.size x y → Own y w.heap.size v (frm k a b c d (fsum k a b c d p) p) ∧ Below w.heap.size w y) := hide fun x y v h1 h2 h3 => by
    have hx := h2.size
    rw [HSZ.out] at hx
    exact ⟨h1.low (by omega), HW.out.trans ((h2.mono (by omega)).trans (h3.mono (by omega)))⟩
  have HCR : Hid (∀ x v, BSl x v (frm k a b c d 0 p) → Calls Try.prog 20 #[v] x fun e w' => e = .returned (.int .u32 (fsum k a b c d p : Nat)) ∧ w' = x) := hide fun x v h => refCrc_any v _ x h
  have RB0 := hide (Below.refl (w.heap.size + 1) (w.alloc (.cells #[.int .i64 (k : Int), .int .u32 (a : Int), .int .u32 (b : Int), .int .u32 (c : Int), .int .u32 (d : Int), .slice pa p.length pcap] 25)))
  clear hp hl3 hpb hwr hE
  rename_i dead1 dead2
  clear dead1 dead2
  unfold frV
  go_enter Try.func8, Try.ntmps8
  go_wp2_with (first
    | (go_at_call 19; refine (HCH.out _).mono ?_; rintro e w' ⟨rfl, rfl⟩)
    | (go_at_call 21; refine (HFR.out _ 0 RB0.out (by decide)).mono ?_; rintro e w1 ⟨v1, rfl, o1, b1⟩; have HO1 := hide o1; have RB1 := hide (RB0.out.trans (by rw [HSZ.out] at b1; exact b1)); clear o1 b1 RB0; obtain ⟨a0, a1, a2, a3, a4, a5⟩ := HBX.out w1 RB1.out)
    | (go_at_call 20; refine (HCR.out _ _ HO1.out.bsl).mono ?_; rintro e w2 ⟨rfl, rfl⟩)
    | (go_at_call 21; refine (HFR.out _ _ RB1.out hfl).mono ?_; rintro e w3 ⟨v3, rfl, o3, b3⟩; have HR := hide (HFIN.out _ _ _ o3 RB1.out b3); clear o3 b3))
  go_ret2
  exact ⟨_, rfl, HR.out.1, HR.out.2⟩

set_option maxHeartbeats 2000000 in
theorem renc_no (w : World) (k : Int) (a b c d : Nat) (vp : Value) (p : List Nat) (hp : BSl w vp p) (hk : -9223372036854775808 ≤ k ∧ k ≤ 9223372036854775807) (hpl : p.length ≤ 140737488351232) (hE : ferr k p.length ≠ 0) :
    Calls Try.prog 8 #[.agg #[.int .i64 k, .int .u32 (a : Int), .int .u32 (b : Int), .int .u32 (c : Int), .int .u32 (d : Int), vp]] w fun e w' => e = .returned (.tuple #[.slice none 0 0, .int .i64 (ferr k p.length : Nat)]) ∧ Below w.heap.size w w' := by
  obtain ⟨pa, pcap, rfl, hl1, hl2, hl3, _, _⟩ := id hp
  unfold maxLen at hl2
  have HW := hide ((Below.refl w.heap.size w).alloc (Nat.le_refl _) (.cells #[.int .i64 k, .int .u32 (a : Int), .int .u32 (b : Int), .int .u32 (c : Int), .int .u32 (d : Int), .slice pa p.length pcap] 25))
  by_cases h1 : k < 1
  · rw [ferr_74 (.inl h1)]
    clear hp hl3 hE
    rename_i dead1 dead2
    clear dead1 dead2
    go_enter Try.func8, Try.ntmps8
    go_wp2
    go_ret2
    exact ⟨rfl, HW.out⟩
  · by_cases h4 : 4 < k
    · rw [ferr_74 (.inr h4)]
      clear hp hl3 hE
      rename_i dead1 dead2
      clear dead1 dead2
      go_enter Try.func8, Try.ntmps8
      go_wp2
      go_ret2
      exact ⟨rfl, HW.out⟩
    · have hw : wro k p.length = true := by
        have := wro_ferr (k := k) (n := p.length) (by omega) (by omega)
        cases h : wro k p.length
        · rw [h] at this; exact absurd this hE
        · rfl
      have HCH : Hid (∀ x, Calls Try.prog 19 #[.int .i64 k, .int .i64 (p.length : Int)] x fun e w' => e = .returned (.bool true) ∧ w' = x) := hide fun x => (by have := wrong_any x k p.length hk (by omega); rw [hw] at this; exact this)
      have e75 : ferr k p.length = 75 := by rw [wro_ferr (by omega) (by omega), hw]; rfl
      rw [e75]
      clear hp hl3 hE hw e75
      rename_i dead1 dead2
      clear dead1 dead2
      go_enter Try.func8, Try.ntmps8
      go_wp2_with (go_at_call 19; refine (HCH.out _).mono ?_; rintro e w' ⟨rfl, rfl⟩)
      go_ret2
      exact ⟨rfl, HW.out⟩

/-- the document's EncodeFrame, of any frame -/
theorem rEncodeFrame_any (w : World) (k : Int) (a b c d : Nat) (vp : Value) (p : List Nat) (hp : BSl w vp p) (hk : -9223372036854775808 ≤ k ∧ k ≤ 9223372036854775807) (hpl : p.length ≤ 140737488351232) (ha : a < 4294967296) (hb : b < 4294967296) (hc : c < 4294967296) (hd' : d < 4294967296) :
    Calls Try.prog 8 #[frV k a b c d vp] w fun e w' => ∃ v', e = .returned (.tuple #[v', .int .i64 (ferr k p.length : Nat)]) ∧ Own w' w.heap.size v' (fbytes k a b c d p) ∧ Below w.heap.size w w' := by
  by_cases hE : ferr k p.length = 0
  · obtain ⟨hk1, hk2, _⟩ := ferr_zero hE
    obtain ⟨kk, rfl⟩ : ∃ kk : Nat, k = (kk : Int) := ⟨k.toNat, by omega⟩
    refine (renc_yes w kk a b c d vp p hp ha hb hc hd' hE).mono ?_
    rintro e w' ⟨v', rfl, h1, h2⟩
    refine ⟨v', by rw [hE]; rfl, ?_, h2⟩
    unfold fbytes
    rw [if_pos hE]
    exact h1
  · refine (renc_no w k a b c d vp p hp hk hpl hE).mono ?_
    rintro e w' ⟨rfl, h2⟩
    refine ⟨_, rfl, ?_, h2⟩
    unfold fbytes
    rw [if_neg hE]
    exact ⟨World.ownsRow_nil _ _ _ _, by simp⟩
end Go.Proofs.Ytacjibfmhhmbcaa
