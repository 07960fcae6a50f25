import Derived.Test.YtglajdmkbckjjaaDoorBCb
namespace Go.Proofs.YtglajdmkbckjjaaDoor
open Go.RowKit Go.Shelf
set_option linter.unusedVariables false
set_option linter.unusedSimpArgs false
set_option maxRecDepth 20000

set_option maxHeartbeats 2000000 in
theorem codeBack_law {w : World} {v : Value} {l : List Nat} (n : Int) (hT : TabAt w) (hv : WSl w v l) (hr : l.length ≤ 17592186044416) :
    Calls Tryd.prog 8 #[.int .i64 n, v] w fun e w' => e = .returned (.bool true) ∧ Below w.heap.size w w' := by
  have HL := hide (listed_any n hv)
  cases hcan : canB n l with
  | false =>
    rw [hcan] at HL
    obtain ⟨va, vcap, rfl, -⟩ := hv
    clear hcan
    go_enter Tryd.func8, Tryd.ntmps8
    go_wp2_with (go_at_call 9; refine HL.out.mono ?_; clear HL; rintro e w' ⟨rfl, hw⟩; have hw2 := hw.symm; clear hw; subst hw2)
    go_ret
    exact ⟨rfl, Below.refl _ _⟩
  | true =>
    rw [hcan] at HL
    obtain ⟨m, rfl, h1, h2, he⟩ := can_true hcan
    have hlt := hv.lt
    obtain ⟨hlen, hB⟩ := valW_listed h1 hlt he
    have hwd := wd_val hlt
    rw [hlen] at hwd
    have hl0 : 0 < l.length := by rw [hlen]; unfold nW; omega
    have HV := hide hv
    have HCP := hide (copied_any hv hr)
    have HEN := hide fun W v' (hT' : TabAt W) (hv' : WSl W v' l) => encode_main (w := W) (v := v') m hT' hv' h1 h2 he
    have HDO := hide fun c (hW : Wrt c (encD (valW l) m)) => dOut_enc h1 h2 hB hW
    have HDC := hide fun W cv c (hc : CSl W cv c) hl => decode_any (w := W) (cv := cv) (c := c) h1 h2 hc hl
    have hbit : (l.getD 0 0).testBit 0 = (valW l).testBit 0 := by
      have := testBit_wd (valW l) 0 0
      rw [wd_valW l 0 hlt] at this
      simpa using this
    have hg0 : l.getD 0 0 < 18446744073709551616 := hlt _ (mem_getD hl0)
    have hlow : bits .and .u64 ((l.getD 0 0 : Nat) : Int) 1 = ((((valW l).testBit 0).toNat : Nat) : Int) := by
      refine (u64_and_nat _ 1 hg0 (by decide)).trans ?_
      rw [Nat.and_one_is_mod, ← hbit]
      have := Nat.toNat_testBit (l.getD 0 0) 0
      rw [Nat.pow_zero, Nat.div_one] at this
      rw [this]
    have HT := hide hT
    obtain ⟨va, vcap, rfl, q1, q2, q3, q4, q5⟩ := hv
    obtain ⟨vb, voff, rfl, hcell⟩ := q5 hl0
    have c0 := hcell 0 hl0
    have hblt := World.block_lt_of_cell? w _ c0
    rw [Nat.add_zero] at c0
    clear hcan he hcell q5 q4 hbit hT
    have HWD := hide hwd
    clear hlen hwd
    generalize hvw : valW l = B at *
    clear hvw
    generalize l.getD 0 0 = x0 at *
    go_enter Tryd.func8, Tryd.ntmps8
    go_wp2_with (first
      | (go_at_call 9; refine HL.out.mono ?_; clear HL; rintro e w' ⟨rfl, hw⟩; have hw2 := hw.symm; clear hw; subst hw2)
      | (go_at_call 16; refine HCP.out.mono ?_; clear HCP; rintro e w1 ⟨v', rfl, -, hs1, hb1⟩; have HE1 := hide (HEN.out w1 v' (HT.out.below hb1) hs1); have HB1 := hide hb1; clear HEN HT hs1 hb1)
      | (go_at_call 26; refine HE1.out.mono ?_; clear HE1; rintro e w2 ⟨cv, c, rfl, ho, hW, hb2⟩; obtain ⟨hp, hbit, hy, ca, ccap, cb, coff, rfl, rfl, hccap, hcmax, k0, HCS⟩ := enc_open ho hW; have HW := hide hW; have HB2 := hide (HB1.out.trans (hb2.mono HB1.out.size)); have c0b := cell_below2 (HB1.out.trans (hb2.mono HB1.out.size)) c0; clear ho hW hb2 HB1 c0)
      | (go_at_call 13; refine (num_any _ _).mono ?_; rintro e w' ⟨rfl, hw⟩; have hw2 := hw.symm; clear hw; subst hw2))
    have hcl0 : ((c.length : Int) == 0) = false := beq_eq_false_iff_ne.2 (by omega)
    have hci : (0 : Int) < (c.length : Int) := by omega
    have hli : (0 : Int) < (l.length : Int) := by omega
    generalize hyy : c.getD 0 0 = y at *
    have hy7 := top_bit hy
    rw [hbit] at hy7
    have hy8 : (y : Int) / 128 = (((B.testBit 0).toNat : Nat) : Int) := by rw [← hy7]; simp
    have HBITN : Hid ((B.testBit 0).toNat ≤ 1) := hide (by cases B.testBit 0 <;> simp)
    clear hyy hbit hy7 hlt q3
    generalize (B.testBit 0).toNat = bt at *
    have hbt := HBITN.out
    have hwb : IntKind.u8.wrap (bt : Int) = (bt : Int) := by simp [IntKind.wrap, IntKind.bits, IntKind.signed]; omega
    have hsh : Op.shift .shr .u8 (y : Int) .u64 (7 : Int) = (pure (.int .u8 (bt : Int)) : Sem Value) := by
      rw [shift_shr .u8 .u64 (y : Int) (7 : Int) (by omega) (by simp [IntKind.bits])]
      congr 2
    go_region_held3 (fun w' => w'.cell? ⟨cb, coff, none⟩ = some (.int .u8 (y : Int)) ∧ w'.cell? ⟨vb, voff, none⟩ = some (.int .u64 (x0 : Int))) (first | assumption | (constructor <;> assumption) | go_keep)
      (first | (go_at_call 13; refine (num_any _ _).mono ?_; rintro e w' ⟨rfl, hw⟩; have hw2 := hw.symm; clear hw; subst hw2))
    have hdb : Below w2.heap.size w2 w2.drew := (Below.refl _ _).drew
    have hclen : c.length ≤ 140737488355328 := enc_len HW.out h2
    have hD := HDC.out w2.drew _ c (HCS.out.blk hdb) hclen
    rw [HDO.out c HW.out] at hD
    have HD : Hid (Calls Tryd.prog 24 #[.int .i64 (m : Int), .slice (some ⟨cb, coff, none⟩) c.length ccap] w2.drew fun e w' => ∃ v', e = .returned (.tuple #[v', .int .i64 0, .int .i64 0]) ∧ WSl w' v' l ∧ Below w.heap.size w w') := hide (hD.mono fun e w' h => by
      obtain ⟨v', h1, h2, h3, h4, h5⟩ := h
      rw [HWD.out] at h3
      exact ⟨v', h1, h3, (HB2.out.trans (hdb.mono HB2.out.size)).trans (h5.mono (by have := HB2.out.size; exact this))⟩)
    clear hD HDC HDO HCS HW HWD hdb hclen hB
    go_wp2_with (first
      | (go_at_call 24; refine HD.out.mono ?_; clear HD; rintro e w3 ⟨v3, rfl, hs3, hb3⟩; have HSW := hide fun q => sameWords_any (hs3.below (below_drewN (Below.refl _ _) q)) ((HV.out.below hb3).below (below_drewN (Below.refl _ _) q)); have HB3 := hide hb3; obtain ⟨a3, cap3, rfl, -⟩ := hs3; clear hb3)
      | (go_at_call 13; refine (num_any _ _).mono ?_; rintro e w' ⟨rfl, hw⟩; have hw2 := hw.symm; clear hw; subst hw2)
      | (go_at_call 19; refine (HSW.out 0).mono ?_; clear HSW; rintro e w4 ⟨rfl, hq⟩; have HQ := hide hq.2; clear hq))
    go_ret
    exact ⟨rfl, HB3.out.trans (HQ.out.mono HB3.out.size)⟩
end Go.Proofs.YtglajdmkbckjjaaDoor
