import Derived.Test.YtijfnacplikibaaKAllM
namespace Go.Proofs.Ytijfnacplikibaa
open Go.RowKit
set_option linter.unusedVariables false
set_option linter.unusedSimpArgs false
set_option maxRecDepth 20000

set_option maxHeartbeats 2000000 in
theorem allCome_law (w : World) (a b e : Int) (v : Value) (os : List OpV) (hv : OSl w v os) (hl : os.length ≤ 3518437208883) : Calls Try.prog 3 #[.agg #[.int .i64 a, .int .i64 b], .int .i64 e, v] w fun e' w' => e' = .returned (.bool true) ∧ Below w.heap.size w w' := by
  have HB0 := hide ((Below.refl w.heap.size w).alloc (Nat.le_refl _) (.cells #[.int .i64 a, .int .i64 b] 23))
  have HM := hide fun x => may_any x a b
  obtain ⟨av, cv, rfl, hv1, hv2, hv3⟩ := hv
  cases hk : okN a b with
  | false =>
    rw [hk] at HM
    clear hv3
    go_enter Try.func3, Try.ntmps3
    go_wp2_with (go_at_call 9; refine (HM.out _).mono ?_; rintro e' w2 ⟨rfl, hb2⟩; have HB2 := hide (HB0.out.trans (hb2.mono (by simp))); clear HM hb2)
    go_ret
    exact ⟨rfl, HB2.out⟩
  | true =>
    rw [hk] at HM
    obtain ⟨h1, h2, h3, h4⟩ := okN_yes hk
    obtain ⟨n, rfl⟩ : ∃ n : Nat, a = (n : Int) := ⟨a.toNat, by omega⟩
    have HC0 : Hid (∀ x, Below (w.alloc (.cells #[.int .i64 (n : Int), .int .i64 b] 23)).heap.size (w.alloc (.cells #[.int .i64 (n : Int), .int .i64 b] 23)) x → x.cell? ⟨w.heap.size, 0, none⟩ = some (.int .i64 (n : Int)) ∧ x.cell? ⟨w.heap.size, 1, none⟩ = some (.int .i64 b)) := hide fun x hx => by
      have hg : x.heap[w.heap.size]? = some (.cells #[.int .i64 (n : Int), .int .i64 b] 23 (0, 0)) := (hx.block _ (by simp)).trans (Go.heap_alloc_new w _)
      exact ⟨by rw [cell_of_row _ _ _ _ _ _ hg]; rfl, by rw [cell_of_row _ _ _ _ _ _ hg]; rfl⟩
    by_cases he : 0 ≤ e ∧ e < (n : Int)
    · obtain ⟨ex, rfl⟩ : ∃ ex : Nat, e = (ex : Int) := ⟨e.toNat, by omega⟩
      have HTB := hide fun x => table_any x n b hk
      have HOS : Hid (∀ x, Below (w.alloc (.cells #[.int .i64 (n : Int), .int .i64 b] 23)).heap.size (w.alloc (.cells #[.int .i64 (n : Int), .int .i64 b] 23)) x → ∀ i, i < os.length → ∃ g off, av = some ⟨g, off, none⟩ ∧ (x.cell? ⟨g, off + i * 5, none⟩ = some (.int .i64 (os.getD i default).kind) ∧ x.cell? ⟨g, off + i * 5 + 1, none⟩ = some (.bool (os.getD i default).snd)) ∧ x.cell? ⟨g, off + i * 5 + 2, none⟩ = some (.int .i64 (os.getD i default).ext) ∧ x.cell? ⟨g, off + i * 5 + 3, none⟩ = some (.int .i64 (os.getD i default).mode) ∧ x.cell? ⟨g, off + i * 5 + 4, none⟩ = some (.int .i64 (os.getD i default).owner)) := hide fun x hx i hi => by
        obtain ⟨g, off, rfl, hc⟩ := hv3 (by omega)
        have hb' : Below w.heap.size w x := HB0.out.trans (hx.mono (by simp))
        have hlt := World.block_lt_of_cell? w _ (hc 0 (by omega)).1.1
        obtain ⟨⟨c0, c1⟩, c2, c3, c4⟩ := hc i hi
        rw [show os.getD i default = os[i] by simp [List.getD, hi]]
        exact ⟨g, off, rfl, ⟨(below_cell hb' hlt _).trans c0, (below_cell hb' hlt _).trans c1⟩, (below_cell hb' hlt _).trans c2, (below_cell hb' hlt _).trans c3, (below_cell hb' hlt _).trans c4⟩
      have HCA := hide fun (w1 x : World) p bb V L wt B kind snd e md o (h : AS w1 x p bb n V L b wt B) (hB : B ≤ 3900000000000) => (call_any x p bb n V L b wt kind snd e md o B h.t h.wf hB).mono fun e' w' (h' : _ ∧ _) => (⟨h'.1, h'.2.elim fun V' k => ⟨V', h.step k.1 (cal_wf h.wf kind e md o) (cal_ok h.ok b wt kind e md o) k.2 fun g h => h.elim⟩⟩ : e' = .returned (.tuple #[]) ∧ ∃ V', AS w1 w' p bb n V' (cal n L b wt kind e md o).1 b (cal n L b wt kind e md o).2 (B + 1))
      clear hv3 hk
      generalize hN : os.length = N at *
      clear hN
      unfold maxLen at hv2
      go_enter Try.func3, Try.ntmps3
      go_wp2_with (first
        | (go_at_call 9; refine (HM.out _).mono ?_; rintro e' w2 ⟨rfl, hb2⟩; have HB2 := hide hb2; obtain ⟨c0, c1⟩ := HC0.out _ hb2; clear HM hb2)
        | (go_at_call 10; refine (HTB.out _).mono ?_; rintro e' w3 ⟨p, bb, rfl, hT3, hb3, hp3, hbb3⟩; have HAS := hide (as_new (w := w.alloc (.cells #[.int .i64 (n : Int), .int .i64 b] 23)) hT3 (HB2.out.trans (hb3.mono HB2.out.size)) (Nat.le_trans HB2.out.size hp3) (Nat.le_trans HB2.out.size hbb3) ⟨h3, h4⟩); clear HTB hT3 hb3 hp3 hbb3))
      generalize w.alloc (.cells #[.int .i64 (n : Int), .int .i64 b] 23) = w1 at *
      go_loopw [9] (fun x wr => ∃ (i : Nat) (V : Nat → Value) (L : LL) (wt : Int), i ≤ N ∧ x = .int .i64 (i : Int) ∧ AS w1 wr p bb n V L b wt i) (fun x _ => N - (intOf x).toNat)
      case atStart => exact ⟨0, _, _, _, Nat.zero_le _, rfl, HAS.out⟩
      case round =>
        obtain ⟨i, V, L, wt, hi, rfl, hA⟩ := hrel
        have HA := hide hA
        clear hA HAS
        by_cases hlt : i < N
        · obtain ⟨g, off, rfl, ⟨e0, e1⟩, e2, e3, e4⟩ := HOS.out _ HA.out.bel i hlt
          have HCL := hide (HCA.out _ _ _ _ _ _ _ _ (os.getD i default).kind (os.getD i default).snd (os.getD i default).ext (os.getD i default).mode (os.getD i default).owner HA.out (by omega))
          generalize os.getD i default = s at *
          obtain ⟨kind, snd, ee, md, o⟩ := s
          dsimp only at e0 e1 e2 e3 e4 HCL
          unfold opRow at HCL
          have hii : 0 ≤ (i : Int) ∧ (i : Int) < (N : Int) := ⟨by omega, by omega⟩
          go_wp2_with (go_at_call 11; refine HCL.out.mono ?_; rintro e' w4 ⟨rfl, V', hA4⟩; have HA4 := hide hA4; clear hA4 HCL)
          go_roundw
          case rel => exact ⟨i + 1, V', _, _, by omega, by go_num, HA4.out⟩
          case measure => simp [intOf]; omega
        · have hnl : ¬ (i : Int) < (N : Int) := by omega
          have hex : ex < n := by omega
          have HAQ := hide (HA.out.acquire (by omega) (ex : Int) 2 7)
          have HHO := hide (acq_hold HA.out.ok b wt 7 hex)
          generalize acq n L b wt (ex : Int) 7 2 = A1 at *
          obtain ⟨er1, gr1, L1, wt1⟩ := A1
          dsimp only at HAQ HHO
          have HNU := hide fun x => num_any x 0
          have HWA := hide fun x V (h : AS w1 x p bb n V L1 b wt1 (i + 1)) => h.waiters (by omega) hex
          have HHA := hide fun x V (h : AS w1 x p bb n V L1 b wt1 (i + 1)) => h.holders (by omega) hex
          have HMD : Hid (∀ x V, AS w1 x p bb n V L1 b wt1 (i + 1) → (modeOf (L1 (ex * 2)) == 0) = false ∧ (((L1 (ex * 2)).length : Int) == 0) = false ∧ IntKind.i64.wrap (((L1 (ex * 2)).length : Int) + ((L1 (ex * 2 + 1)).length : Int)) = ((L1 (ex * 2)).length : Int) + ((L1 (ex * 2 + 1)).length : Int)) := hide fun x V h => by
            have h1 := h.ok ex hex
            cases hc : L1 (ex * 2) with
            | nil => exact absurd hc HHO.out
            | cons c l =>
              have hmd := h1.md c (by rw [hc]; simp)
              have e1 : modeOf (c :: l) = c.2 := rfl
              refine ⟨?_, ?_, ?_⟩
              · rw [e1]
                rcases hmd with e | e <;> rw [e] <;> rfl
              · have : ¬ (((c :: l).length : Nat) : Int) = 0 := by rw [List.length_cons]; omega
                simpa using this
              · have hl2 := h.wf.len ex
                rw [hc] at hl2
                simp [IntKind.wrap, IntKind.bits, IntKind.signed] at hl2 ⊢
                omega
          clear HA HCA HOS
          go_wp2_with (first
            | (go_at_call 12; refine HAQ.out.mono ?_; rintro e' w5 ⟨rfl, V5, hA5, -⟩; have HA5 := hide hA5; clear hA5 HAQ)
            | (go_at_call 13; refine (HWA.out _ _ HA5.out).mono ?_; rintro e' w6 ⟨wv, rfl, hA6, -, hI6, hN6⟩; have HA6 := hide hA6; have HW6 := hide hI6; have HWN := hide hN6; obtain ⟨aw, kw, ew, -, -⟩ := rowForm hI6; rw [List.length_map] at ew; subst ew; clear hA6 hI6 hN6)
            | (go_at_call 14; refine (HHA.out _ _ HA6.out).mono ?_; rintro e' w7 ⟨hv, rfl, hA7, hC7, hI7, hN7⟩; have HA7 := hide hA7; have HH7 := hide hI7; have HHN := hide hN7; have HW7 := hide (HA6.out.irowA HW6.out hC7); obtain ⟨md1, md2, md3⟩ := HMD.out _ _ hA7; obtain ⟨ah, kh, eh, -, -⟩ := rowForm hI7; rw [List.length_map] at eh; subst eh; clear hA7 hI7 hN7 hC7)
            | (go_at_call 15; refine (HNU.out _).mono ?_; rintro e' wq ⟨rfl, hwq⟩; have hwq2 := hwq.symm; clear hwq; subst hwq2))
          have HCI : Hid (CI w1 p bb n ex b (i + 1) w7.heap.size (.slice aw (L1 (ex * 2 + 1)).length kw) ((L1 (ex * 2 + 1)).map Prod.fst) (.slice ah (L1 (ex * 2)).length kh) (.slice none 0 0) ((L1 (ex * 2)).length + (L1 (ex * 2 + 1)).length) w7) := hide ⟨V5, L1, wt1, [], HA7.out, HH7.out, IRow.nil _, HW7.out, rfl, by simp, fun g e => by simp [Value.ownBlock] at e, fun g hg => HW7.out.lt hg, HA7.out.bel.size, Nat.le_refl _, by
            rw [List.length_map]
            have h8 := HA7.out.wf.row hex
            have h9 := HA7.out.wf.le
            omega⟩
          have hk0b : (L1 (ex * 2)).length + (L1 (ex * 2 + 1)).length ≤ 3600000000000 := by have := HA7.out.wf.len ex; omega
          generalize (L1 (ex * 2 + 1)).map Prod.fst = wl at *
          generalize hk0 : (L1 (ex * 2)).length + (L1 (ex * 2 + 1)).length = k0 at *
          have HK0 : Hid (((L1 (ex * 2)).length : Int) + ((L1 (ex * 2 + 1)).length : Int) = (k0 : Int)) := hide (by omega)
          generalize hX0 : w7.heap.size = X0 at *
          clear hk0 HA5 HA6 HA7 HW6 HWN HH7 HHN HW7 HMD HHO HWA HHA hX0
          generalize Value.slice aw (L1 (ex * 2 + 1)).length kw = wv at *
          go_loopw [12, 15, 16] (fun hv cv q wr => ∃ k : Nat, k ≤ k0 ∧ q = .int .i64 (k : Int) ∧ CI w1 p bb n ex b (i + 1) X0 wv wl hv cv k wr) (fun _ _ q _ => (intOf q).toNat)
          case atStart => exact ⟨k0, Nat.le_refl _, by rw [HK0.out], HCI.out⟩
          case round =>
            obtain ⟨k, hkk, rfl, hci⟩ := hrel
            have HC := hide hci
            clear hci HCI
            cases k with
            | succ k =>
              obtain ⟨g0, kh0, q, o, ehv, hq1, hq2, hcell, hcall⟩ := HC.out.rel hex (by omega)
              subst ehv
              unfold maxLen at hq2
              obtain ⟨y1, y2, y3, y4, y5⟩ := HC.out.base
              have HY := hide (And.intro y1 (And.intro y2 (And.intro y3 (And.intro y4 y5))))
              have HRE := hide hcall
              clear hcall y1 y2 y3 y4 y5
              have hz : ((((q + 1 : Nat)) : Int) == 0) = false := by
                have : ¬ (((q + 1 : Nat)) : Int) = 0 := by omega
                simpa using this
              have hgt : 0 < (((k + 1 : Nat)) : Int) := by omega
              have hi0 : 0 ≤ (0 : Int) ∧ (0 : Int) < (((q + 1 : Nat)) : Int) := ⟨by omega, by omega⟩
              have hwk : IntKind.i64.wrap (((k + 1 : Nat) : Int) - 1) = (k : Int) := by simp [IntKind.wrap, IntKind.bits, IntKind.signed]; omega
              have hwk2 : ((k + 1 : Nat) : Int) - 1 = (k : Int) := by omega
              generalize hqq : q + 1 = q1 at *
              clear hqq
              generalize hkq : ((k + 1 : Nat) : Int) = k1 at *
              have HKQ := hide hkq
              clear hkq
              go_wp2_with (first
                | (go_at_call 16; refine HRE.out.mono ?_; rintro e' w8 ⟨iv, il, cl, V8, L8, wt8, rfl, hA8, hC8, hI8, hW8, hln8, hk8, hl8, hsz8⟩; have HA8 := hide hA8; have HC8 := hide hC8; have HI8 := hide hI8; have HW8 := hide hW8; have HLN := hide hln8; have HK8 := hide hk8; have HL8 := hide hl8; have HSZ := hide hsz8; clear hA8 hC8 hI8 hW8 hln8 hk8 hl8 hsz8 HRE)
                | (go_at_call 15; refine (HNU.out _).mono ?_; rintro e' wq ⟨rfl, hwq⟩; have hwq2 := hwq.symm; clear hwq; subst hwq2)
                | (at_builtin; refine wpList_appendI _ rfl (.tmp 108) (.tmp 109) rfl _ _ _ _ rfl rfl HC8.out HI8.out HLN.out ?_; intro cv9 w9 hC9 ha9; have HMK := hide (CI.mk (Nat.le_trans HY.out.1 HSZ.out) HY.out.2.1 HY.out.2.2.1 HY.out.2.2.2.1 HY.out.2.2.2.2 HA8.out HC8.out HW8.out HK8.out HL8.out hC9 ha9); have HHL := hide (HMK.out.1.holders (by omega) hex); clear hC9 ha9)
                | (go_at_call 14; refine HHL.out.mono ?_; rintro e' w10 ⟨hv10, rfl, hA10, hC10, hI10, -⟩; have HN := hide (HMK.out.2 _ _ hA10 hC10 hI10); clear hA10 hC10 hI10))
              go_roundw
              case rel => exact ⟨k, by omega, rfl, HN.out⟩
              case measure =>
                have := HKQ.out
                simp [intOf]
                omega
            | zero =>
              obtain ⟨V9, L9, wt9, hA9, hH9, hC9, hW9, hR9⟩ := HC.out.zero
              have HA9 := hide hA9
              have HC9 := hide hC9
              have HW9 := hide hW9
              have HR9 := hide hR9
              obtain ⟨a9, k9, e9, -, -⟩ := rowForm hH9
              simp only [List.length_nil] at e9
              subst e9
              have HWT := hide (hA9.waiters (by omega) hex)
              have HEQ : Hid (decide (wl = wl) = true) := hide (by simp)
              have HSM := hide fun x a v (h1 : IRow x a wl) (h2 : IRow x v wl) => same_any x a v wl wl h1 h2
              clear hA9 hH9 hC9 hW9 hR9
              go_wp2_with (first
                | (go_at_call 13; refine HWT.out.mono ?_; rintro e' w11 ⟨rv, rfl, hA11, hC11, hI11, -⟩; have HA11 := hide hA11; have HC11 := hide (HA9.out.irowA HC9.out hC11); have HW11 := hide (HA9.out.irowA HW9.out hC11); rw [HR9.out] at hI11; obtain ⟨a11, k11, e11, -, -⟩ := rowForm hI11; simp only [List.map_nil, List.length_nil] at e11; subst e11; clear hA11 hC11 hI11 HWT)
                | (go_at_call 17; refine (HSM.out _ _ _ HC11.out HW11.out).mono ?_; rintro e' w12 ⟨rfl, hb12⟩; rw [HEQ.out]; have HB12 := hide (HB0.out.trans ((HA11.out.bel.trans (hb12.mono HA11.out.bel.size)).mono HB0.out.size)); clear hb12)
                | (go_at_call 15; refine (HNU.out _).mono ?_; rintro e' wq ⟨rfl, hwq⟩; have hwq2 := hwq.symm; clear hwq; subst hwq2))
              go_ret
              exact ⟨rfl, HB12.out⟩
    · clear hv3
      by_cases hneg : e < 0
      · go_enter Try.func3, Try.ntmps3
        go_wp2_with (go_at_call 9; refine (HM.out _).mono ?_; rintro e' w2 ⟨rfl, hb2⟩; have HB2 := hide (HB0.out.trans (hb2.mono (by simp))); obtain ⟨c0, c1⟩ := HC0.out _ hb2; clear HM hb2)
        go_ret
        exact ⟨rfl, HB2.out⟩
      · have hge : (n : Int) ≤ e := by omega
        go_enter Try.func3, Try.ntmps3
        go_wp2_with (go_at_call 9; refine (HM.out _).mono ?_; rintro e' w2 ⟨rfl, hb2⟩; have HB2 := hide (HB0.out.trans (hb2.mono (by simp))); obtain ⟨c0, c1⟩ := HC0.out _ hb2; clear HM hb2)
        go_ret
        exact ⟨rfl, HB2.out⟩
end Go.Proofs.Ytijfnacplikibaa
