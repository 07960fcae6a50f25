import Derived.Test.YtophcdfaflehcaaWPr
import Derived.Test.YtophcdfaflehcaaWOps
namespace Go.Proofs.Ytophcdfaflehcaa
open Go.RowKit
set_option linter.unusedVariables false
set_option linter.unusedSimpArgs false
set_option maxRecDepth 20000

/-- the two buckets in a law's run -/
structure PP (w wr : World) (p q : Nat) (r b t : Int) : Prop where
  row : wr.heap[p]? = some (.cells (pRow r b t) 38 (0, 0))
  rrow : wr.heap[q]? = some (.cells (pRow r b t) 40 (0, 0))
  bel : Below w.heap.size w wr
  np : w.heap.size ≤ p
  nq : w.heap.size ≤ q
  t0 : 0 ≤ t
  tb : t ≤ b
theorem PP.ne {w wr : World} {p q : Nat} {r b t : Int} (h : PP w wr p q r b t) : p ≠ q := fun e => by
  have h1 := h.row
  rw [e, h.rrow] at h1
  simp only [Option.some.injEq, Obj.cells.injEq] at h1
  exact absurd h1.2.1 (by decide)
theorem PP.drew {w wr : World} {p q : Nat} {r b t : Int} (h : PP w wr p q r b t) : PP w wr.drew p q r b t := ⟨h.row, h.rrow, h.bel.drew, h.np, h.nq, h.t0, h.tb⟩
/-- behind the first of two calls -/
structure PH (w wr : World) (p q : Nat) (r b t t' : Int) : Prop where
  row : wr.heap[p]? = some (.cells (pRow r b t') 38 (0, 0))
  rrow : wr.heap[q]? = some (.cells (pRow r b t) 40 (0, 0))
  bel : Below w.heap.size w wr
  np : w.heap.size ≤ p
  nq : w.heap.size ≤ q
  ne : p ≠ q
theorem PP.first {w wr wr' : World} {p q : Nat} {r b t t' : Int} (h : PP w wr p q r b t) (hr : wr'.heap[p]? = some (.cells (pRow r b t') 38 (0, 0))) (hc : Chg (fun k => k = p) wr wr') : PH w wr' p q r b t t' :=
  ⟨hr, (hc.keep q (Array.getElem?_eq_some_iff.1 h.rrow).1 (fun e => h.ne e.symm)).trans h.rrow, h.bel.trans (hc.below h.bel.size fun b hb => by have := h.np; omega), h.np, h.nq, h.ne⟩
theorem PH.second {w wr wr' : World} {p q : Nat} {r b t t' : Int} (h : PH w wr p q r b t t') (hr : wr'.heap[q]? = some (.cells (pRow r b t') 40 (0, 0))) (hc : Chg (fun k => k = q) wr wr') (h0 : 0 ≤ t') (h1 : t' ≤ b) : PP w wr' p q r b t' :=
  ⟨(hc.keep p (Array.getElem?_eq_some_iff.1 h.row).1 h.ne).trans h.row, hr, h.bel.trans (hc.below h.bel.size fun b hb => by have := h.nq; omega), h.np, h.nq, h0, h1⟩

set_option maxHeartbeats 2000000 in
theorem pace_law (w : World) (r b : Int) (v : Value) (os : List OpV) (hv : OSl w v os) (hl : os.length ≤ 8796093022208) : Calls Try.prog 4 #[.int .i64 r, .int .i64 b, v] w fun e w' => e = .returned (.bool true) ∧ Below w.heap.size w w' := by
  by_cases h : okP r b
  · have HN := hide fun w => newPace_yes w r b h
    have HM := hide fun w => rNewPace_yes w r b h
    have HST : Hid (PP w ((w.alloc (.cells (pRow r b b) 38)).alloc (.cells (pRow r b b) 40)) w.heap.size (w.heap.size + 1) r b b) := hide ⟨by rw [Below.heap_alloc _ _ _ (by simp)]; exact Go.heap_alloc_new w _, by have := Go.heap_alloc_new (w.alloc (.cells (pRow r b b) 38)) (.cells (pRow r b b) 40); rwa [World.size_alloc] at this, ((Below.refl _ _).alloc (Nat.le_refl _) _).alloc (by simp) _, Nat.le_refl _, by omega, by have := h.2.2.1; omega, Int.le_refl _⟩
    obtain ⟨h1, h2, h3, h4⟩ := h
    have HOS : Hid (∀ x, Below w.heap.size w x → OSl x v os) := hide fun x hx => hv.below hx
    obtain ⟨av, cv, rfl, hv1, hv2, hv3⟩ := hv
    have HGL : Hid (0 < os.length → ∀ g off, av = some ⟨g, off, none⟩ → g < w.heap.size) := hide fun hp g off e => by
      obtain ⟨b', off', e', hc⟩ := hv3 hp
      rw [e] at e'
      simp only [Option.some.injEq, Addr.mk.injEq] at e'
      rw [e'.1]
      exact World.block_lt_of_cell? w _ (hc 0 hp).1
    clear hv3
    unfold maxLen at hv2
    generalize hN : os.length = N at *
    have HNN := hide hN
    clear hN
    unfold PV at *
    go_enter Try.func4, Try.ntmps4
    go_wp2_with (first
      | (go_at_call 5; refine (HN.out _).mono ?_; rintro e w' ⟨rfl, rfl⟩; clear HN)
      | (go_at_call 10; refine (HM.out _).mono ?_; rintro e w' ⟨rfl, rfl⟩; clear HM; simp only [World.size_alloc])
      | (go_at_call 6; refine (num_any _ _).mono ?_; rintro e w' ⟨rfl, rfl⟩))
    have HLV : Hid (∀ wr t, PP w wr w.heap.size (w.heap.size + 1) r b t → Calls Try.prog 7 #[.pointer (some ⟨w.heap.size, 0, none⟩)] wr fun e w' => e = .returned (.int .i64 t) ∧ w' = wr) := hide fun wr t h => level_any h.row
    have HRL : Hid (∀ wr t, PP w wr w.heap.size (w.heap.size + 1) r b t → Calls Try.prog 13 #[.pointer (some ⟨w.heap.size + 1, 0, none⟩)] wr fun e w' => e = .returned (.int .i64 t) ∧ w' = wr) := hide fun wr t h => rLevel_any h.rrow
    have HTI : Hid (∀ wr t, PP w wr w.heap.size (w.heap.size + 1) r b t → Calls Try.prog 9 #[.pointer (some ⟨w.heap.size, 0, none⟩)] wr fun e w' => e = .returned (.tuple #[]) ∧ PH w w' w.heap.size (w.heap.size + 1) r b t (tck r b t)) := hide fun wr t h => (tick_any h.row ⟨h1, h2⟩ ⟨h3, h4⟩ ⟨h.t0, by have := h.tb; omega⟩).mono fun e w' hh => ⟨hh.1, h.first hh.2.1 hh.2.2⟩
    have HRT : Hid (∀ wr t, 0 ≤ t → t ≤ b → PH w wr w.heap.size (w.heap.size + 1) r b t (tck r b t) → Calls Try.prog 11 #[.pointer (some ⟨w.heap.size + 1, 0, none⟩)] wr fun e w' => e = .returned (.tuple #[]) ∧ PP w w' w.heap.size (w.heap.size + 1) r b (tck r b t)) := hide fun wr t h0 hb h => (rTick_any h.rrow ⟨h1, h2⟩ ⟨h3, h4⟩ ⟨h0, by omega⟩).mono fun e w' hh => ⟨hh.1, h.second hh.2.1 hh.2.2 (tck_le h0 h1 (by omega)).1 (tck_le h0 h1 (by omega)).2⟩
    have HTY : Hid (∀ wr t n, 1 ≤ n → n ≤ t → PP w wr w.heap.size (w.heap.size + 1) r b t → Calls Try.prog 8 #[.pointer (some ⟨w.heap.size, 0, none⟩), .int .i64 n] wr fun e w' => e = .returned (.bool true) ∧ PH w w' w.heap.size (w.heap.size + 1) r b t (t - n)) := hide fun wr t n g1 g2 h => (take_yes n h.row ⟨h.t0, by have := h.tb; omega⟩ g1 g2).mono fun e w' hh => ⟨hh.1, h.first hh.2.1 hh.2.2⟩
    have HRY : Hid (∀ wr t n, 0 ≤ t → t ≤ b → 1 ≤ n → n ≤ t → PH w wr w.heap.size (w.heap.size + 1) r b t (t - n) → Calls Try.prog 12 #[.pointer (some ⟨w.heap.size + 1, 0, none⟩), .int .i64 n] wr fun e w' => e = .returned (.bool true) ∧ PP w w' w.heap.size (w.heap.size + 1) r b (t - n)) := hide fun wr t n h0 hb g1 g2 h => (rTake_yes n h.rrow ⟨h0, by omega⟩ g1 g2).mono fun e w' hh => ⟨hh.1, h.second hh.2.1 hh.2.2 (by omega) (by omega)⟩
    have HTN : Hid (∀ wr t n, n < 1 ∨ t < n → PP w wr w.heap.size (w.heap.size + 1) r b t → Calls Try.prog 8 #[.pointer (some ⟨w.heap.size, 0, none⟩), .int .i64 n] wr fun e w' => e = .returned (.bool false) ∧ w' = wr) := hide fun wr t n g1 h => take_no n h.row g1
    have HRN : Hid (∀ wr t n, n < 1 ∨ t < n → PP w wr w.heap.size (w.heap.size + 1) r b t → Calls Try.prog 12 #[.pointer (some ⟨w.heap.size + 1, 0, none⟩), .int .i64 n] wr fun e w' => e = .returned (.bool false) ∧ w' = wr) := hide fun wr t n g1 h => rTake_no n h.rrow g1
    generalize (w.alloc (.cells (pRow r b b) 38)).alloc (.cells (pRow r b b) 40) = w0 at *
    go_loopw [11] (fun y wr => ∃ (i : Nat) (t : Int), y = .int .i64 (i : Int) ∧ i ≤ N ∧ PP w wr w.heap.size (w.heap.size + 1) r b t) (fun y _ => N - (intOf y).toNat)
    case atStart => exact ⟨0, b, rfl, Nat.zero_le _, HST.out⟩
    case round =>
      obtain ⟨i, t, rfl, hi, hP⟩ := hrel
      have HP := hide hP
      have ht0 := hP.t0
      have htb := hP.tb
      clear hP HST
      by_cases hlt : i < N
      · obtain ⟨a', c', e', -, -, hc'⟩ := HOS.out wr HP.out.bel
        obtain ⟨g, off, ea, hce⟩ := hc' (by rw [HNN.out]; omega)
        obtain ⟨e0, e1⟩ := hce i (by rw [HNN.out]; omega)
        simp only [Value.slice.injEq] at e'
        obtain ⟨rfl, -, -⟩ := e'
        subst ea
        generalize os.getD i default = s at *
        obtain ⟨kind, nn⟩ := s
        dsimp only at e0 e1
        have HCE : Hid (∀ x, Below w.heap.size w x → x.cell? ⟨g, off + i * 2 + 1, none⟩ = some (.int .i64 nn)) := hide fun x hx => by
          have e2 := e1
          have hg0 := HGL.out (by omega) g off rfl
          rw [below_cellW hx hg0]
          rw [below_cellW HP.out.bel hg0] at e2
          exact e2
        clear hc' hce
        have hii : 0 ≤ (i : Int) ∧ (i : Int) < (N : Int) := ⟨by omega, by omega⟩
        by_cases k0 : kind = 0
        · subst k0
          go_wp2_with (first
            | (go_at_call 9; refine (HTI.out _ _ HP.out).mono ?_; rintro e w2 ⟨rfl, hH⟩; have HH := hide hH; clear hH)
            | (go_at_call 11; refine (HRT.out _ _ ht0 htb HH.out).mono ?_; rintro e w3 ⟨rfl, hP3⟩; have HP3 := hide hP3; clear hP3))
          go_roundw
          case rel => exact ⟨i + 1, _, by go_num, by omega, HP3.out⟩
          case measure => simp [intOf]; omega
        · have k0' : (kind == 0) = false := by simpa using k0
          by_cases k1 : kind = 1
          · subst k1
            clear k0 k0'
            by_cases hn : 1 ≤ nn ∧ nn ≤ t
            · obtain ⟨hn1, hn2⟩ := hn
              go_wp2_with fail
              have HPD := hide HP.out.drew
              go_region_held3 (fun w' => w'.cell? ⟨g, off + i * 2 + 1, none⟩ = some (.int .i64 nn)) (first | assumption | go_keep)
                (first
                | (go_at_call 8; refine (HTY.out _ _ _ hn1 hn2 HPD.out).mono ?_; rintro e w2 ⟨rfl, hH⟩; have s2 := HCE.out _ hH.bel; have HH := hide hH; clear hH)
                | (go_at_call 12; refine (HRY.out _ _ _ ht0 htb hn1 hn2 HH.out).mono ?_; rintro e w3 ⟨rfl, hP3⟩; have s3 := HCE.out _ hP3.bel; have HP3 := hide hP3; clear hP3))
              go_wp2_with fail
              go_roundw
              case rel => exact ⟨i + 1, _, by go_num, by omega, HP3.out⟩
              case measure => simp [intOf]; omega
            · have HNO : Hid (nn < 1 ∨ t < nn) := hide (by omega)
              clear hn
              go_wp2_with fail
              have HPD := hide HP.out.drew
              go_region_held3 (fun w' => w'.cell? ⟨g, off + i * 2 + 1, none⟩ = some (.int .i64 nn)) (first | assumption | go_keep)
                (first
                | (go_at_call 8; refine (HTN.out _ _ _ HNO.out HPD.out).mono ?_; rintro e w2 ⟨rfl, rfl⟩)
                | (go_at_call 12; refine (HRN.out _ _ _ HNO.out HPD.out).mono ?_; rintro e w3 ⟨rfl, rfl⟩))
              go_wp2_with fail
              go_roundw
              case rel => exact ⟨i + 1, _, by go_num, by omega, HPD.out⟩
              case measure => simp [intOf]; omega
          · have k1' : (kind == 1) = false := by simpa using k1
            by_cases k2 : kind = 2
            · subst k2
              clear k0 k0' k1 k1'
              go_wp2_with (first
                | (go_at_call 7; refine (HLV.out _ _ HP.out).mono ?_; rintro e w2 ⟨rfl, rfl⟩)
                | (go_at_call 13; refine (HRL.out _ _ HP.out).mono ?_; rintro e w3 ⟨rfl, rfl⟩))
              go_roundw
              case rel => exact ⟨i + 1, _, by go_num, by omega, HP.out⟩
              case measure => simp [intOf]; omega
            · have k2' : (kind == 2) = false := by simpa using k2
              clear k0 k1 k2
              go_wp2_with fail
              go_roundw
              case rel => exact ⟨i + 1, _, by go_num, by omega, HP.out⟩
              case measure => simp [intOf]; omega
      · have hnl : ¬ (i : Int) < (N : Int) := by omega
        go_wp2_with (first
          | (go_at_call 7; refine (HLV.out _ _ HP.out).mono ?_; rintro e w2 ⟨rfl, rfl⟩)
          | (go_at_call 13; refine (HRL.out _ _ HP.out).mono ?_; rintro e w3 ⟨rfl, rfl⟩))
        go_ret
        exact ⟨by simp, HP.out.bel⟩
  · have HN := hide fun w => newPace_no w r b h
    have HM := hide fun w => rNewPace_no w r b h
    obtain ⟨av, cv, rfl, hv1, hv2, hv3⟩ := hv
    clear h hv3
    unfold maxLen at hv2
    generalize os.length = N at *
    go_enter Try.func4, Try.ntmps4
    go_wp2_with (first
      | (go_at_call 5; refine (HN.out _).mono ?_; rintro e w' ⟨rfl, rfl⟩)
      | (go_at_call 10; refine (HM.out _).mono ?_; rintro e w' ⟨rfl, rfl⟩)
      | (go_at_call 6; refine (num_any _ _).mono ?_; rintro e w' ⟨rfl, rfl⟩))
    refine wp_loop_rounds 1 ?_
    rw [rounds_succ]
    by_cases h0 : (0 : Int) < (N : Int)
    · go_wp2_with fail
      go_ret
      exact ⟨rfl, Below.refl _ _⟩
    · go_wp2_with fail
      go_ret
      exact ⟨rfl, Below.refl _ _⟩
end Go.Proofs.Ytophcdfaflehcaa
