import Derived.Test.YtepgiomgkgfioaaBSetR
import Derived.Test.YtepgiomgkgfioaaRows
import Derived.WalkKit
import Derived.WalkSpells
import Derived.WalkLawsBesides
import Derived.Laws.BitsAllLaws
import Derived.BigQuiet
import Derived.Deep.QuietTactic
import Derived.Laws.AppendOwnNone
import Derived.Laws.CopyOwn
import Derived.Lib.SliceRun
import Derived.Maps.RangeWalk
import Derived.Maps.AppendAt
import Derived.OwnWalk
import Derived.Laws.Tables
import Derived.Laws.Rows
import Derived.Deep.WholeRow
import Derived.Laws.ResultCell
import Derived.StillTailTactics
import Derived.Deep.DeepAppendWide
import Derived.Deep.RegionHeld3
import Derived.Carry
import Derived.Test.YtepgiomgkgfioaaMtUpon
import Derived.Test.YtepgiomgkgfioaaMtUa
import Derived.Test.YtepgiomgkgfioaaMtPk
import Derived.Test.YtepgiomgkgfioaaMtArea
import Derived.Test.YtepgiomgkgfioaaMtBx
import Derived.Test.YtepgiomgkgfioaaBFrom2
import Derived.Test.YtepgiomgkgfioaaAOwn
namespace Go.Proofs.Ytepgiomgkgfioaa.B
open Go.RowKit Go.Shelf
attribute [local go_sem] Oper.semAt_some
set_option linter.unusedVariables false
set_option linter.unusedSimpArgs false
set_option maxRecDepth 20000

set_option maxHeartbeats 2000000 in
theorem SetRange_any {w : World} {L : BL} {n B a c : Nat} (h : BRep w L n B) (hac : a + c ≤ n) :
    Calls Try.prog 20 #[PB L, .int .i64 (a : Int), .int .i64 (c : Int)] w fun e w' => e = .returned (.tuple #[.int .i64 ((cnt (fun j => !B.testBit (a + j)) c : Nat) : Int), .int .i64 0]) ∧ BRep w' L n (setR B a (a + c)) ∧ Chg L.U w w' := by
  refine (callsIn_wide (n := 5)).1 ?_
  have hck := checkRange_any (h.below ((Below.refl _ _).alloc (Nat.le_refl _) (.cells #[PB L] 25))) (a : Int) (c : Int)
  rw [show rgErr n (a : Int) (c : Int) = 0 by unfold rgErr; rw [if_neg (by omega), if_neg (by omega)]] at hck
  have HCK := hide hck
  have hn := h.n2
  clear hck
  have H := hide h
  have hlp := h.bp
  have hlo := h.blo
  clear h
  unfold PB at *
  refine callsIn_of_wp_marks Try.func20 rfl trivial ?_ rfl
  simp only [Try.ntmps20, List.size_toArray, List.length_cons, List.length_nil, Nat.reduceAdd, Nat.reduceSub, Array.replicate_succ, Array.replicate_zero, List.push_toArray, List.append_toArray, List.nil_append, List.cons_append]
  gi_wp2_with (first
    | (refine ⟨trivial, ?_⟩; gi_at_call 42; refine (callsIn_wide.2 HCK.out).mono ?_; rintro e w' ⟨rfl, rfl⟩; simp only [Int.natCast_zero])
    | (refine ⟨trivial, ?_⟩; gi_at_call 43; refine (callsIn_wide.2 (pieces_any _ _ _)).mono ?_; rintro e w' ⟨rfl, rfl⟩))
  have hsz := rW0_size w L a c
  have START := RInv.start L.U H.out a c
  have hl := hide H.out.uLt
  have hlu : Hid (∀ b, (L.U) b → b < w.heap.size) := hide (hl.out)
  generalize hW0 : rW0 w L a c = W0 at *
  unfold rW0 at hW0
  rw [hW0]
  clear hW0 HCK
  refine wpIn_range_st rfl (by decide) (gf := 49) (lb := #[.pointer (some ⟨w.heap.size + 1 + 1, 0, none⟩), .pointer (some ⟨w.heap.size + 1 + 1 + 1, 0, none⟩)]) rfl trivial enters60
    (pieces_seq _ (w.heap.size + 1 + 1) (w.heap.size + 1 + 1 + 1) a (a + c) (by omega) (by omega)) (fun _ => rfl)
    (fun s W => a ≤ s ∧ s ≤ a + c ∧ RInv L.U w W L n (setR B a s) a (a + c) (cnt (fun j => !B.testBit (a + j)) (s - a)))
    (fun _ _ => False)
    (fun s A B' row hs hg hr => ⟨hs.1, hs.2.1, hs.2.2.own (by omega) hg hr⟩)
    (fun _ _ _ _ _ hs _ _ => hs)
    (fun s W hs => ⟨by rw [cell_of_row _ _ _ _ _ _ hs.2.2.b2]; rfl, by rw [cell_of_row _ _ _ _ _ _ hs.2.2.b3]; rfl⟩)
    (fun s x s' => fun _ A B' row hs hg hr => hs) (fun s A B' row hs hg hr => hs)
    ⟨Nat.le_refl _, by omega, by rw [setR_none, Nat.sub_self]; exact START⟩
    (fun x => { tmps := #[.pointer (some ⟨L.p, 0, none⟩), .int .i64 a, .int .i64 c, .pointer (some ⟨w.heap.size, 0, none⟩), undef, undef, .int .i64 0, .int .i64 0, .int .i64 0, .pointer (some ⟨w.heap.size + 1, 0, none⟩), .int .i64 x.1, .int .u64 x.2, .pointer (some ⟨L.p, 0, none⟩), .int .i64 a, .int .i64 c, .int .i64 0, .int .i64 0, .bool false, undef, .int .i64 a, .int .i64 a, .int .i64 c, .int .i64 (a + c), .func (.func 49) #[] #[.pointer (some ⟨w.heap.size + 1 + 1, 0, none⟩), .pointer (some ⟨w.heap.size + 1 + 1 + 1, 0, none⟩)], .int .i64 x.1, .int .u64 x.2, undef, undef, undef, undef, undef, undef, undef, undef, undef, undef, undef, undef, undef, undef, undef], defers := [] })
    ?assign ?body ?done ?stop
  case assign =>
    intro l x W K hK
    simp only [pcEnc]
    gi_wp2
    exact hK
  case body =>
    rintro l s x s' W hl1 hl2 ⟨hs1, hs2, hI⟩ ⟨hlt, rfl, rfl⟩
    obtain ⟨s', hst⟩ : ∃ s', stopAt (a + c) s = s' := ⟨_, rfl⟩
    have hs' : s < s' ∧ s' ≤ (s / 64 + 1) * 64 ∧ s' ≤ a + c := by rw [← hst]; unfold stopAt; omega
    rw [hst]
    obtain ⟨q1, q2, q3⟩ := hs'
    have hkW : s / 64 < nW n := by unfold nW; omega
    have hR := hI.rep
    have c1 := hR.c1
    have hcl := hR.cl hkW
    have hc0 : W.cell? ⟨w.heap.size, 0, none⟩ = some (.pointer (some ⟨L.p, 0, none⟩)) := by rw [cell_of_row _ _ _ _ _ _ hI.b0]; rfl
    have hc1 : W.cell? ⟨w.heap.size + 1, 0, none⟩ = some (.int .i64 ((cnt (fun j => !B.testBit (a + j)) (s - a) : Nat) : Int)) := by rw [cell_of_row _ _ _ _ _ _ hI.b1]; rfl
    have hf1 : W.frozen? ⟨w.heap.size + 1, 0, none⟩ = false := frozen_of_row _ _ _ _ 3 hI.b1
    have hb1 : w.heap.size + 1 < W.heap.size := (Array.getElem?_eq_some_iff.1 hI.b1).1
    have hml : msk (s % 64) (s % 64 + (s' - s)) < 18446744073709551616 := (mask_nat (by omega)).2
    have eo := u64_or_nat _ _ (wd_lt (setR B a s) (s / 64)) hml
    have hxo : wd (setR B a s) (s / 64) ||| msk (s % 64) (s % 64 + (s' - s)) < 18446744073709551616 := Nat.or_lt_two_pow (n := 64) (wd_lt _ _) hml
    obtain ⟨e1, e2⟩ := wd_setR (B := B) hs1 q1 q2 rfl
    have hlay := fun (W' : World) (hw : BRep W' L n (setR B a s)) => lay_any (B' := (setR B a s')) hw hkW hxo e1 (fun j _ hj => e2 j hj) (setR_lt H.out.hB (by omega))
    have ec := cnt_setR (B := B) hs1 q1 q2
    have ecs : cnt (fun j => !B.testBit (a + j)) (s' - a) = cnt (fun j => !B.testBit (a + j)) (s - a) + cnt (fun j => !B.testBit (s + j)) (s' - s) := by
      rw [show s' - a = (s - a) + (s' - s) by omega, cnt_add]
      congr 1
      exact cnt_congr _ fun i _ => by rw [show a + (s - a + i) = s + i by omega]
    rw [← ec] at ecs
    have hle1 := cnt_le (fun j => !B.testBit (a + j)) (s - a)
    have hle2 := cnt_le (wd (setR B a s) (s / 64) ^^^ (wd (setR B a s) (s / 64) ||| msk (s % 64) (s % 64 + (s' - s)))).testBit 64
    have HECS := hide ecs
    have HLAY := hide hlay
    have HI := hide hI
    have HREP : Hid (BRep W.drew L n (setR B a s)) := hide (hR.kept fun _ _ => rfl)
    clear ecs ec hlay hI hR hst START
    generalize cnt (wd (setR B a s) (s / 64) ^^^ (wd (setR B a s) (s / 64) ||| msk (s % 64) (s % 64 + (s' - s)))).testBit 64 = d at *
    generalize cnt (fun j => !B.testBit (a + j)) (s - a) = cc at *
    generalize wd (setR B a s) (s / 64) ||| msk (s % 64) (s % 64 + (s' - s)) = y at *
    generalize msk (s % 64) (s % 64 + (s' - s)) = m at *
    generalize wd (setR B a s) (s / 64) = u at *
    obtain ⟨k, hk⟩ : ∃ k, s / 64 = k := ⟨_, rfl⟩
    rw [hk] at hkW hcl HLAY ⊢
    clear hk
    obtain ⟨m1, hm1⟩ : ∃ m1, nW n = m1 := ⟨_, rfl⟩
    rw [hm1] at hkW c1
    have hW : m1 ≤ 1024 := by rw [← hm1]; unfold nW; omega
    have HM1 := hide hm1
    clear hm1
    have hclD : W.drew.cell? ⟨L.lo, k, none⟩ = some (.int .u64 (u : Int)) := hcl
    have hc1D : W.drew.cell? ⟨w.heap.size + 1, 0, none⟩ = some (.int .i64 (cc : Int)) := hc1
    have hf1D : W.drew.frozen? ⟨w.heap.size + 1, 0, none⟩ = false := hf1
    have hdr : W.drew.cell? ⟨w.heap.size, 0, none⟩ = some (.pointer (some ⟨L.p, 0, none⟩)) ∧ W.drew.cell? ⟨L.p, 1, none⟩ = some (.slice (some ⟨L.lo, 0, none⟩) m1 m1) := ⟨hc0, c1⟩
    clear e1 e2 hcl hc1 hf1 hc0 c1
    refine wpIn_block ?_
    refine wpIn_region_heldR (fun W' => W'.cell? ⟨w.heap.size, 0, none⟩ = some (.pointer (some ⟨L.p, 0, none⟩)) ∧ W'.cell? ⟨L.p, 1, none⟩ = some (.slice (some ⟨L.lo, 0, none⟩) m1 m1)) (by kernel_rfl) (by kernel_rfl) (by rintro ⟨_, _, h⟩; exact h) hdr (fun hHeld => ?_)
    clear hdr
    simp only [List.size_toArray, List.length_cons, List.length_nil, Nat.reduceAdd, Array.replicate_succ, Array.replicate_zero, List.push_toArray, List.nil_append, List.cons_append]
    refine wpAnyH_take (i := 1) (v := ?v1) rfl (by kernel_rfl) (by kernel_rfl) (by kernel_rfl) (fun _ _ _ h => h) (Or.inl ⟨by rfl, ?h1⟩) hHeld ?r1
    case h1 => intro w' hSw; obtain ⟨hs0, hs1⟩ := hSw; go_simp; (try with_reducible rfl)
    simp only [Act.put, List.setIfInBounds_toArray, List.set_cons_zero, List.set_cons_succ]
    refine wpAnyH_take (i := 2) (v := ?v2) rfl (by kernel_rfl) (by kernel_rfl) (by kernel_rfl) (fun _ _ _ h => h) (Or.inl ⟨by rfl, ?h2⟩) hHeld ?r2
    case h2 => intro w' hSw; obtain ⟨hs0, hs1⟩ := hSw; go_simp; (try with_reducible rfl)
    simp only [Act.put, List.setIfInBounds_toArray, List.set_cons_zero, List.set_cons_succ]
    refine wpAnyH_take (i := 3) (v := ?v3) rfl (by kernel_rfl) (by kernel_rfl) (by kernel_rfl) (fun _ _ _ h => h) (Or.inl ⟨by rfl, ?h3⟩) hHeld ?r3
    case h3 => intro w' hSw; obtain ⟨hs0, hs1⟩ := hSw; go_simp; (try with_reducible rfl)
    simp only [Act.put, List.setIfInBounds_toArray, List.set_cons_zero, List.set_cons_succ]
    refine wpAnyH_take (i := 4) (v := ?v4) rfl (by kernel_rfl) (by kernel_rfl) (by kernel_rfl) (fun _ _ _ h => h) (Or.inl ⟨by rfl, ?h4⟩) hHeld ?r4
    case h4 => intro w' hSw; obtain ⟨hs0, hs1⟩ := hSw; go_simp; (try with_reducible rfl)
    simp only [Act.put, List.setIfInBounds_toArray, List.set_cons_zero, List.set_cons_succ]
    refine wpAnyH_take (i := 5) (v := ?v5) rfl (by kernel_rfl) (by kernel_rfl) (by kernel_rfl) (fun _ _ _ h => h) (Or.inl ⟨by rfl, ?h5⟩) hHeld ?r5
    case h5 => intro w' hSw; obtain ⟨hs0, hs1⟩ := hSw; go_simp; (try with_reducible rfl)
    simp only [Act.put, List.setIfInBounds_toArray, List.set_cons_zero, List.set_cons_succ]
    refine wpAnyH_take (i := 6) (v := ?v6) rfl (by kernel_rfl) (by kernel_rfl) (by kernel_rfl) (fun _ _ _ h => h) (Or.inl ⟨by rfl, ?h6⟩) hHeld ?r6
    case h6 => intro w' hSw; obtain ⟨hs0, hs1⟩ := hSw; go_simp; (try with_reducible rfl)
    simp only [Act.put, List.setIfInBounds_toArray, List.set_cons_zero, List.set_cons_succ]
    refine wpAnyH_take (i := 7) (v := ?v7) rfl (by kernel_rfl) (by kernel_rfl) (by kernel_rfl) (fun _ _ _ h => h) (Or.inl ⟨by rfl, ?h7⟩) hHeld ?r7
    case h7 => intro w' hSw; obtain ⟨hs0, hs1⟩ := hSw; go_simp; (try with_reducible rfl)
    simp only [Act.put, List.setIfInBounds_toArray, List.set_cons_zero, List.set_cons_succ]
    refine wpAnyH_take (i := 8) (v := ?v8) rfl (by kernel_rfl) (by kernel_rfl) (by kernel_rfl) (fun _ _ _ h => h) (Or.inl ⟨by rfl, ?h8⟩) hHeld ?r8
    case h8 => intro w' hSw; obtain ⟨hs0, hs1⟩ := hSw; go_simp; (try with_reducible rfl)
    simp only [Act.put, List.setIfInBounds_toArray, List.set_cons_zero, List.set_cons_succ]
    refine wpAnyH_take (i := 10) (v := ?v9) rfl (by kernel_rfl) (by kernel_rfl) (by kernel_rfl) (fun _ _ _ h => h) (Or.inl ⟨by rfl, ?h9⟩) hHeld ?r9
    case h9 => intro w' hSw; obtain ⟨hs0, hs1⟩ := hSw; go_simp; (try with_reducible rfl)
    simp only [Act.put, List.setIfInBounds_toArray, List.set_cons_zero, List.set_cons_succ]
    refine wpAnyH_ready (rs := [0, 9]) (by kernel_rfl) (by simp) ?_
    refine AllReadyH.cons rfl (fun K hK => ?_) ?_
    · go_simp
      refine hK.out _ _ hHeld (fun hHeld => ?_)
      clear hK K
      (try simp only [Act.put, List.setIfInBounds_toArray, List.set_cons_zero, List.set_cons_succ])
      refine wpAnyH_ready (rs := [9]) (by kernel_rfl) (by simp) ?_
      refine AllReadyH.cons rfl (fun K hK => ?_) ?_
      · go_simp
        refine hK.out _ _ hHeld (fun hHeld => ?_)
        clear hK K
        (try simp only [Act.put, List.setIfInBounds_toArray, List.set_cons_zero, List.set_cons_succ])
        refine wpAnyH_take (i := 11) (v := ?v10) rfl (by kernel_rfl) (by kernel_rfl) (by kernel_rfl) (fun _ _ _ h => h) (Or.inl ⟨by rfl, ?h10⟩) hHeld ?r10
        case h10 => intro w' hSw; obtain ⟨hs0, hs1⟩ := hSw; go_simp; (try with_reducible rfl)
        simp only [Act.put, List.setIfInBounds_toArray, List.set_cons_zero, List.set_cons_succ]
        refine wpAnyH_ready (rs := [12]) (by kernel_rfl) (by simp) ?_
        refine AllReadyH.cons rfl (fun K hK => ?_) ?_
        · go_simp
          (go_at_call 44; refine (HLAY.out _ HREP.out).mono ?_; rintro e w2 ⟨rfl, hrep2, hchg2, hsz2⟩; have hc2 := (World.cell?_of_block (hchg2.keep (w.heap.size + 1) hb1 (fun hu => by have := hl.out _ hu; omega))).trans hc1D; have hf2 := (World.frozen?_of_block (hchg2.keep (w.heap.size + 1) hb1 (fun hu => by have := hl.out _ hu; omega))).trans hf1D; have HR2 := hide hrep2; have HC2 := hide hchg2; have HZ2 := hide hsz2; clear hrep2 hchg2 hsz2)
          refine hK.out _ _ ⟨(World.cell?_of_block (HC2.out.keep w.heap.size (by show w.heap.size < W.heap.size; omega) (fun hu => by have := hl.out _ hu; omega))).trans hHeld.1, by have := HR2.out.c1; rw [HM1.out] at this; exact this⟩ (fun hHeld => ?_)
          clear hK K
          (try simp only [Act.put, List.setIfInBounds_toArray, List.set_cons_zero, List.set_cons_succ])
          refine wpAnyH_take (i := 13) (v := ?v11) rfl (by kernel_rfl) (by kernel_rfl) (by kernel_rfl) (fun _ _ _ h => h) (Or.inl ⟨by rfl, ?h11⟩) hHeld ?r11
          case h11 => intro w' hSw; obtain ⟨hs0, hs1⟩ := hSw; go_simp; (try with_reducible rfl)
          simp only [Act.put, List.setIfInBounds_toArray, List.set_cons_zero, List.set_cons_succ]
          refine wpAnyH_ready (rs := [14]) (by kernel_rfl) (by simp) ?_
          refine AllReadyH.cons rfl (fun K hK => ?_) ?_
          · go_simp
            refine hK.out _ _ ⟨(World.cell?_of_block (Go.heap_setCell_other _ _ _ _ (by simp))).trans hHeld.1, (World.cell?_of_block (Go.heap_setCell_other _ _ _ _ (by show L.p ≠ w.heap.size + 1; omega))).trans hHeld.2⟩ (fun hHeld => ?_)
            clear hK K
            (try simp only [Act.put, List.setIfInBounds_toArray, List.set_cons_zero, List.set_cons_succ])
            refine wpAnyH_done (by kernel_rfl) ?_ _
            exact (fun hh => ⟨hh.2, by omega, by omega, hh.1⟩) (HI.out.stored (N := W0.heap.size) (C := IntKind.i64.wrap ((cc : Int) + (d : Int))) (c' := cnt (fun j => !B.testBit (a + j)) (s' - a)) hl.out hlu.out HR2.out HC2.out.ofDrew (Nat.le_of_eq HZ2.out.symm) (by rw [HECS.out, IntKind.wrap_i64]; omega) (by omega))
          exact AllReadyH.nil
        exact AllReadyH.nil
      exact AllReadyH.nil
    refine AllReadyH.cons rfl (fun K hK => ?_) ?_
    · go_simp
      refine hK.out _ _ hHeld (fun hHeld => ?_)
      clear hK K
      (try simp only [Act.put, List.setIfInBounds_toArray, List.set_cons_zero, List.set_cons_succ])
      refine wpAnyH_take (i := 11) (v := ?v12) rfl (by kernel_rfl) (by kernel_rfl) (by kernel_rfl) (fun _ _ _ h => h) (Or.inl ⟨by rfl, ?h12⟩) hHeld ?r12
      case h12 => intro w' hSw; obtain ⟨hs0, hs1⟩ := hSw; go_simp; (try with_reducible rfl)
      simp only [Act.put, List.setIfInBounds_toArray, List.set_cons_zero, List.set_cons_succ]
      refine wpAnyH_ready (rs := [0, 12]) (by kernel_rfl) (by simp) ?_
      refine AllReadyH.cons rfl (fun K hK => ?_) ?_
      · go_simp
        refine hK.out _ _ hHeld (fun hHeld => ?_)
        clear hK K
        (try simp only [Act.put, List.setIfInBounds_toArray, List.set_cons_zero, List.set_cons_succ])
        refine wpAnyH_ready (rs := [12]) (by kernel_rfl) (by simp) ?_
        refine AllReadyH.cons rfl (fun K hK => ?_) ?_
        · go_simp
          (go_at_call 44; refine (HLAY.out _ HREP.out).mono ?_; rintro e w2 ⟨rfl, hrep2, hchg2, hsz2⟩; have hc2 := (World.cell?_of_block (hchg2.keep (w.heap.size + 1) hb1 (fun hu => by have := hl.out _ hu; omega))).trans hc1D; have hf2 := (World.frozen?_of_block (hchg2.keep (w.heap.size + 1) hb1 (fun hu => by have := hl.out _ hu; omega))).trans hf1D; have HR2 := hide hrep2; have HC2 := hide hchg2; have HZ2 := hide hsz2; clear hrep2 hchg2 hsz2)
          refine hK.out _ _ ⟨(World.cell?_of_block (HC2.out.keep w.heap.size (by show w.heap.size < W.heap.size; omega) (fun hu => by have := hl.out _ hu; omega))).trans hHeld.1, by have := HR2.out.c1; rw [HM1.out] at this; exact this⟩ (fun hHeld => ?_)
          clear hK K
          (try simp only [Act.put, List.setIfInBounds_toArray, List.set_cons_zero, List.set_cons_succ])
          refine wpAnyH_take (i := 13) (v := ?v13) rfl (by kernel_rfl) (by kernel_rfl) (by kernel_rfl) (fun _ _ _ h => h) (Or.inl ⟨by rfl, ?h13⟩) hHeld ?r13
          case h13 => intro w' hSw; obtain ⟨hs0, hs1⟩ := hSw; go_simp; (try with_reducible rfl)
          simp only [Act.put, List.setIfInBounds_toArray, List.set_cons_zero, List.set_cons_succ]
          refine wpAnyH_ready (rs := [14]) (by kernel_rfl) (by simp) ?_
          refine AllReadyH.cons rfl (fun K hK => ?_) ?_
          · go_simp
            refine hK.out _ _ ⟨(World.cell?_of_block (Go.heap_setCell_other _ _ _ _ (by simp))).trans hHeld.1, (World.cell?_of_block (Go.heap_setCell_other _ _ _ _ (by show L.p ≠ w.heap.size + 1; omega))).trans hHeld.2⟩ (fun hHeld => ?_)
            clear hK K
            (try simp only [Act.put, List.setIfInBounds_toArray, List.set_cons_zero, List.set_cons_succ])
            refine wpAnyH_done (by kernel_rfl) ?_ _
            exact (fun hh => ⟨hh.2, by omega, by omega, hh.1⟩) (HI.out.stored (N := W0.heap.size) (C := IntKind.i64.wrap ((cc : Int) + (d : Int))) (c' := cnt (fun j => !B.testBit (a + j)) (s' - a)) hl.out hlu.out HR2.out HC2.out.ofDrew (Nat.le_of_eq HZ2.out.symm) (by rw [HECS.out, IntKind.wrap_i64]; omega) (by omega))
          exact AllReadyH.nil
        exact AllReadyH.nil
      refine AllReadyH.cons rfl (fun K hK => ?_) ?_
      · go_simp
        (go_at_call 44; refine (HLAY.out _ HREP.out).mono ?_; rintro e w2 ⟨rfl, hrep2, hchg2, hsz2⟩; have hc2 := (World.cell?_of_block (hchg2.keep (w.heap.size + 1) hb1 (fun hu => by have := hl.out _ hu; omega))).trans hc1D; have hf2 := (World.frozen?_of_block (hchg2.keep (w.heap.size + 1) hb1 (fun hu => by have := hl.out _ hu; omega))).trans hf1D; have HR2 := hide hrep2; have HC2 := hide hchg2; have HZ2 := hide hsz2; clear hrep2 hchg2 hsz2)
        refine hK.out _ _ ⟨(World.cell?_of_block (HC2.out.keep w.heap.size (by show w.heap.size < W.heap.size; omega) (fun hu => by have := hl.out _ hu; omega))).trans hHeld.1, by have := HR2.out.c1; rw [HM1.out] at this; exact this⟩ (fun hHeld => ?_)
        clear hK K
        (try simp only [Act.put, List.setIfInBounds_toArray, List.set_cons_zero, List.set_cons_succ])
        refine wpAnyH_ready (rs := [0]) (by kernel_rfl) (by simp) ?_
        refine AllReadyH.cons rfl (fun K hK => ?_) ?_
        · go_simp
          refine hK.out _ _ hHeld (fun hHeld => ?_)
          clear hK K
          (try simp only [Act.put, List.setIfInBounds_toArray, List.set_cons_zero, List.set_cons_succ])
          refine wpAnyH_take (i := 13) (v := ?v14) rfl (by kernel_rfl) (by kernel_rfl) (by kernel_rfl) (fun _ _ _ h => h) (Or.inl ⟨by rfl, ?h14⟩) hHeld ?r14
          case h14 => intro w' hSw; obtain ⟨hs0, hs1⟩ := hSw; go_simp; (try with_reducible rfl)
          simp only [Act.put, List.setIfInBounds_toArray, List.set_cons_zero, List.set_cons_succ]
          refine wpAnyH_ready (rs := [14]) (by kernel_rfl) (by simp) ?_
          refine AllReadyH.cons rfl (fun K hK => ?_) ?_
          · go_simp
            refine hK.out _ _ ⟨(World.cell?_of_block (Go.heap_setCell_other _ _ _ _ (by simp))).trans hHeld.1, (World.cell?_of_block (Go.heap_setCell_other _ _ _ _ (by show L.p ≠ w.heap.size + 1; omega))).trans hHeld.2⟩ (fun hHeld => ?_)
            clear hK K
            (try simp only [Act.put, List.setIfInBounds_toArray, List.set_cons_zero, List.set_cons_succ])
            refine wpAnyH_done (by kernel_rfl) ?_ _
            exact (fun hh => ⟨hh.2, by omega, by omega, hh.1⟩) (HI.out.stored (N := W0.heap.size) (C := IntKind.i64.wrap ((cc : Int) + (d : Int))) (c' := cnt (fun j => !B.testBit (a + j)) (s' - a)) hl.out hlu.out HR2.out HC2.out.ofDrew (Nat.le_of_eq HZ2.out.symm) (by rw [HECS.out, IntKind.wrap_i64]; omega) (by omega))
          exact AllReadyH.nil
        exact AllReadyH.nil
      exact AllReadyH.nil
    exact AllReadyH.nil
  case done =>
    rintro D s W hD hE ⟨hs1, hs2, hI⟩ hK
    have es : s = a + c := by have : a + c ≤ s := hE; omega
    have hc1 : W.cell? ⟨w.heap.size + 1, 0, none⟩ = some (.int .i64 ((cnt (fun j => !B.testBit (a + j)) (s - a) : Nat) : Int)) := by rw [cell_of_row _ _ _ _ _ _ hI.b1]; rfl
    have hg : W.grownBy (W.putObj D (.deferred none)) (some D) := grownBy_putObj' W D _
    have hI2 := hI.own (N := W0.heap.size) (by omega) hg (fun r e => by cases e; exact ⟨hD, _, hK, rfl⟩)
    rw [es, show a + c - a = c by omega] at hI2 hc1
    have HI := hide hI2
    clear hI hI2 START hs1 hs2
    gi_wp2
    refine ⟨by simp, .inl ⟨_, _, rfl, run_takeDeferred hK, ?_⟩⟩
    refine ⟨_, results_tmp2 rfl _ _ _, rfl, ?_⟩
    exact ⟨HI.out.rep, HI.out.chg⟩
  case stop =>
    rintro D c W hD h hK
    exact h.elim
end Go.Proofs.Ytepgiomgkgfioaa.B
namespace Go.Proofs.Ytepgiomgkgfioaa.B
open Go.RowKit Go.Shelf
attribute [local go_sem] Oper.semAt_some
set_option linter.unusedVariables false
set_option linter.unusedSimpArgs false
set_option maxRecDepth 20000

end Go.Proofs.Ytepgiomgkgfioaa.B
namespace Go.Proofs.Ytepgiomgkgfioaa.B
open Go.RowKit Go.Shelf
attribute [local go_sem] Oper.semAt_some
set_option linter.unusedVariables false
set_option linter.unusedSimpArgs false
set_option maxRecDepth 20000

set_option maxHeartbeats 2000000 in
theorem CountRange_any {w : World} {L : BL} {n B a c : Nat} (h : BRep w L n B) (hac : a + c ≤ n) :
    Calls Try.prog 40 #[PB L, .int .i64 (a : Int), .int .i64 (c : Int)] w fun e w' => e = .returned (.tuple #[.int .i64 ((cnt (fun j => B.testBit (a + j)) c : Nat) : Int), .int .i64 0]) ∧ Below w.heap.size w w' := by
  refine (callsIn_wide (n := 5)).1 ?_
  have hck := checkRange_any (h.below ((Below.refl _ _).alloc (Nat.le_refl _) (.cells #[PB L] 25))) (a : Int) (c : Int)
  rw [show rgErr n (a : Int) (c : Int) = 0 by unfold rgErr; rw [if_neg (by omega), if_neg (by omega)]] at hck
  have HCK := hide hck
  have hn := h.n2
  clear hck
  have H := hide h
  have hlp := h.bp
  have hlo := h.blo
  clear h
  unfold PB at *
  refine callsIn_of_wp_marks Try.func40 rfl trivial ?_ rfl
  simp only [Try.ntmps40, List.size_toArray, List.length_cons, List.length_nil, Nat.reduceAdd, Nat.reduceSub, Array.replicate_succ, Array.replicate_zero, List.push_toArray, List.append_toArray, List.nil_append, List.cons_append]
  gi_wp2_with (first
    | (refine ⟨trivial, ?_⟩; gi_at_call 42; refine (callsIn_wide.2 HCK.out).mono ?_; rintro e w' ⟨rfl, rfl⟩; simp only [Int.natCast_zero])
    | (refine ⟨trivial, ?_⟩; gi_at_call 43; refine (callsIn_wide.2 (pieces_any _ _ _)).mono ?_; rintro e w' ⟨rfl, rfl⟩))
  have hsz := rW0_size w L a c
  have START := RInv.start (fun _ => False) H.out a c
  have hl := hide H.out.uLt
  have hlu : Hid (∀ b, ((fun _ => False)) b → b < w.heap.size) := hide (fun _ h => h.elim)
  generalize hW0 : rW0 w L a c = W0 at *
  unfold rW0 at hW0
  rw [hW0]
  clear hW0 HCK
  refine wpIn_range_st rfl (by decide) (gf := 49) (lb := #[.pointer (some ⟨w.heap.size + 1 + 1, 0, none⟩), .pointer (some ⟨w.heap.size + 1 + 1 + 1, 0, none⟩)]) rfl trivial enters60
    (pieces_seq _ (w.heap.size + 1 + 1) (w.heap.size + 1 + 1 + 1) a (a + c) (by omega) (by omega)) (fun _ => rfl)
    (fun s W => a ≤ s ∧ s ≤ a + c ∧ RInv (fun _ => False) w W L n B a (a + c) (cnt (fun j => B.testBit (a + j)) (s - a)))
    (fun _ _ => False)
    (fun s A B' row hs hg hr => ⟨hs.1, hs.2.1, hs.2.2.own (by omega) hg hr⟩)
    (fun _ _ _ _ _ hs _ _ => hs)
    (fun s W hs => ⟨by rw [cell_of_row _ _ _ _ _ _ hs.2.2.b2]; rfl, by rw [cell_of_row _ _ _ _ _ _ hs.2.2.b3]; rfl⟩)
    (fun s x s' => fun _ A B' row hs hg hr => hs) (fun s A B' row hs hg hr => hs)
    ⟨Nat.le_refl _, by omega, by rw [Nat.sub_self]; exact START⟩
    (fun x => { tmps := #[.pointer (some ⟨L.p, 0, none⟩), .int .i64 a, .int .i64 c, .pointer (some ⟨w.heap.size, 0, none⟩), undef, undef, .int .i64 0, .int .i64 0, .int .i64 0, .pointer (some ⟨w.heap.size + 1, 0, none⟩), .int .i64 x.1, .int .u64 x.2, .pointer (some ⟨L.p, 0, none⟩), .int .i64 a, .int .i64 c, .int .i64 0, .int .i64 0, .bool false, undef, .int .i64 a, .int .i64 a, .int .i64 c, .int .i64 (a + c), .func (.func 49) #[] #[.pointer (some ⟨w.heap.size + 1 + 1, 0, none⟩), .pointer (some ⟨w.heap.size + 1 + 1 + 1, 0, none⟩)], .int .i64 x.1, .int .u64 x.2, undef, undef, undef, undef, undef, undef, undef, undef, undef, undef, undef, undef, undef], defers := [] })
    ?assign ?body ?done ?stop
  case assign =>
    intro l x W K hK
    simp only [pcEnc]
    gi_wp2
    exact hK
  case body =>
    rintro l s x s' W hl1 hl2 ⟨hs1, hs2, hI⟩ ⟨hlt, rfl, rfl⟩
    obtain ⟨s', hst⟩ : ∃ s', stopAt (a + c) s = s' := ⟨_, rfl⟩
    have hs' : s < s' ∧ s' ≤ (s / 64 + 1) * 64 ∧ s' ≤ a + c := by rw [← hst]; unfold stopAt; omega
    rw [hst]
    obtain ⟨q1, q2, q3⟩ := hs'
    have hkW : s / 64 < nW n := by unfold nW; omega
    have hR := hI.rep
    have c1 := hR.c1
    have hcl := hR.cl hkW
    have hc0 : W.cell? ⟨w.heap.size, 0, none⟩ = some (.pointer (some ⟨L.p, 0, none⟩)) := by rw [cell_of_row _ _ _ _ _ _ hI.b0]; rfl
    have hc1 : W.cell? ⟨w.heap.size + 1, 0, none⟩ = some (.int .i64 ((cnt (fun j => B.testBit (a + j)) (s - a) : Nat) : Int)) := by rw [cell_of_row _ _ _ _ _ _ hI.b1]; rfl
    have hf1 : W.frozen? ⟨w.heap.size + 1, 0, none⟩ = false := frozen_of_row _ _ _ _ 3 hI.b1
    have hb1 : w.heap.size + 1 < W.heap.size := (Array.getElem?_eq_some_iff.1 hI.b1).1
    have hml : msk (s % 64) (s % 64 + (s' - s)) < 18446744073709551616 := (mask_nat (by omega)).2
    have eo := u64_and_nat _ _ (wd_lt B (s / 64)) hml
    have hxo : wd B (s / 64) &&& msk (s % 64) (s % 64 + (s' - s)) < 18446744073709551616 := Nat.lt_of_le_of_lt Nat.and_le_left (wd_lt _ _)
    have hlay := ones_any _ hxo
    have ec := cnt_andR (B := B) q1 q2
    have ecs : cnt (fun j => B.testBit (a + j)) (s' - a) = cnt (fun j => B.testBit (a + j)) (s - a) + cnt (fun j => B.testBit (s + j)) (s' - s) := by
      rw [show s' - a = (s - a) + (s' - s) by omega, cnt_add]
      congr 1
      exact cnt_congr _ fun i _ => by rw [show a + (s - a + i) = s + i by omega]
    rw [← ec] at ecs
    have hle1 := cnt_le (fun j => B.testBit (a + j)) (s - a)
    have hle2 := cnt_le (wd B (s / 64) &&& msk (s % 64) (s % 64 + (s' - s))).testBit 64
    have HECS := hide ecs
    have HLAY := hide hlay
    have HI := hide hI
    have HREP : Hid (BRep W.drew L n B) := hide (hR.kept fun _ _ => rfl)
    clear ecs ec hlay hI hR hst START
    generalize cnt (wd B (s / 64) &&& msk (s % 64) (s % 64 + (s' - s))).testBit 64 = d at *
    generalize cnt (fun j => B.testBit (a + j)) (s - a) = cc at *
    generalize wd B (s / 64) &&& msk (s % 64) (s % 64 + (s' - s)) = y at *
    generalize msk (s % 64) (s % 64 + (s' - s)) = m at *
    generalize wd B (s / 64) = u at *
    obtain ⟨k, hk⟩ : ∃ k, s / 64 = k := ⟨_, rfl⟩
    rw [hk] at hkW hcl ⊢
    clear hk
    obtain ⟨m1, hm1⟩ : ∃ m1, nW n = m1 := ⟨_, rfl⟩
    rw [hm1] at hkW c1
    have hW : m1 ≤ 1024 := by rw [← hm1]; unfold nW; omega
    have HM1 := hide hm1
    clear hm1
    have hclD : W.drew.cell? ⟨L.lo, k, none⟩ = some (.int .u64 (u : Int)) := hcl
    have hc1D : W.drew.cell? ⟨w.heap.size + 1, 0, none⟩ = some (.int .i64 (cc : Int)) := hc1
    have hf1D : W.drew.frozen? ⟨w.heap.size + 1, 0, none⟩ = false := hf1
    have hdr : W.drew.cell? ⟨w.heap.size, 0, none⟩ = some (.pointer (some ⟨L.p, 0, none⟩)) ∧ W.drew.cell? ⟨L.p, 1, none⟩ = some (.slice (some ⟨L.lo, 0, none⟩) m1 m1) := ⟨hc0, c1⟩
    clear hcl hc1 hf1 hc0 c1
    refine wpIn_block ?_
    refine wpIn_region_heldR (fun W' => W'.cell? ⟨w.heap.size, 0, none⟩ = some (.pointer (some ⟨L.p, 0, none⟩)) ∧ W'.cell? ⟨L.p, 1, none⟩ = some (.slice (some ⟨L.lo, 0, none⟩) m1 m1)) (by kernel_rfl) (by kernel_rfl) (by rintro ⟨_, _, h⟩; exact h) hdr (fun hHeld => ?_)
    clear hdr
    simp only [List.size_toArray, List.length_cons, List.length_nil, Nat.reduceAdd, Array.replicate_succ, Array.replicate_zero, List.push_toArray, List.nil_append, List.cons_append]
    refine wpAnyH_take (i := 1) (v := ?v29) rfl (by kernel_rfl) (by kernel_rfl) (by kernel_rfl) (fun _ _ _ h => h) (Or.inl ⟨by rfl, ?h29⟩) hHeld ?r29
    case h29 => intro w' hSw; obtain ⟨hs0, hs1⟩ := hSw; go_simp; (try with_reducible rfl)
    simp only [Act.put, List.setIfInBounds_toArray, List.set_cons_zero, List.set_cons_succ]
    refine wpAnyH_take (i := 2) (v := ?v30) rfl (by kernel_rfl) (by kernel_rfl) (by kernel_rfl) (fun _ _ _ h => h) (Or.inl ⟨by rfl, ?h30⟩) hHeld ?r30
    case h30 => intro w' hSw; obtain ⟨hs0, hs1⟩ := hSw; go_simp; (try with_reducible rfl)
    simp only [Act.put, List.setIfInBounds_toArray, List.set_cons_zero, List.set_cons_succ]
    refine wpAnyH_take (i := 3) (v := ?v31) rfl (by kernel_rfl) (by kernel_rfl) (by kernel_rfl) (fun _ _ _ h => h) (Or.inl ⟨by rfl, ?h31⟩) hHeld ?r31
    case h31 => intro w' hSw; obtain ⟨hs0, hs1⟩ := hSw; go_simp; (try with_reducible rfl)
    simp only [Act.put, List.setIfInBounds_toArray, List.set_cons_zero, List.set_cons_succ]
    refine wpAnyH_take (i := 4) (v := ?v32) rfl (by kernel_rfl) (by kernel_rfl) (by kernel_rfl) (fun _ _ _ h => h) (Or.inl ⟨by rfl, ?h32⟩) hHeld ?r32
    case h32 => intro w' hSw; obtain ⟨hs0, hs1⟩ := hSw; go_simp; (try with_reducible rfl)
    simp only [Act.put, List.setIfInBounds_toArray, List.set_cons_zero, List.set_cons_succ]
    refine wpAnyH_take (i := 5) (v := ?v33) rfl (by kernel_rfl) (by kernel_rfl) (by kernel_rfl) (fun _ _ _ h => h) (Or.inl ⟨by rfl, ?h33⟩) hHeld ?r33
    case h33 => intro w' hSw; obtain ⟨hs0, hs1⟩ := hSw; go_simp; (try with_reducible rfl)
    simp only [Act.put, List.setIfInBounds_toArray, List.set_cons_zero, List.set_cons_succ]
    refine wpAnyH_take (i := 6) (v := ?v34) rfl (by kernel_rfl) (by kernel_rfl) (by kernel_rfl) (fun _ _ _ h => h) (Or.inl ⟨by rfl, ?h34⟩) hHeld ?r34
    case h34 => intro w' hSw; obtain ⟨hs0, hs1⟩ := hSw; go_simp; (try with_reducible rfl)
    simp only [Act.put, List.setIfInBounds_toArray, List.set_cons_zero, List.set_cons_succ]
    refine wpAnyH_take (i := 8) (v := ?v35) rfl (by kernel_rfl) (by kernel_rfl) (by kernel_rfl) (fun _ _ _ h => h) (Or.inl ⟨by rfl, ?h35⟩) hHeld ?r35
    case h35 => intro w' hSw; obtain ⟨hs0, hs1⟩ := hSw; go_simp; (try with_reducible rfl)
    simp only [Act.put, List.setIfInBounds_toArray, List.set_cons_zero, List.set_cons_succ]
    refine wpAnyH_ready (rs := [0, 7]) (by kernel_rfl) (by simp) ?_
    refine AllReadyH.cons rfl (fun K hK => ?_) ?_
    · go_simp
      refine hK.out _ _ hHeld (fun hHeld => ?_)
      clear hK K
      (try simp only [Act.put, List.setIfInBounds_toArray, List.set_cons_zero, List.set_cons_succ])
      refine wpAnyH_ready (rs := [7]) (by kernel_rfl) (by simp) ?_
      refine AllReadyH.cons rfl (fun K hK => ?_) ?_
      · go_simp
        refine hK.out _ _ hHeld (fun hHeld => ?_)
        clear hK K
        (try simp only [Act.put, List.setIfInBounds_toArray, List.set_cons_zero, List.set_cons_succ])
        refine wpAnyH_take (i := 9) (v := ?v36) rfl (by kernel_rfl) (by kernel_rfl) (by kernel_rfl) (fun _ _ _ h => h) (Or.inl ⟨by rfl, ?h36⟩) hHeld ?r36
        case h36 => intro w' hSw; obtain ⟨hs0, hs1⟩ := hSw; go_simp; (try with_reducible rfl)
        simp only [Act.put, List.setIfInBounds_toArray, List.set_cons_zero, List.set_cons_succ]
        refine wpAnyH_ready (rs := [10]) (by kernel_rfl) (by simp) ?_
        refine AllReadyH.cons rfl (fun K hK => ?_) ?_
        · go_simp
          (go_at_call 48; refine (HLAY.out _).mono ?_; rintro e w2 ⟨rfl, rfl⟩)
          refine hK.out _ _ hHeld (fun hHeld => ?_)
          clear hK K
          (try simp only [Act.put, List.setIfInBounds_toArray, List.set_cons_zero, List.set_cons_succ])
          refine wpAnyH_take (i := 11) (v := ?v37) rfl (by kernel_rfl) (by kernel_rfl) (by kernel_rfl) (fun _ _ _ h => h) (Or.inl ⟨by rfl, ?h37⟩) hHeld ?r37
          case h37 => intro w' hSw; obtain ⟨hs0, hs1⟩ := hSw; go_simp; (try with_reducible rfl)
          simp only [Act.put, List.setIfInBounds_toArray, List.set_cons_zero, List.set_cons_succ]
          refine wpAnyH_ready (rs := [12]) (by kernel_rfl) (by simp) ?_
          refine AllReadyH.cons rfl (fun K hK => ?_) ?_
          · go_simp
            refine hK.out _ _ ⟨(World.cell?_of_block (Go.heap_setCell_other _ _ _ _ (by simp))).trans hHeld.1, (World.cell?_of_block (Go.heap_setCell_other _ _ _ _ (by show L.p ≠ w.heap.size + 1; omega))).trans hHeld.2⟩ (fun hHeld => ?_)
            clear hK K
            (try simp only [Act.put, List.setIfInBounds_toArray, List.set_cons_zero, List.set_cons_succ])
            refine wpAnyH_done (by kernel_rfl) ?_ _
            exact (fun hh => ⟨hh.2, by omega, by omega, hh.1⟩) (HI.out.stored (N := W0.heap.size) (W' := W.drew) (C := IntKind.i64.wrap ((cc : Int) + (d : Int))) (c' := cnt (fun j => B.testBit (a + j)) (s' - a)) hl.out hlu.out HREP.out ⟨rfl, rfl, rfl, Nat.le_refl _, fun _ _ _ => rfl⟩ (Nat.le_refl _) (by rw [HECS.out, IntKind.wrap_i64]; omega) (by omega))
          exact AllReadyH.nil
        exact AllReadyH.nil
      exact AllReadyH.nil
    refine AllReadyH.cons rfl (fun K hK => ?_) ?_
    · go_simp
      refine hK.out _ _ hHeld (fun hHeld => ?_)
      clear hK K
      (try simp only [Act.put, List.setIfInBounds_toArray, List.set_cons_zero, List.set_cons_succ])
      refine wpAnyH_take (i := 9) (v := ?v38) rfl (by kernel_rfl) (by kernel_rfl) (by kernel_rfl) (fun _ _ _ h => h) (Or.inl ⟨by rfl, ?h38⟩) hHeld ?r38
      case h38 => intro w' hSw; obtain ⟨hs0, hs1⟩ := hSw; go_simp; (try with_reducible rfl)
      simp only [Act.put, List.setIfInBounds_toArray, List.set_cons_zero, List.set_cons_succ]
      refine wpAnyH_ready (rs := [0, 10]) (by kernel_rfl) (by simp) ?_
      refine AllReadyH.cons rfl (fun K hK => ?_) ?_
      · go_simp
        refine hK.out _ _ hHeld (fun hHeld => ?_)
        clear hK K
        (try simp only [Act.put, List.setIfInBounds_toArray, List.set_cons_zero, List.set_cons_succ])
        refine wpAnyH_ready (rs := [10]) (by kernel_rfl) (by simp) ?_
        refine AllReadyH.cons rfl (fun K hK => ?_) ?_
        · go_simp
          (go_at_call 48; refine (HLAY.out _).mono ?_; rintro e w2 ⟨rfl, rfl⟩)
          refine hK.out _ _ hHeld (fun hHeld => ?_)
          clear hK K
          (try simp only [Act.put, List.setIfInBounds_toArray, List.set_cons_zero, List.set_cons_succ])
          refine wpAnyH_take (i := 11) (v := ?v39) rfl (by kernel_rfl) (by kernel_rfl) (by kernel_rfl) (fun _ _ _ h => h) (Or.inl ⟨by rfl, ?h39⟩) hHeld ?r39
          case h39 => intro w' hSw; obtain ⟨hs0, hs1⟩ := hSw; go_simp; (try with_reducible rfl)
          simp only [Act.put, List.setIfInBounds_toArray, List.set_cons_zero, List.set_cons_succ]
          refine wpAnyH_ready (rs := [12]) (by kernel_rfl) (by simp) ?_
          refine AllReadyH.cons rfl (fun K hK => ?_) ?_
          · go_simp
            refine hK.out _ _ ⟨(World.cell?_of_block (Go.heap_setCell_other _ _ _ _ (by simp))).trans hHeld.1, (World.cell?_of_block (Go.heap_setCell_other _ _ _ _ (by show L.p ≠ w.heap.size + 1; omega))).trans hHeld.2⟩ (fun hHeld => ?_)
            clear hK K
            (try simp only [Act.put, List.setIfInBounds_toArray, List.set_cons_zero, List.set_cons_succ])
            refine wpAnyH_done (by kernel_rfl) ?_ _
            exact (fun hh => ⟨hh.2, by omega, by omega, hh.1⟩) (HI.out.stored (N := W0.heap.size) (W' := W.drew) (C := IntKind.i64.wrap ((cc : Int) + (d : Int))) (c' := cnt (fun j => B.testBit (a + j)) (s' - a)) hl.out hlu.out HREP.out ⟨rfl, rfl, rfl, Nat.le_refl _, fun _ _ _ => rfl⟩ (Nat.le_refl _) (by rw [HECS.out, IntKind.wrap_i64]; omega) (by omega))
          exact AllReadyH.nil
        exact AllReadyH.nil
      refine AllReadyH.cons rfl (fun K hK => ?_) ?_
      · go_simp
        (go_at_call 48; refine (HLAY.out _).mono ?_; rintro e w2 ⟨rfl, rfl⟩)
        refine hK.out _ _ hHeld (fun hHeld => ?_)
        clear hK K
        (try simp only [Act.put, List.setIfInBounds_toArray, List.set_cons_zero, List.set_cons_succ])
        refine wpAnyH_ready (rs := [0]) (by kernel_rfl) (by simp) ?_
        refine AllReadyH.cons rfl (fun K hK => ?_) ?_
        · go_simp
          refine hK.out _ _ hHeld (fun hHeld => ?_)
          clear hK K
          (try simp only [Act.put, List.setIfInBounds_toArray, List.set_cons_zero, List.set_cons_succ])
          refine wpAnyH_take (i := 11) (v := ?v40) rfl (by kernel_rfl) (by kernel_rfl) (by kernel_rfl) (fun _ _ _ h => h) (Or.inl ⟨by rfl, ?h40⟩) hHeld ?r40
          case h40 => intro w' hSw; obtain ⟨hs0, hs1⟩ := hSw; go_simp; (try with_reducible rfl)
          simp only [Act.put, List.setIfInBounds_toArray, List.set_cons_zero, List.set_cons_succ]
          refine wpAnyH_ready (rs := [12]) (by kernel_rfl) (by simp) ?_
          refine AllReadyH.cons rfl (fun K hK => ?_) ?_
          · go_simp
            refine hK.out _ _ ⟨(World.cell?_of_block (Go.heap_setCell_other _ _ _ _ (by simp))).trans hHeld.1, (World.cell?_of_block (Go.heap_setCell_other _ _ _ _ (by show L.p ≠ w.heap.size + 1; omega))).trans hHeld.2⟩ (fun hHeld => ?_)
            clear hK K
            (try simp only [Act.put, List.setIfInBounds_toArray, List.set_cons_zero, List.set_cons_succ])
            refine wpAnyH_done (by kernel_rfl) ?_ _
            exact (fun hh => ⟨hh.2, by omega, by omega, hh.1⟩) (HI.out.stored (N := W0.heap.size) (W' := W.drew) (C := IntKind.i64.wrap ((cc : Int) + (d : Int))) (c' := cnt (fun j => B.testBit (a + j)) (s' - a)) hl.out hlu.out HREP.out ⟨rfl, rfl, rfl, Nat.le_refl _, fun _ _ _ => rfl⟩ (Nat.le_refl _) (by rw [HECS.out, IntKind.wrap_i64]; omega) (by omega))
          exact AllReadyH.nil
        exact AllReadyH.nil
      exact AllReadyH.nil
    exact AllReadyH.nil
  case done =>
    rintro D s W hD hE ⟨hs1, hs2, hI⟩ hK
    have es : s = a + c := by have : a + c ≤ s := hE; omega
    have hc1 : W.cell? ⟨w.heap.size + 1, 0, none⟩ = some (.int .i64 ((cnt (fun j => B.testBit (a + j)) (s - a) : Nat) : Int)) := by rw [cell_of_row _ _ _ _ _ _ hI.b1]; rfl
    have hg : W.grownBy (W.putObj D (.deferred none)) (some D) := grownBy_putObj' W D _
    have hI2 := hI.own (N := W0.heap.size) (by omega) hg (fun r e => by cases e; exact ⟨hD, _, hK, rfl⟩)
    rw [es, show a + c - a = c by omega] at hI2 hc1
    have HI := hide hI2
    clear hI hI2 START hs1 hs2
    gi_wp2
    refine ⟨by simp, .inl ⟨_, _, rfl, run_takeDeferred hK, ?_⟩⟩
    refine ⟨_, results_tmp2 rfl _ _ _, rfl, ?_⟩
    exact HI.out.chg.below (Nat.le_refl _) (fun _ h => h.elim)
  case stop =>
    rintro D c W hD h hK
    exact h.elim
end Go.Proofs.Ytepgiomgkgfioaa.B
namespace Go.Proofs.Ytepgiomgkgfioaa.B
open Go.RowKit Go.Shelf
attribute [local go_sem] Oper.semAt_some
set_option linter.unusedVariables false
set_option linter.unusedSimpArgs false
set_option maxRecDepth 20000

theorem Chg.lift {U : Nat → Prop} {w w' : World} (h : Below w.heap.size w w') : Chg U w w' := Chg.ofBelow h
theorem rgErr_one {n : Nat} {i : Int} : rgErr n i 1 = if 0 ≤ i ∧ i < n then 0 else 2 := by
  unfold rgErr
  rw [if_neg (by omega)]
  by_cases h : 0 ≤ i ∧ i < n
  · rw [if_neg (by omega), if_pos h]
  · rw [if_pos (by omega), if_neg h]
theorem cnt_one (f : Nat → Bool) : cnt f 1 = (f 0).toNat := by simp [cnt]

theorem SetRange_no {w : World} {L : BL} {n B : Nat} (h : BRep w L n B) (a c : Int) (he : rgErr n a c ≠ 0) :
    Calls Try.prog 20 #[PB L, .int .i64 a, .int .i64 c] w fun e w' => e = .returned (.tuple #[.int .i64 0, .int .i64 ((rgErr n a c : Nat) : Int)]) ∧ Below w.heap.size w w' := by
  refine (callsIn_wide (n := 5)).1 ?_
  have hck := checkRange_any (h.below ((Below.refl _ _).alloc (Nat.le_refl _) (.cells #[PB L] 25))) a c
  have HCK := hide hck
  have hne : (((rgErr n a c : Nat) : Int) != 0) = true := by simpa using he
  clear hck he h
  generalize rgErr n a c = r at *
  unfold PB at *
  refine callsIn_of_wp_marks Try.func20 rfl trivial ?_ rfl
  simp only [Try.ntmps20, List.size_toArray, List.length_cons, List.length_nil, Nat.reduceAdd, Nat.reduceSub, Array.replicate_succ, Array.replicate_zero, List.push_toArray, List.append_toArray, List.nil_append, List.cons_append]
  gi_wp2_with ((refine ⟨trivial, ?_⟩; gi_at_call 42; refine (callsIn_wide.2 HCK.out).mono ?_; rintro e w' ⟨rfl, rfl⟩))
  refine ⟨_, results_tmp2 rfl _ _ _, rfl, ?_⟩
  exact (Below.refl _ _).alloc (Nat.le_refl _) _

theorem CountRange_no {w : World} {L : BL} {n B : Nat} (h : BRep w L n B) (a c : Int) (he : rgErr n a c ≠ 0) :
    Calls Try.prog 40 #[PB L, .int .i64 a, .int .i64 c] w fun e w' => e = .returned (.tuple #[.int .i64 0, .int .i64 ((rgErr n a c : Nat) : Int)]) ∧ Below w.heap.size w w' := by
  refine (callsIn_wide (n := 5)).1 ?_
  have hck := checkRange_any (h.below ((Below.refl _ _).alloc (Nat.le_refl _) (.cells #[PB L] 25))) a c
  have HCK := hide hck
  have hne : (((rgErr n a c : Nat) : Int) != 0) = true := by simpa using he
  clear hck he h
  generalize rgErr n a c = r at *
  unfold PB at *
  refine callsIn_of_wp_marks Try.func40 rfl trivial ?_ rfl
  simp only [Try.ntmps40, List.size_toArray, List.length_cons, List.length_nil, Nat.reduceAdd, Nat.reduceSub, Array.replicate_succ, Array.replicate_zero, List.push_toArray, List.append_toArray, List.nil_append, List.cons_append]
  gi_wp2_with ((refine ⟨trivial, ?_⟩; gi_at_call 42; refine (callsIn_wide.2 HCK.out).mono ?_; rintro e w' ⟨rfl, rfl⟩))
  refine ⟨_, results_tmp2 rfl _ _ _, rfl, ?_⟩
  exact (Below.refl _ _).alloc (Nat.le_refl _) _

theorem Set_any {w : World} {L : BL} {n B i : Nat} (h : BRep w L n B) (hi : i < n) :
    Calls Try.prog 6 #[PB L, .int .i64 (i : Int)] w fun e w' => e = .returned (.tuple #[.bool (!B.testBit i), .int .i64 0]) ∧ BRep w' L n (setR B i (i + 1)) ∧ Chg L.U w w' := by
  have hc := SetRange_any (a := i) (c := 1) h (by omega)
  rw [cnt_one] at hc
  simp only [Nat.add_zero] at hc
  have HC : Hid (Calls Try.prog 20 #[PB L, .int .i64 (i : Int), .int .i64 1] w fun e w' => e = .returned (.tuple #[.int .i64 (((!B.testBit i).toNat : Nat) : Int), .int .i64 0]) ∧ BRep w' L n (setR B i (i + 1)) ∧ Chg L.U w w') := hide hc
  clear hc h
  cases hb : !B.testBit i
  all_goals
    rw [hb] at HC
    clear hb
    unfold PB at *
    go_enter Try.func6, Try.ntmps6
    go_wp2_with (go_at_call 20; refine HC.out.mono ?_; rintro e w' ⟨rfl, hp⟩; have HP := hide hp; clear hp; simp only [Bool.toNat_false, Bool.toNat_true, Int.natCast_zero, Int.natCast_one])
    go_ret2
    exact ⟨rfl, HP.out⟩
theorem Set_no {w : World} {L : BL} {n B : Nat} (h : BRep w L n B) (i : Int) (hi : ¬ (0 ≤ i ∧ i < n)) :
    Calls Try.prog 6 #[PB L, .int .i64 i] w fun e w' => e = .returned (.tuple #[.bool false, .int .i64 2]) ∧ Below w.heap.size w w' := by
  have er : rgErr n i 1 = 2 := by rw [rgErr_one, if_neg hi]
  have hc := SetRange_no h i 1 (by rw [er]; decide)
  rw [er] at hc
  have HC := hide hc
  clear hc h er hi
  unfold PB at *
  go_enter Try.func6, Try.ntmps6
  go_wp2_with (go_at_call 20; refine HC.out.mono ?_; rintro e w' ⟨rfl, hp⟩; have HP := hide hp; clear hp; simp only [Int.cast_ofNat_Int])
  go_ret2
  exact ⟨rfl, HP.out⟩

theorem Test_any {w : World} {L : BL} {n B i : Nat} (h : BRep w L n B) (hi : i < n) :
    Calls Try.prog 16 #[PB L, .int .i64 (i : Int)] w fun e w' => e = .returned (.tuple #[.bool (B.testBit i), .int .i64 0]) ∧ Below w.heap.size w w' := by
  have hc := CountRange_any (a := i) (c := 1) h (by omega)
  rw [cnt_one] at hc
  simp only [Nat.add_zero] at hc
  have HC : Hid (Calls Try.prog 40 #[PB L, .int .i64 (i : Int), .int .i64 1] w fun e w' => e = .returned (.tuple #[.int .i64 (((B.testBit i).toNat : Nat) : Int), .int .i64 0]) ∧ Below w.heap.size w w') := hide hc
  clear hc h
  cases hb : B.testBit i
  all_goals
    rw [hb] at HC
    clear hb
    unfold PB at *
    go_enter Try.func16, Try.ntmps16
    go_wp2_with (go_at_call 40; refine HC.out.mono ?_; rintro e w' ⟨rfl, hp⟩; have HP := hide hp; clear hp; simp only [Bool.toNat_false, Bool.toNat_true, Int.natCast_zero, Int.natCast_one])
    go_ret2
    exact ⟨rfl, HP.out⟩
theorem Test_no {w : World} {L : BL} {n B : Nat} (h : BRep w L n B) (i : Int) (hi : ¬ (0 ≤ i ∧ i < n)) :
    Calls Try.prog 16 #[PB L, .int .i64 i] w fun e w' => e = .returned (.tuple #[.bool false, .int .i64 2]) ∧ Below w.heap.size w w' := by
  have er : rgErr n i 1 = 2 := by rw [rgErr_one, if_neg hi]
  have hc := CountRange_no h i 1 (by rw [er]; decide)
  rw [er] at hc
  have HC := hide hc
  clear hc h er hi
  unfold PB at *
  go_enter Try.func16, Try.ntmps16
  go_wp2_with (go_at_call 40; refine HC.out.mono ?_; rintro e w' ⟨rfl, hp⟩; have HP := hide hp; clear hp; simp only [Int.cast_ofNat_Int])
  go_ret2
  exact ⟨rfl, HP.out⟩
end Go.Proofs.Ytepgiomgkgfioaa.B
namespace Go.Proofs.Ytepgiomgkgfioaa.B
open Go.RowKit Go.Shelf
set_option linter.unusedVariables false
set_option linter.unusedSimpArgs false
set_option maxRecDepth 20000

theorem eqNil_some (W : World) (a : Addr) (n c : Nat) : (binOp .eql 31 (.slice (some a) n c) (.slice none 0 0)).run Try.prog W = .ok (.bool false) W := Lib.run_eql_slice_nil (P := Try.prog) W 31 57 (some a) n c 0 0 Try.underlying31
theorem eqNil_nil (W : World) : (binOp .eql 31 (.slice none 0 0) (.slice none 0 0)).run Try.prog W = .ok (.bool true) W := Lib.run_eql_slice_nil (P := Try.prog) W 31 57 none 0 0 0 0 Try.underlying31
theorem u64V_oneCell (l : List Nat) : ∀ u ∈ l.map u64V, u.oneCell' = true := by
  intro u hu
  obtain ⟨_, _, rfl⟩ := List.mem_map.1 hu
  rfl
theorem map_u64V_getD {l : List Nat} {i : Nat} (hi : i < l.length) : (l.map u64V)[i]? = some (.int .u64 (l.getD i 0 : Nat)) := by
  simp [List.getD, hi, u64V]
theorem WSl.news {w : World} {ad : Addr} {n cap : Nat} {l : List Nat} (h : WSl w (.slice (some ad) n cap) l) : ∀ j u, (l.map u64V)[j]? = some u → w.cell? (ad.add j) = some u := by
  intro j u hu
  have hj : j < l.length := by simpa using (List.getElem?_eq_some_iff.1 hu).1
  obtain ⟨a, cap, e, h1, h2, h3, h4, h5⟩ := h
  simp only [Value.slice.injEq] at e
  obtain ⟨rfl, rfl, rfl⟩ := e
  obtain ⟨b, off, e, hc⟩ := h5 (by omega)
  simp only [Option.some.injEq] at e
  subst e
  rw [Addr.add_lit, hc j hj]
  rw [map_u64V_getD hj] at hu
  exact hu
theorem wsl_of_row {w : World} {base : Nat} {v : Value} {l : List Nat} (h : w.ownsRow base 57 1 v l.length (l.map u64V)) (hl : ∀ b ∈ l, b < 18446744073709551616) : WSl w v l := by
  have h' := h
  rcases h.2 with ⟨rfl, h0⟩ | ⟨g, cap, cur, rfl, h1, h2, h3, h4, h5, h6⟩
  · have e0 : l.length = 0 := h0
    refine ⟨none, 0, by rw [e0], by omega, by unfold maxLen; omega, fun _ => rfl, hl, fun hp => by omega⟩
  · refine ⟨some ⟨g, 0, none⟩, cap, rfl, h3, h4, by simp, hl, fun _ => ⟨g, 0, rfl, fun i hi => ?_⟩⟩
    rw [Nat.zero_add, h'.cellAt i (by omega), map_u64V_getD hi]

set_option maxHeartbeats 400000 in
theorem Clone_any {w : World} {v : Value} {l : List Nat} (h : WSl w v l) (h0 : 0 < l.length) (hn : l.length ≤ 1000000) :
    Calls Try.prog 21 #[v] w fun e w' => ∃ v', e = .returned v' ∧ w'.ownsRow w.heap.size 57 1 v' l.length (l.map u64V) ∧ WSl w' v' l ∧ Below w.heap.size w w' := by
  have H := hide h
  obtain ⟨a, cap, rfl, hl, hm, hnn, hb, hcell⟩ := h
  obtain ⟨g, off, rfl, hc⟩ := hcell h0
  have hq := eqNil_some
  have ROW : Hid ((w.alloc (.cells #[] 57)).ownsRow w.heap.size 57 1 (.slice (some ⟨w.heap.size, 0, none⟩) 0 0) 0 []) := hide
    ⟨rfl, .inr ⟨w.heap.size, 0, #[], rfl, Nat.le_refl _, Go.heap_alloc_new w _, Nat.le_refl _, by unfold maxLen; omega, rfl, rfl⟩⟩
  have NEWS := hide (H.out.below ((Below.refl _ _).alloc (Nat.le_refl _) (.cells #[] 57))).news
  obtain ⟨i0, hi, hz0, hz1, hz2⟩ := info_parts info_u64
  clear hc hcell hnn
  have HB := hide hb
  clear hb
  go_enter Try.func21, Try.ntmps21
  go_wp2_with (at_builtin; refine wpList_append_own _ rfl (.tmp 5) (.tmp 6) 31 rfl w.heap.size 57 i0 (.int .u64 0) 1 8 Try.underlying31 hi hz0 hz1 hz2 rfl (by decide) _ _ _ rfl ROW.out ⟨g, off, none⟩ l.length cap (l.map u64V) rfl (by simp) NEWS.out (u64V_oneCell l) (by unfold maxLen; omega) (by omega) (by simp) ?_; intro v' w1 hown hgrow hnil; have HOWN := hide hown; have HG := hide hgrow; clear hown hgrow hnil)
  go_ret
  have hown := HOWN.out
  rw [Nat.zero_add, List.nil_append] at hown
  refine ⟨_, rfl, hown, wsl_of_row hown HB.out, ?_⟩
  exact ((Below.refl _ _).alloc (Nat.le_refl _) _).grown HG.out (by simp) (fun k e => by have e' : some w.heap.size = some k := e; cases e'; exact Nat.le_refl _)

theorem BRep.wsl {w : World} {L : BL} {n B : Nat} (h : BRep w L n B) : WSl w (.slice (some ⟨L.lo, 0, none⟩) (nW n) (nW n)) (wds B (nW n)) := by
  refine ⟨some ⟨L.lo, 0, none⟩, nW n, by rw [wds_len], by rw [wds_len]; exact Nat.le_refl _, by have := h.n2; unfold nW maxLen; omega, by simp, wds_lt _ _, fun _ => ⟨L.lo, 0, rfl, fun i hi => ?_⟩⟩
  rw [wds_len] at hi
  rw [Nat.zero_add, h.cl hi, wds_get hi]
theorem BRep.wsh {w : World} {L : BL} {n B : Nat} (h : BRep w L n B) : WSl w (.slice (some ⟨L.hi, 0, none⟩) (nW (nW n)) (nW (nW n))) (wds (up B (nW n)) (nW (nW n))) := by
  refine ⟨some ⟨L.hi, 0, none⟩, nW (nW n), by rw [wds_len], by rw [wds_len]; exact Nat.le_refl _, by have := h.n2; unfold nW maxLen; omega, by simp, wds_lt _ _, fun _ => ⟨L.hi, 0, rfl, fun i hi => ?_⟩⟩
  rw [wds_len] at hi
  rw [Nat.zero_add, h.ch hi, wds_get hi]

theorem Words_any {w : World} {L : BL} {n B : Nat} (h : BRep w L n B) :
    Calls Try.prog 7 #[PB L] w fun e w' => ∃ v', e = .returned v' ∧ w'.ownsRow w.heap.size 57 1 v' (nW n) ((wds B (nW n)).map u64V) ∧ WSl w' v' (wds B (nW n)) ∧ Below w.heap.size w w' := by
  have c1 := h.c1
  have hn1 := h.n1
  have hn2 := h.n2
  have hc := Clone_any h.wsl (by rw [wds_len]; unfold nW; omega) (by rw [wds_len]; unfold nW; omega)
  rw [wds_len] at hc
  have HC := hide hc
  have hW : nW n ≤ 1024 := by unfold nW; omega
  clear hc h
  generalize wds B (nW n) = l at *
  generalize nW n = m1 at *
  unfold PB
  go_enter Try.func7, Try.ntmps7
  go_wp2_with (go_at_call 21; refine HC.out.mono ?_; rintro e w' ⟨v', rfl, hr, hv, hb⟩; have HR := hide hr; have HV := hide hv; have HB := hide hb; clear hr hv hb)
  go_ret
  exact ⟨_, rfl, HR.out, HV.out, HB.out⟩
end Go.Proofs.Ytepgiomgkgfioaa.B
namespace Go.Proofs.Ytepgiomgkgfioaa.K
open Go.RowKit
set_option linter.unusedVariables false

theorem hide {p : Prop} (h : p) : Hid p := h
theorem unhide {p : Prop} (h : Hid p) : p := h

def byteV (n : Nat) : Value := .int .u8 (n : Int)

/-- A slice of bytes that reads as the list l. -/
def BSl (w : World) (v : Value) (l : List Nat) : Prop :=
  ∃ a cap, v = .slice a l.length cap ∧ l.length ≤ cap ∧ cap ≤ maxLen ∧ (a = none → cap = 0) ∧ (∀ b ∈ l, b < 256) ∧
    (0 < l.length → ∃ b off, a = some ⟨b, off, none⟩ ∧ ∀ i, i < l.length → w.cell? ⟨b, off + i, none⟩ = some (.int .u8 (l.getD i 0 : Nat)))

theorem mem_getD {l : List Nat} {i : Nat} (h : i < l.length) : l.getD i 0 ∈ l := by
  simp [List.getD, h]
theorem map_byteV_getD {l : List Nat} {i : Nat} (hi : i < l.length) : (l.map byteV)[i]? = some (.int .u8 (l.getD i 0 : Nat)) := by
  simp [List.getD, hi, byteV]
theorem byteV_oneCell (l : List Nat) : ∀ u ∈ l.map byteV, u.oneCell' = true := by
  intro u hu
  obtain ⟨_, _, rfl⟩ := List.mem_map.1 hu
  rfl

theorem BSl.news {w : World} {ad : Addr} {n cap : Nat} {l : List Nat} (h : BSl w (.slice (some ad) n cap) l) : ∀ j u, (l.map byteV)[j]? = some u → w.cell? (ad.add j) = some u := by
  intro j u hu
  have hj : j < l.length := by simpa using (List.getElem?_eq_some_iff.1 hu).1
  obtain ⟨a, cap, e, h1, h2, h3, h4, h5⟩ := h
  simp only [Value.slice.injEq] at e
  obtain ⟨rfl, rfl, rfl⟩ := e
  obtain ⟨b, off, e, hc⟩ := h5 (by omega)
  simp only [Option.some.injEq] at e
  subst e
  rw [Addr.add_lit, hc j hj]
  rw [map_byteV_getD hj] at hu
  exact hu

/-- the block that a list of bytes lies in -/
def blockOf : Value → Option Nat
  | .slice (some a) _ _ => some a.block
  | _ => none

theorem BSl.keptIf {w w' : World} {v : Value} {l : List Nat} (h : BSl w v l) (hk : ∀ g, blockOf v = some g → g < w.heap.size → w'.heap[g]? = w.heap[g]?) : BSl w' v l := by
  obtain ⟨a, cap, rfl, h1, h2, h3, h4, h5⟩ := h
  refine ⟨a, cap, rfl, h1, h2, h3, h4, fun hp => ?_⟩
  obtain ⟨b, off, rfl, hc⟩ := h5 hp
  refine ⟨b, off, rfl, fun i hi => ?_⟩
  have := hc i hi
  have hlt := World.block_lt_of_cell? w _ this
  rw [World.cell?_of_block (hk b rfl hlt)]
  exact this
theorem BSl.below {w w' : World} {v : Value} {l : List Nat} (h : BSl w v l) (hb : Below w.heap.size w w') : BSl w' v l := h.keptIf fun g _ hg => hb.block g hg
theorem BSl.lt256 {w : World} {v : Value} {l : List Nat} (h : BSl w v l) : ∀ b ∈ l, b < 256 := by
  obtain ⟨a, cap, rfl, h1, h2, h3, h4, h5⟩ := h
  exact h4
theorem BSl.len {w : World} {v : Value} {l : List Nat} (h : BSl w v l) : l.length ≤ maxLen := by
  obtain ⟨a, cap, rfl, h1, h2, h3, h4, h5⟩ := h
  omega

/-- bytes that lie whole in a block of their own, and that nobody writes any more -/
def PieceAt (w : World) (g : Nat) (l : List Nat) : Prop := w.heap[g]? = some (.cells (l.map byteV).toArray 5 (0, 0)) ∧ (∀ b ∈ l, b < 256) ∧ l.length ≤ maxLen ∧ 0 < l.length
abbrev sl (g n : Nat) : Value := .slice (some ⟨g, 0, none⟩) n n

theorem PieceAt.bsl {w : World} {g : Nat} {l : List Nat} (h : PieceAt w g l) : BSl w (sl g l.length) l := by
  obtain ⟨h1, h2, h3, h4⟩ := h
  refine ⟨some ⟨g, 0, none⟩, l.length, rfl, Nat.le_refl _, h3, by simp, h2, fun _ => ⟨g, 0, rfl, fun i hi => ?_⟩⟩
  rw [Nat.zero_add, cell_of_row _ _ _ _ _ _ h1]
  rw [List.getElem?_toArray, map_byteV_getD hi]
theorem PieceAt.kept {w w' : World} {g : Nat} {l : List Nat} (h : PieceAt w g l) (e : w'.heap[g]? = w.heap[g]?) : PieceAt w' g l := ⟨e.trans h.1, h.2⟩
theorem PieceAt.lt {w : World} {g : Nat} {l : List Nat} (h : PieceAt w g l) : g < w.heap.size := (Array.getElem?_eq_some_iff.1 h.1).1

theorem ownsRow_keptIf {w w' : World} {base : Nat} {e : TypeId} {v : Value} {n : Nat} {xs : List Value} (h : w.ownsRow base e 1 v n xs) (hk : ∀ g, v.ownBlock = some g → w'.heap[g]? = w.heap[g]?) : w'.ownsRow base e 1 v n xs := by
  refine ⟨h.1, ?_⟩
  rcases h.2 with h0 | ⟨g, cap, cur, rfl, h1, hg, r⟩
  · exact .inl h0
  · exact .inr ⟨g, cap, cur, rfl, h1, by rw [hk g rfl]; exact hg, r⟩

theorem zeroBB : ∀ w, (zeroValue 33).run Try.prog w = .ok (.slice none 0 0) w := fun w => by kernel_rfl
theorem info_u8 : (Try.prog.info? 5).map (fun i => (i.zero, i.size, i.bytes)) = some (some (.int .u8 0), 1, 1) := by kernel_rfl
theorem info_bytes : (Try.prog.info? 23).map (fun i => (i.zero, i.size, i.bytes)) = some (some (.slice none 0 0), 1, 24) := by kernel_rfl
theorem size_u8 : (Try.prog.info? 5).map (·.size) = some 1 := by kernel_rfl
theorem size_bytes : (Try.prog.info? 23).map (·.size) = some 1 := by kernel_rfl
end Go.Proofs.Ytepgiomgkgfioaa.K
namespace Go.Proofs.Ytepgiomgkgfioaa.K
open Go.RowKit Go.Maps
set_option linter.unusedVariables false

/-- the elements of the map: the values themselves -/
def Rv : Value → Option (DataW Value × List MemPlace) := fun v => some (.held v, [])
def kL (k : Nat) : Lit := .int .i64 (k : Int)
def nilS : Value := .slice none 0 0
def updF {α : Type} (f : Nat → α) (k : Nat) (x : α) : Nat → α := fun j => if j = k then x else f j
theorem updF_same {α : Type} (f : Nat → α) (k : Nat) (x : α) : updF f k x k = x := by simp [updF]
theorem updF_other {α : Type} (f : Nat → α) {k j : Nat} (x : α) (h : j ≠ k) : updF f k x j = f j := by simp [updF, h]

/-- what the document says of a disk -/
structure St where
  nb : Nat
  sz : Nat
  med : Nat → Option (List Nat)
  cache : Nat → List (List Nat)
  off : Bool
  fuse : Int
  rd : Int
  wr : Int
  th : Int
  fl : Int

/-- where it lies -/
structure Lay where
  p : Nat
  mb : Nat
  cb : Nat
  U : Nat → Prop

def diskRow (L : Lay) (S : St) : Array Value := #[.int .i64 (S.nb : Int), .int .i64 (S.sz : Int), .slice (some ⟨L.mb, 0, none⟩) S.nb S.nb, .map (some L.cb), .bool S.off, .int .i64 S.fuse, .int .i64 S.rd, .int .i64 S.wr, .int .i64 S.th, .int .i64 S.fl]

/-- a block of the medium: nil where it is spoilt -/
def Med (w : World) (U : Nat → Prop) (v : Value) : Option (List Nat) → Prop
  | none => v = nilS
  | some l => ∃ g, v = sl g l.length ∧ PieceAt w g l ∧ U g

/-- a list of cached writes -/
def Row (w : World) (U : Nat → Prop) (v : Value) (ls : List (List Nat)) : Prop :=
  ∃ gs : List Nat, gs.length = ls.length ∧ w.ownsRow 0 23 1 v ls.length ((List.range ls.length).map fun i => sl (gs.getD i 0) (ls.getD i []).length) ∧
    (∀ i, i < ls.length → PieceAt w (gs.getD i 0) (ls.getD i []) ∧ U (gs.getD i 0)) ∧ (∀ g, v.ownBlock = some g → U g) ∧ (ls = [] → v = nilS)

structure Core (w : World) (L : Lay) (A : Nat → Value) (D : DataW Value) (S : St) : Prop where
  nb1 : 1 ≤ S.nb
  nb2 : S.nb ≤ 8192
  sz : S.sz = 128 ∨ S.sz = 256 ∨ S.sz = 512 ∨ S.sz = 1024
  fz : -1 ≤ S.fuse ∧ S.fuse ≤ 9223372036854775807
  hp : w.heap[L.p]? = some (.cells (diskRow L S) 72 (0, 0))
  hm : ∃ ms : Array Value, w.heap[L.mb]? = some (.cells ms 23 (0, 0)) ∧ ms.size = S.nb ∧ ∀ i, i < S.nb → ∃ v, ms[i]? = some v ∧ Med w L.U v (S.med i)
  mlen : ∀ i l, i < S.nb → S.med i = some l → l.length = S.sz
  clen : ∀ i l, i < S.nb → l ∈ S.cache i → l.length = S.sz
  keys : ∀ kl, has D kl = true → ∃ k, k < S.nb ∧ kl = kL k
  hasK : ∀ k, k < S.nb → (has D (kL k) = true ↔ S.cache k ≠ [])
  at_ : ∀ k, k < S.nb → D.atKey (kL k) (.held nilS) = .held (A k)
  row : ∀ k, k < S.nb → Row w L.U (A k) (S.cache k)
  apart : ∀ k j, k < S.nb → j < S.nb → k ≠ j → ∀ g, (A k).ownBlock = some g → (A j).ownBlock ≠ some g
  offM : ∀ k, k < S.nb → (A k).ownBlock ≠ some L.mb
  uP : L.U L.p
  uM : L.U L.mb
  uC : L.U L.cb
  uLt : ∀ b, L.U b → b < w.heap.size

/-- the whole: with its map -/
def Rep (w : World) (L : Lay) (S : St) : Prop := ∃ A D, w.ownsMap Try.prog 3 Rv L.cb 8192 D ∧ Core w L A D S

/-- from w to w': only what U names, and new blocks, has turned; what U' names is U's or new -/
structure Grow (w w' : World) (U U' : Nat → Prop) : Prop where
  os : w'.os = w.os
  tape : w'.tape = w.tape
  output : w'.output = w.output
  size : w.heap.size ≤ w'.heap.size
  keep : ∀ b, b < w.heap.size → ¬ U b → w'.heap[b]? = w.heap[b]?
  new : ∀ b, b < w.heap.size → U' b → U b
  sup : ∀ b, U b → U' b

theorem Grow.refl (w : World) (U : Nat → Prop) : Grow w w U U := ⟨rfl, rfl, rfl, Nat.le_refl _, fun _ _ _ => rfl, fun _ _ h => h, fun _ h => h⟩
theorem Grow.trans {w w1 w2 : World} {U U1 U2 : Nat → Prop} (h : Grow w w1 U U1) (k : Grow w1 w2 U1 U2) : Grow w w2 U U2 :=
  ⟨k.os.trans h.os, k.tape.trans h.tape, k.output.trans h.output, Nat.le_trans h.size k.size,
    fun b hb hu => (k.keep b (Nat.lt_of_lt_of_le hb h.size) (fun hu1 => hu (h.new b hb hu1))).trans (h.keep b hb hu),
    fun b hb hu => h.new b hb (k.new b (Nat.lt_of_lt_of_le hb h.size) hu), fun b hu => k.sup b (h.sup b hu)⟩
theorem Grow.ofBelow {w w' : World} (U : Nat → Prop) (h : Below w.heap.size w w') : Grow w w' U U :=
  ⟨h.os, h.tape, h.output, h.size, fun b hb _ => h.block b hb, fun _ _ hu => hu, fun _ hu => hu⟩

theorem Med.kept {w w' : World} {U : Nat → Prop} {v : Value} {o : Option (List Nat)} (h : Med w U v o) (hk : ∀ b, U b → w'.heap[b]? = w.heap[b]?) : Med w' U v o := by
  cases o with
  | none => exact h
  | some l =>
    obtain ⟨g, rfl, hp, hu⟩ := h
    exact ⟨g, rfl, hp.kept (hk g hu), hu⟩
theorem Med.wider {w : World} {U U' : Nat → Prop} {v : Value} {o : Option (List Nat)} (h : Med w U v o) (hk : ∀ b, U b → U' b) : Med w U' v o := by
  cases o with
  | none => exact h
  | some l =>
    obtain ⟨g, rfl, hp, hu⟩ := h
    exact ⟨g, rfl, hp, hk g hu⟩
theorem Row.kept {w w' : World} {U : Nat → Prop} {v : Value} {ls : List (List Nat)} (h : Row w U v ls) (hk : ∀ b, U b → w'.heap[b]? = w.heap[b]?) : Row w' U v ls := by
  obtain ⟨gs, h1, h2, h3, h4, h5⟩ := h
  exact ⟨gs, h1, ownsRow_keptIf h2 fun g hg => hk g (h4 g hg), fun i hi => ⟨(h3 i hi).1.kept (hk _ (h3 i hi).2), (h3 i hi).2⟩, h4, h5⟩
theorem Row.wider {w : World} {U U' : Nat → Prop} {v : Value} {ls : List (List Nat)} (h : Row w U v ls) (hk : ∀ b, U b → U' b) : Row w U' v ls := by
  obtain ⟨gs, h1, h2, h3, h4, h5⟩ := h
  exact ⟨gs, h1, h2, fun i hi => ⟨(h3 i hi).1, hk _ (h3 i hi).2⟩, fun g hg => hk g (h4 g hg), h5⟩

/-- a block of a list of cached writes is neither the disk's own nor a piece -/
theorem Row.cellsAt {w : World} {U : Nat → Prop} {v : Value} {ls : List (List Nat)} (h : Row w U v ls) {g : Nat} (hg : v.ownBlock = some g) : ∃ cs, w.heap[g]? = some (.cells cs 23 (0, 0)) := by
  obtain ⟨gs, h1, h2, h3, h4, h5⟩ := h
  rcases h2.2 with ⟨rfl, _⟩ | ⟨g', cap, cur, rfl, _, hh, _⟩
  · simp [Value.ownBlock] at hg
  · simp only [Value.ownBlock, Option.some.injEq] at hg
    subst hg
    exact ⟨cur, hh⟩

/-- nothing of the disk has turned -/
theorem Core.kept {w w' : World} {L : Lay} {A : Nat → Value} {D : DataW Value} {S : St} (h : Core w L A D S) (hk : ∀ b, L.U b → w'.heap[b]? = w.heap[b]?) (hs : w.heap.size ≤ w'.heap.size) : Core w' L A D S := by
  refine ⟨h.nb1, h.nb2, h.sz, h.fz, (hk _ h.uP).trans h.hp, ?_, h.mlen, h.clen, h.keys, h.hasK, h.at_, fun k hk' => (h.row k hk').kept hk, h.apart, h.offM, h.uP, h.uM, h.uC, fun b hb => Nat.lt_of_lt_of_le (h.uLt b hb) hs⟩
  obtain ⟨ms, h1, h2, h3⟩ := h.hm
  refine ⟨ms, (hk _ h.uM).trans h1, h2, fun i hi => ?_⟩
  obtain ⟨v, hv, hmed⟩ := h3 i hi
  exact ⟨v, hv, hmed.kept hk⟩

theorem ownsMap_keptAt {w w' : World} {b n : Nat} {D : DataW Value} (h : w.ownsMap Try.prog 3 Rv b n D) (e : w'.heap[b]? = w.heap[b]?) : w'.ownsMap Try.prog 3 Rv b n D := by
  obtain ⟨es, clock, hb, r⟩ := h
  exact ⟨es, clock, e.trans hb, r⟩

theorem Rep.kept {w w' : World} {L : Lay} {S : St} (h : Rep w L S) (hk : ∀ b, L.U b → w'.heap[b]? = w.heap[b]?) (hs : w.heap.size ≤ w'.heap.size) : Rep w' L S := by
  obtain ⟨A, D, ho, hc⟩ := h
  exact ⟨A, D, ownsMap_keptAt ho (hk _ hc.uC), hc.kept hk hs⟩
theorem Rep.uLt {w : World} {L : Lay} {S : St} (h : Rep w L S) : ∀ b, L.U b → b < w.heap.size := by
  obtain ⟨A, D, ho, hc⟩ := h
  exact hc.uLt
theorem Rep.below {w w' : World} {L : Lay} {S : St} (h : Rep w L S) (hb : Below w.heap.size w w') : Rep w' L S :=
  h.kept (fun b hu => hb.block b (h.uLt b hu)) hb.size

/-- more blocks may be the disk's -/
theorem Core.wider {w : World} {L : Lay} {A : Nat → Value} {D : DataW Value} {S : St} (h : Core w L A D S) {U' : Nat → Prop} (hU : ∀ b, L.U b → U' b) (hlt : ∀ b, U' b → b < w.heap.size) : Core w { L with U := U' } A D S := by
  refine ⟨h.nb1, h.nb2, h.sz, h.fz, h.hp, ?_, h.mlen, h.clen, h.keys, h.hasK, h.at_, fun k hk' => (h.row k hk').wider hU, h.apart, h.offM, hU _ h.uP, hU _ h.uM, hU _ h.uC, hlt⟩
  obtain ⟨ms, h1, h2, h3⟩ := h.hm
  refine ⟨ms, h1, h2, fun i hi => ?_⟩
  obtain ⟨v, hv, hmed⟩ := h3 i hi
  exact ⟨v, hv, hmed.wider hU⟩

/-- the disk's own row is written -/
theorem Core.setDisk {w w' : World} {L : Lay} {A : Nat → Value} {D : DataW Value} {S : St} (h : Core w L A D S) (o : Bool) (f a b c d : Int) (hf : -1 ≤ f ∧ f ≤ 9223372036854775807)
    (hp : w'.heap[L.p]? = some (.cells (diskRow L { S with off := o, fuse := f, rd := a, wr := b, th := c, fl := d }) 72 (0, 0))) (hk : ∀ b, b ≠ L.p → w'.heap[b]? = w.heap[b]?) (hs : w.heap.size ≤ w'.heap.size) :
    Core w' L A D { S with off := o, fuse := f, rd := a, wr := b, th := c, fl := d } := by
  have piece : ∀ g l, PieceAt w g l → PieceAt w' g l := fun g l hp' => hp'.kept (hk g fun e => by
    subst e
    have := hp'.1
    rw [h.hp] at this
    simp at this)
  have rowB : ∀ k, k < S.nb → ∀ g, (A k).ownBlock = some g → w'.heap[g]? = w.heap[g]? := fun k hk' g hg => hk g fun e => by
    subst e
    obtain ⟨cs, hc⟩ := (h.row k hk').cellsAt hg
    rw [h.hp] at hc
    simp at hc
  refine ⟨h.nb1, h.nb2, h.sz, hf, hp, ?_, h.mlen, h.clen, h.keys, h.hasK, h.at_, fun k hk' => ?_, h.apart, h.offM, h.uP, h.uM, h.uC, fun b hb => Nat.lt_of_lt_of_le (h.uLt b hb) hs⟩
  · obtain ⟨ms, h1, h2, h3⟩ := h.hm
    refine ⟨ms, (hk _ fun e => ?_).trans h1, h2, fun i hi => ?_⟩
    · rw [e, h.hp] at h1; simp at h1
    · obtain ⟨v, hv, hmed⟩ := h3 i hi
      refine ⟨v, hv, ?_⟩
      show Med w' L.U v (S.med i)
      cases hq : S.med i with
      | none => rw [hq] at hmed; exact hmed
      | some l =>
        rw [hq] at hmed
        obtain ⟨g, e, hp', hu⟩ := hmed
        exact ⟨g, e, piece g l hp', hu⟩
  · obtain ⟨gs, r1, r2, r3, r4, r5⟩ := h.row k hk'
    exact ⟨gs, r1, ownsRow_keptIf r2 (rowB k hk'), fun i hi => ⟨piece _ _ (r3 i hi).1, (r3 i hi).2⟩, r4, r5⟩

/-- a block of the medium is written -/
theorem Core.setMed {w w' : World} {L : Lay} {A : Nat → Value} {D : DataW Value} {S : St} (h : Core w L A D S) {i : Nat} (hi : i < S.nb) (v : Value) (o : Option (List Nat)) (hv : Med w L.U v o) (hl : ∀ l, o = some l → l.length = S.sz)
    (hm : ∀ ms : Array Value, w.heap[L.mb]? = some (.cells ms 23 (0, 0)) → w'.heap[L.mb]? = some (.cells (ms.setIfInBounds i v) 23 (0, 0))) (hk : ∀ b, b ≠ L.mb → w'.heap[b]? = w.heap[b]?) (hs : w.heap.size ≤ w'.heap.size) :
    Core w' L A D { S with med := updF S.med i o } := by
  obtain ⟨ms, h1, h2, h3⟩ := h.hm
  have piece : ∀ g l, PieceAt w g l → PieceAt w' g l := fun g l hp' => hp'.kept (hk g fun e => by
    subst e
    have := hp'.1
    rw [h1] at this
    simp at this)
  have rowB : ∀ k, k < S.nb → ∀ g, (A k).ownBlock = some g → w'.heap[g]? = w.heap[g]? := fun k hk' g hg => hk g fun e => h.offM k hk' (e ▸ hg)
  have med' : ∀ v o, Med w L.U v o → Med w' L.U v o := fun v o hmed => by
    cases o with
    | none => exact hmed
    | some l =>
      obtain ⟨g, e, hp', hu⟩ := hmed
      exact ⟨g, e, piece g l hp', hu⟩
  refine ⟨h.nb1, h.nb2, h.sz, h.fz, (hk _ fun e => ?_).trans h.hp, ⟨_, hm ms h1, by simpa using h2, fun j hj => ?_⟩, fun j l hj hjl => ?_, h.clen, h.keys, h.hasK, h.at_, fun k hk' => ?_, h.apart, h.offM, h.uP, h.uM, h.uC, fun b hb => Nat.lt_of_lt_of_le (h.uLt b hb) hs⟩
  · have := h.hp
    rw [e, h1] at this
    simp at this
  · by_cases e : j = i
    · subst e
      refine ⟨v, ?_, ?_⟩
      · rw [Array.getElem?_setIfInBounds_self_of_lt (by omega)]
      · show Med w' L.U v (updF S.med j o j)
        rw [updF_same]
        exact med' _ _ hv
    · obtain ⟨u, hu, hmed⟩ := h3 j hj
      refine ⟨u, ?_, ?_⟩
      · rw [Array.getElem?_setIfInBounds_ne (by omega)]; exact hu
      · show Med w' L.U u (updF S.med i o j)
        rw [updF_other _ _ e]
        exact med' _ _ hmed
  · by_cases e : j = i
    · subst e
      exact hl l (by simpa [updF_same] using hjl)
    · exact h.mlen j l hj (by simpa [updF_other _ _ e] using hjl)
  · obtain ⟨gs, r1, r2, r3, r4, r5⟩ := h.row k hk'
    exact ⟨gs, r1, ownsRow_keptIf r2 (rowB k hk'), fun i hi => ⟨piece _ _ (r3 i hi).1, (r3 i hi).2⟩, r4, r5⟩

theorem kL_inj {k j : Nat} (h : kL k = kL j) : k = j := by simp [kL] at h; omega
theorem kL_key (k : Nat) (hk : k < 9223372036854775808) : WideAt.IsKeyLit (kL k) := by
  trivial

/-- a key is forgotten -/
theorem Core.drop {w w' : World} {L : Lay} {A : Nat → Value} {D : DataW Value} {S : St} (h : Core w L A D S) {i : Nat} (hi : i < S.nb) (hcb : ∃ es c, w.heap[L.cb]? = some (.map es c)) (hk : ∀ b, b ≠ L.cb → w'.heap[b]? = w.heap[b]?) (hs : w.heap.size ≤ w'.heap.size) :
    Core w' L (updF A i nilS) (D.del (kL i)) { S with cache := updF S.cache i [] } := by
  obtain ⟨es, c, hcb⟩ := hcb
  have hkc : ∀ (g : Nat) (cs : Array Value) (t : TypeId), w.heap[g]? = some (Obj.cells cs t (0, 0)) → w'.heap[g]? = w.heap[g]? := fun g cs t hg => hk g fun e => by
    rw [e, hcb] at hg; simp at hg
  have piece : ∀ g l, PieceAt w g l → PieceAt w' g l := fun g l hp' => hp'.kept (hkc g _ _ hp'.1)
  obtain ⟨ms, h1, h2, h3⟩ := h.hm
  refine ⟨h.nb1, h.nb2, h.sz, h.fz, (hkc _ _ _ h.hp).trans h.hp, ⟨ms, (hkc _ _ _ h1).trans h1, h2, fun j hj => ?_⟩, h.mlen, fun j l hj hjl => ?_, fun kl hkl => ?_, fun j hj => ?_, fun j hj => ?_, fun k hk' => ?_, fun a b ha hb hab g hg => ?_, fun k hk' => ?_, h.uP, h.uM, h.uC, fun b hb => Nat.lt_of_lt_of_le (h.uLt b hb) hs⟩
  · obtain ⟨v, hv, hmed⟩ := h3 j hj
    refine ⟨v, hv, ?_⟩
    show Med w' L.U v (S.med j)
    cases hq : S.med j with
    | none => rw [hq] at hmed; exact hmed
    | some l =>
      rw [hq] at hmed
      obtain ⟨g, e, hp', hu⟩ := hmed
      exact ⟨g, e, piece g l hp', hu⟩
  · by_cases e : j = i
    · subst e; simp [updF_same] at hjl
    · exact h.clen j l hj (by simpa [updF_other _ _ e] using hjl)
  · by_cases e : kl = kL i
    · subst e; rw [has_del_same] at hkl; simp at hkl
    · rw [has_del_other e] at hkl; exact h.keys kl hkl
  · show has (D.del (kL i)) (kL j) = true ↔ updF S.cache i [] j ≠ []
    by_cases e : j = i
    · subst e; rw [has_del_same, updF_same]; simp
    · rw [has_del_other (fun e2 => e (kL_inj e2)), updF_other _ _ e]; exact h.hasK j hj
  · by_cases e : j = i
    · subst e; rw [atKey_del_same, updF_same]
    · rw [atKey_del_other (fun e2 => e (kL_inj e2)), updF_other _ _ e]; exact h.at_ j hj
  · show Row w' L.U (updF A i nilS k) (updF S.cache i [] k)
    by_cases e : k = i
    · subst e
      rw [updF_same, updF_same]
      exact ⟨[], rfl, World.ownsRow_nil w' 0 23 1, by simp, by simp [nilS, Value.ownBlock], fun _ => rfl⟩
    · rw [updF_other _ _ e, updF_other _ _ e]
      obtain ⟨gs, r1, r2, r3, r4, r5⟩ := h.row k hk'
      exact ⟨gs, r1, ownsRow_keptIf r2 fun g hg => by obtain ⟨cs, hc⟩ := (h.row k hk').cellsAt hg; exact hkc _ _ _ hc, fun i hi => ⟨piece _ _ (r3 i hi).1, (r3 i hi).2⟩, r4, r5⟩
  · by_cases e : a = i
    · subst e; rw [updF_same] at hg; simp [nilS, Value.ownBlock] at hg
    · rw [updF_other _ _ e] at hg
      by_cases e2 : b = i
      · subst e2; rw [updF_same]; simp [nilS, Value.ownBlock]
      · rw [updF_other _ _ e2]; exact h.apart a b ha hb hab g hg
  · by_cases e : k = i
    · subst e; rw [updF_same]; simp [nilS, Value.ownBlock]
    · rw [updF_other _ _ e]; exact h.offM k hk'

/-- no more keys than blocks -/
theorem nodup_lt_length : ∀ (n : Nat) (l : List Nat), l.Nodup → (∀ x ∈ l, x < n) → l.length ≤ n
  | 0, l, _, h => by
    cases l with
    | nil => simp
    | cons x r => exact absurd (h x (.head _)) (by omega)
  | n + 1, l, hn, h => by
    have h1 := nodup_lt_length n (l.erase n) (hn.erase n) fun x hx => by
      have := (hn.mem_erase_iff).1 hx
      have := h x this.2
      omega
    rw [List.length_erase] at h1
    split at h1 <;> omega

theorem kInt : Keyed Try.prog 3 := int_keyed Try.underlying3

theorem size_le_nb {w : World} {b n : Nat} {D : DataW Value} {nb : Nat} (h : w.ownsMap Try.prog 3 Rv b n D) (hk : ∀ kl, has D kl = true → ∃ k, k < nb ∧ kl = kL k) : Maps.size D ≤ nb := by
  obtain ⟨es, rfl, hp, hkey⟩ := h.entries kInt
  have hin : ∀ p ∈ es, ∃ k, k < nb ∧ p.1 = kL k := fun p hp' => hk _ (List.any_eq_true.2 ⟨p, hp', WideAt.sameKey_self (hkey p hp')⟩)
  show es.length ≤ nb
  have hnum : ∀ l : List (Lit × DataW Value), (∀ p ∈ l, ∃ k, k < nb ∧ p.1 = kL k) → l.Pairwise (fun p q => p.1 ≠ q.1) → ∃ ks : List Nat, ks.length = l.length ∧ ks.Nodup ∧ (∀ x ∈ ks, x < nb ∧ ∃ p ∈ l, p.1 = kL x) := by
    intro l
    induction l with
    | nil => intro _ _; exact ⟨[], rfl, List.nodup_nil, by simp⟩
    | cons p r ih =>
      intro h1 h2
      obtain ⟨h3, h4⟩ := List.pairwise_cons.1 h2
      obtain ⟨ks, e1, e2, e3⟩ := ih (fun q hq => h1 q (.tail _ hq)) h4
      obtain ⟨k, hk1, hk2⟩ := h1 p (.head _)
      refine ⟨k :: ks, by simp [e1], List.nodup_cons.2 ⟨fun hm => ?_, e2⟩, fun x hx => ?_⟩
      · obtain ⟨_, q, hq, e⟩ := e3 k hm
        exact h3 q hq (by rw [hk2, e])
      · rcases List.mem_cons.1 hx with rfl | hx
        · exact ⟨hk1, p, .head _, hk2⟩
        · obtain ⟨a, q, hq, e⟩ := e3 x hx
          exact ⟨a, q, .tail _ hq, e⟩
  obtain ⟨ks, e1, e2, e3⟩ := hnum es hin hp
  rw [← e1]
  exact nodup_lt_length nb ks e2 fun x hx => (e3 x hx).1

theorem ownsMap_tight {w : World} {b n : Nat} {D : DataW Value} (h : w.ownsMap Try.prog 3 Rv b n D) : w.ownsMap Try.prog 3 Rv b (Maps.size D) D := by
  obtain ⟨es, clock, hb, F, hs, rfl⟩ := h
  exact ⟨es, clock, hb, F, by simp [Maps.size, length_sorted], rfl⟩
end Go.Proofs.Ytepgiomgkgfioaa.K
namespace Go.Proofs.Ytepgiomgkgfioaa.K
open Go.RowKit Go.Maps
set_option linter.unusedVariables false
set_option linter.unusedSimpArgs false

theorem dcell {w : World} {L : Lay} {S : St} (hp : w.heap[L.p]? = some (.cells (diskRow L S) 72 (0, 0))) (i : Nat) : w.cell? ⟨L.p, i, none⟩ = (diskRow L S)[i]? := cell_of_row _ _ _ _ _ _ hp
theorem dfree {w : World} {L : Lay} {S : St} (hp : w.heap[L.p]? = some (.cells (diskRow L S) 72 (0, 0))) (i : Nat) : w.frozen? ⟨L.p, i, none⟩ = false := frozen_of_row _ _ _ _ 72 hp

def PD (L : Lay) : Value := .pointer (some ⟨L.p, 0, none⟩)

theorem has_any {w : World} {L : Lay} {S : St} (hp : w.heap[L.p]? = some (.cells (diskRow L S) 72 (0, 0))) (b : Int) :
    Calls Try.prog 32 #[PD L, .int .i64 b] w fun e w' => e = .returned (.bool (decide (0 ≤ b ∧ b < S.nb))) ∧ w' = w := by
  have c0 : w.cell? ⟨L.p, 0, none⟩ = some (.int .i64 (S.nb : Int)) := dcell hp 0
  unfold PD
  by_cases h1 : 0 ≤ b <;> by_cases h2 : b < S.nb
  all_goals
    go_enter Try.func32, Try.ntmps32
    go_wp2
    go_ret
    simp [h1, h2]

theorem refused_any (w : World) (b e : Int) :
    Calls Try.prog 33 #[.int .i64 b, .int .i64 e] w fun r w' => r = .returned (.iface 88 (.pointer (some ⟨w.heap.size, 0, none⟩))) ∧ w' = w.alloc (.cells #[.int .i64 b, .int .i64 e] 90) := by
  go_enter Try.func33, Try.ntmps33
  go_wp2
  go_ret
  exact ⟨rfl, rfl⟩

def zeros (n : Nat) : List Nat := List.replicate n 0
theorem zeros_len (n : Nat) : (zeros n).length = n := by simp [zeros]
theorem zeros_lt (n : Nat) : ∀ b ∈ zeros n, b < 256 := by
  intro b hb
  have := List.eq_of_mem_replicate hb
  omega
theorem made_zeros (n : Nat) : madeCells (Value.int .u8 0).cells (n * 1) = ((zeros n).map byteV).toArray := by
  apply Array.ext_getElem?
  intro i
  by_cases h : i < n
  · simp [madeCells, zeros, byteV, Value.cells, h, Nat.mod_one]
  · simp [madeCells, zeros, byteV, Value.cells, h, Nat.mod_one]

/-- 'make([]byte, n)' -/
theorem wpList_zeros {ops : Array Oper} {rest : List Oper} {o : Oper} {a : Act} {w : World} {Q : Exit → Act → World → Prop} (hgd : o.guard = none) (l c : Operand) (ho : o.op = Op.makeSlice 23 l c)
    (C : Int) (n : Nat) (hl : a.eval l = .int .i64 C) (hc : a.eval c = .int .i64 C) (hC : C = (n : Int)) (hn : n ≤ 281474976710656) (Z : Array Value) (hZ : Hid (((zeros n).map byteV).toArray = Z))
    (h : wpList Try.prog ops Q rest (a.put o.dst (sl w.heap.size n)) (w.alloc (.cells Z 5))) : wpList Try.prog ops Q (o :: rest) a w := by
  obtain ⟨i0, hi, hz0, hz1, hz2⟩ := info_parts info_u8
  subst hC
  refine wpList_plain hgd fun K' hK' => ?_
  have hr := run_make (P := Try.prog) w 23 5 i0 (.int .u8 0) Try.underlying23 hi hz0 .i64 .i64 (n : Int) (n : Int) (by omega) (Int.le_refl _) (by rw [hz2]; omega) (by omega)
  simp only [Int.toNat_natCast] at hr
  rw [hz1, made_zeros, hZ.out] at hr
  unfold Oper.wp
  simp only [execOp, ho, hl, hc, hr, Sem.run_bind, Result.andThen_ok, Sem.run_pure]
  exact hK' _ _ h

set_option maxRecDepth 20000 in
theorem copied_any (v : Value) (l : List Nat) (w : World) (h : BSl w v l) (hr : l.length ≤ 140737488355328) (h0 : 0 < l.length) :
    Calls Try.prog 46 #[v] w fun e w' => e = .returned (sl w.heap.size l.length) ∧ PieceAt w' w.heap.size l ∧ w' = w.alloc (.cells (l.map byteV).toArray 5) := by
  have h' := h
  obtain ⟨a, cap, rfl, hl, hm, hn, hb, hcell⟩ := h'
  obtain ⟨g, off, rfl, hc⟩ := hcell h0
  have hnews := (h.below ((Below.refl _ _).alloc (Nat.le_refl _) (.cells ((zeros l.length).map byteV).toArray 5))).news
  have hone := byteV_oneCell l
  have HE : Hid ((w.alloc (.cells ((zeros l.length).map byteV).toArray 5)).setRow w.heap.size (((zeros l.length).map byteV).toArray.toList.take 0 ++ ((l.map byteV) ++ ((zeros l.length).map byteV).toArray.toList.drop (0 + (l.map byteV).length))).toArray = w.alloc (.cells (l.map byteV).toArray 5)) := by
    refine hide ?_
    rw [World.setRow_alloc_new]
    simp [zeros]
  have HP : Hid (PieceAt (w.alloc (.cells (l.map byteV).toArray 5)) w.heap.size l) := ⟨Go.heap_alloc_new w _, hb, by omega, h0⟩
  clear hn hc h hb hcell
  unfold maxLen at hm
  have hlen : (l.map byteV).length = l.length := by simp
  have hz : ((zeros l.length).map byteV).toArray.size = l.length := by simp [zeros]
  obtain ⟨Z, hZ⟩ : ∃ Z, ((zeros l.length).map byteV).toArray = Z := ⟨_, rfl⟩
  rw [hZ] at hnews HE hz
  have HZ := hide hZ
  clear hZ
  generalize l.map byteV = X at *
  go_enter Try.func46, Try.ntmps46
  go_wp2_with (first
    | (at_make; refine wpList_zeros rfl _ _ rfl _ l.length rfl rfl rfl (by omega) Z HZ ?_)
    | (refine wpList_copy_own rfl (.tmp 7) (.tmp 8) 23 23 rfl 5 Try.underlying23 size_u8 w.heap.size 0 l.length l.length _ l.length cap rfl rfl Z 5 (Go.heap_alloc_new w _) X (by rw [hlen]; simp) hnews (by omega) hone ?_; rw [HE.out]; clear HE HZ hnews hone))
  go_ret
  exact ⟨rfl, HP.out, rfl⟩

theorem cbool {b : Bool} {p : Prop} [Decidable p] (h : b = decide p) : (Value.bool b) = .bool (decide p) := by rw [h]

/-- one writing step: what it makes of a disk, and whether it gets through -/
def St.cut (S : St) : St := { S with off := true }
def St.stepOk (S : St) : Bool := !(S.off || decide (S.fuse = 0))
def St.step (S : St) : St := if S.fuse = 0 then { S with off := true } else if S.off then S else if 0 < S.fuse then { S with fuse := S.fuse - 1 } else S

theorem setDisk_row {w : World} {L : Lay} {S : St} {i : Nat} {v : Value} (hp : w.heap[L.p]? = some (.cells (diskRow L S) 72 (0, 0))) : (w.setCell ⟨L.p, i, none⟩ v).heap[L.p]? = some (.cells ((diskRow L S).setIfInBounds i v) 72 (0, 0)) :=
  Go.heap_setCell_same w L.p i _ 72 _ hp

theorem step_any {w : World} {L : Lay} {S : St} (hR : Rep w L S) :
    Calls Try.prog 50 #[PD L] w fun e w' => e = .returned (.bool S.stepOk) ∧ Rep w' L S.step ∧ Grow w w' L.U L.U ∧ w'.heap.size = w.heap.size ∧ ∀ b, b ≠ L.p → w'.heap[b]? = w.heap[b]? := by
  obtain ⟨A, D, ho, hc⟩ := hR
  have hp := hc.hp
  have c4 : w.cell? ⟨L.p, 4, none⟩ = some (.bool S.off) := dcell hp 4
  have c5 : w.cell? ⟨L.p, 5, none⟩ = some (.int .i64 S.fuse) := dcell hp 5
  have f4 := dfree hp 4
  have f5 := dfree hp 5
  have hfz := hc.fz
  have HO := hide ho
  have HC := hide hc
  clear ho hc
  have hcb : ∃ es c, w.heap[L.cb]? = some (.map es c) := by obtain ⟨es, c, h, _⟩ := HO.out; exact ⟨es, c, h⟩
  have HPC : Hid (L.p ≠ L.cb) := hide fun e => by obtain ⟨es, c, h⟩ := hcb; rw [← e, hp] at h; simp at h
  clear hcb
  have KEEP : Hid (∀ i v, ∀ b, b ≠ L.p → (w.setCell ⟨L.p, i, none⟩ v).heap[b]? = w.heap[b]?) := hide fun i v b hb => Go.heap_setCell_other _ _ _ _ hb
  have SIZE : Hid (∀ i v, (w.setCell ⟨L.p, i, none⟩ v).heap.size = w.heap.size) := hide fun i v => by simp [World.setCell]
  have GROW : Hid (∀ i v, Grow w (w.setCell ⟨L.p, i, none⟩ v) L.U L.U) := hide fun i v => ⟨rfl, rfl, rfl, by rw [SIZE.out]; exact Nat.le_refl _, fun b hb hu => KEEP.out i v b fun e => hu (e ▸ HC.out.uP), fun _ _ h => h, fun _ h => h⟩
  have HROW : Hid (∀ i v, (w.setCell ⟨L.p, i, none⟩ v).heap[L.p]? = some (.cells ((diskRow L S).setIfInBounds i v) 72 (0, 0))) := hide fun i v => setDisk_row hp
  clear hp
  unfold PD
  by_cases h0 : S.fuse = 0
  · have e1 : S.stepOk = false := by simp [St.stepOk, h0]
    have e2 : S.step = { S with off := true } := by simp [St.step, h0]
    rw [e1, e2, ]
    rw [h0] at c5
    go_enter Try.func50, Try.ntmps50
    go_wp2
    go_ret
    refine ⟨rfl, ⟨A, D, ownsMap_keptAt HO.out (KEEP.out _ _ _ fun e => HPC.out e.symm), ?_⟩, GROW.out _ _, SIZE.out _ _, KEEP.out _ _⟩
    exact HC.out.setDisk true S.fuse S.rd S.wr S.th S.fl hfz (by rw [HROW.out]; rfl) (KEEP.out _ _) (by rw [SIZE.out]; exact Nat.le_refl _)
  · by_cases h1 : S.off = true
    · have e1 : S.stepOk = false := by simp [St.stepOk, h1]
      have e2 : S.step = S := by simp [St.step, h0, h1]
      rw [e1, e2]
      rw [h1] at c4
      go_enter Try.func50, Try.ntmps50
      go_wp2
      go_ret
      exact ⟨rfl, ⟨A, D, HO.out, HC.out⟩, Grow.refl _ _, rfl, fun _ _ => rfl⟩
    · have h1' : S.off = false := by simpa using h1
      have e1 : S.stepOk = true := by simp [St.stepOk, h0, h1']
      rw [e1]
      rw [h1'] at c4
      by_cases h2 : 0 < S.fuse
      · have e2 : S.step = { S with fuse := S.fuse - 1 } := by simp [St.step, h0, h1', h2]
        rw [e2]
        go_enter Try.func50, Try.ntmps50
        go_wp2
        go_ret
        refine ⟨rfl, ⟨A, D, ownsMap_keptAt HO.out (KEEP.out _ _ _ fun e => HPC.out e.symm), ?_⟩, GROW.out _ _, SIZE.out _ _, KEEP.out _ _⟩
        exact HC.out.setDisk S.off (S.fuse - 1) S.rd S.wr S.th S.fl (by omega) (by rw [HROW.out]; rfl) (KEEP.out _ _) (by rw [SIZE.out]; exact Nat.le_refl _)
      · have e2 : S.step = S := by simp [St.step, h0, h1', h2]
        rw [e2]
        go_enter Try.func50, Try.ntmps50
        go_wp2
        go_ret
        exact ⟨rfl, ⟨A, D, HO.out, HC.out⟩, Grow.refl _ _, rfl, fun _ _ => rfl⟩
end Go.Proofs.Ytepgiomgkgfioaa.K
namespace Go.Proofs.Ytepgiomgkgfioaa.K
open Go.RowKit Go.Maps
set_option linter.unusedVariables false
set_option linter.unusedSimpArgs false
set_option maxRecDepth 20000

theorem wf_k {k : Nat} (hk : k < 9223372036854775808) : (Lit.int .i64 (k : Int)).wf = true := by
  have h1 : IntKind.i64.min = -9223372036854775808 := by decide
  have h2 : IntKind.i64.max = 9223372036854775807 := by decide
  simp only [Lit.wf, h1, h2, Bool.and_eq_true, decide_eq_true_eq]
  omega
theorem eqNil_some (W : World) (a : Addr) (n c : Nat) : (binOp .eql 23 (.slice (some a) n c) (.slice none 0 0)).run Try.prog W = .ok (.bool false) W := Lib.run_eql_slice_nil (P := Try.prog) W 23 5 (some a) n c 0 0 Try.underlying23
theorem eqNil_nil (W : World) : (binOp .eql 23 (.slice none 0 0) (.slice none 0 0)).run Try.prog W = .ok (.bool true) W := Lib.run_eql_slice_nil (P := Try.prog) W 23 5 none 0 0 0 0 Try.underlying23
theorem neNil_some (W : World) (a : Addr) (n c : Nat) : (binOp .neq 23 (.slice (some a) n c) (.slice none 0 0)).run Try.prog W = .ok (.bool true) W := by
  simp only [binOp]
  simp [Op.equal, Op.maxDepth, Lib.run_equalIn_slice_nil (P := Try.prog) W 9999 23 5 (some a) n c 0 0 Try.underlying23]
theorem neNil_nil (W : World) : (binOp .neq 23 (.slice none 0 0) (.slice none 0 0)).run Try.prog W = .ok (.bool false) W := by
  simp only [binOp]
  simp [Op.equal, Op.maxDepth, Lib.run_equalIn_slice_nil (P := Try.prog) W 9999 23 5 none 0 0 0 0 Try.underlying23]
def medV (L : Lay) (S : St) : Value := .slice (some ⟨L.mb, 0, none⟩) S.nb S.nb
def berr (b e : Int) : Obj := .cells #[.int .i64 b, .int .i64 e] 90
abbrev errV (g : Nat) : Value := .iface 88 (.pointer (some ⟨g, 0, none⟩))

theorem Core.medCell {w : World} {L : Lay} {A : Nat → Value} {D : DataW Value} {S : St} (h : Core w L A D S) {k : Nat} (hk : k < S.nb) : ∃ v, w.cell? ⟨L.mb, k, none⟩ = some v ∧ Med w L.U v (S.med k) := by
  obtain ⟨ms, h1, h2, h3⟩ := h.hm
  obtain ⟨v, hv, hm⟩ := h3 k hk
  exact ⟨v, by rw [cell_of_row _ _ _ _ _ _ h1]; exact hv, hm⟩
theorem Core.medFree {w : World} {L : Lay} {A : Nat → Value} {D : DataW Value} {S : St} (h : Core w L A D S) (k : Nat) : w.frozen? ⟨L.mb, k, none⟩ = false := by
  obtain ⟨ms, h1, h2, h3⟩ := h.hm
  exact frozen_of_row _ _ _ _ 23 h1

theorem mlook_some {w : World} {L : Lay} {A : Nat → Value} {D : DataW Value} {S : St} (h : Core w L A D S) {k : Nat} (hk : k < S.nb) {l : List Nat} (hl : S.med k = some l) :
    Calls Try.prog 70 #[medV L S, .int .i64 (k : Int)] w fun e w' => ∃ g, e = .returned (.tuple #[sl g l.length, .nilIface]) ∧ w' = w ∧ PieceAt w g l ∧ L.U g := by
  obtain ⟨v, hv, hm⟩ := h.medCell hk
  rw [hl] at hm
  obtain ⟨g, rfl, hp, hu⟩ := hm
  have HP := hide hp
  have hnb := h.nb2
  clear hp h hl
  unfold medV
  unfold sl at hv
  have hq := eqNil_some
  go_enter Try.func70, Try.ntmps70
  go_wp2
  go_ret2
  exact ⟨g, rfl, rfl, HP.out, hu⟩

theorem mlook_none {w : World} {L : Lay} {A : Nat → Value} {D : DataW Value} {S : St} (h : Core w L A D S) {k : Nat} (hk : k < S.nb) (hl : S.med k = none) :
    Calls Try.prog 70 #[medV L S, .int .i64 (k : Int)] w fun e w' => e = .returned (.tuple #[nilS, errV w.heap.size]) ∧ w' = w.alloc (berr k 21) := by
  obtain ⟨v, hv, hm⟩ := h.medCell hk
  rw [hl] at hm
  have hm' : v = nilS := hm
  subst hm'
  have hnb := h.nb2
  clear h hl hm
  unfold medV
  unfold nilS at hv
  have hq := eqNil_nil
  go_enter Try.func70, Try.ntmps70
  go_wp2_with (go_at_call 33; refine (refused_any _ _ _).mono ?_; rintro e w' ⟨rfl, rfl⟩)
  go_ret2
  exact ⟨rfl, rfl⟩

theorem mlay_any {w : World} {L : Lay} {A : Nat → Value} {D : DataW Value} {S : St} (h : Core w L A D S) {k : Nat} (hk : k < S.nb) (ad : Option Addr) (n c : Nat) :
    Calls Try.prog 69 #[medV L S, .int .i64 (k : Int), .slice ad n c] w fun e w' => e = .returned (.tuple #[]) ∧ w' = w.setCell ⟨L.mb, k, none⟩ (.slice ad n c) := by
  obtain ⟨u, hu, _⟩ := h.medCell hk
  have hf := h.medFree k
  have hnb := h.nb2
  clear h
  unfold medV
  go_enter Try.func69, Try.ntmps69
  go_wp2
  go_end0
  exact ⟨rfl, rfl⟩

theorem mspoil_any {w : World} {L : Lay} {A : Nat → Value} {D : DataW Value} {S : St} (h : Core w L A D S) {k : Nat} (hk : k < S.nb) :
    Calls Try.prog 34 #[medV L S, .int .i64 (k : Int)] w fun e w' => e = .returned (.tuple #[]) ∧ w' = w.setCell ⟨L.mb, k, none⟩ nilS := by
  obtain ⟨u, hu, _⟩ := h.medCell hk
  have hf := h.medFree k
  have hnb := h.nb2
  clear h
  unfold medV
  go_enter Try.func34, Try.ntmps34
  go_wp2
  go_end0
  exact ⟨rfl, rfl⟩

/-- what the map tells at a block -/
theorem look_run {w : World} {L : Lay} {A : Nat → Value} {D : DataW Value} {S : St} (ho : w.ownsMap Try.prog 3 Rv L.cb 8192 D) (h : Core w L A D S) {k : Nat} (hk : k < S.nb) :
    (Instr.lookup 68 (.map (some L.cb)) (.int .i64 (k : Int)) false).run Try.prog w = .ok (A k) w := by
  have hnb := h.nb2
  obtain ⟨v, ps, hr, hv⟩ := ho.lookup kInt (t := 68) Try.underlying68 (zeroBB w) (zd := .held nilS) (zp := []) rfl (key := .int .i64 (k : Int)) (kl := kL k) (keyOf_int_mk Try.underlying3 (wf_k (by omega)))
  rw [h.at_ k hk] at hv
  simp only [Rv, Option.some.injEq, Prod.mk.injEq, DataW.held.injEq] at hv
  rw [hr, hv.1]

theorem kL_key' (k : Nat) : WideAt.IsKeyLit (kL k) := by trivial
theorem getD_app {α : Type} (l m : List α) (d : α) {i : Nat} (h : i < l.length) : (l ++ m).getD i d = l.getD i d := by
  simp [List.getD, h, List.getElem?_append_left]
theorem getD_get {α : Type} {l : List α} {i : Nat} (d : α) (h : i < l.length) : l[i]? = some (l.getD i d) := by
  simp [List.getD, h]

theorem Row.at_ {w : World} {U : Nat → Prop} {v : Value} {ls : List (List Nat)} (h : Row w U v ls) {i : Nat} (hi : i < ls.length) :
    ∃ gr cap g, v = .slice (some ⟨gr, 0, none⟩) ls.length cap ∧ ls.length ≤ cap ∧ cap ≤ maxLen ∧ w.cell? ⟨gr, i, none⟩ = some (sl g (ls.getD i []).length) ∧ PieceAt w g (ls.getD i []) ∧ U g := by
  obtain ⟨gs, r1, r2, r3, r4, r5⟩ := h
  rcases r2.2 with ⟨_, h0⟩ | ⟨gr, cap, cur, e, _, _, hcap, hmx, _⟩
  · omega
  refine ⟨gr, cap, gs.getD i 0, e, hcap, hmx, ?_, (r3 i hi).1, (r3 i hi).2⟩
  subst e
  rw [r2.cellAt i (by omega), List.getElem?_map, List.getElem?_range hi]
  rfl

theorem clook_some {w : World} {L : Lay} {A : Nat → Value} {D : DataW Value} {S : St} (ho : w.ownsMap Try.prog 3 Rv L.cb 8192 D) (h : Core w L A D S) {k : Nat} (hk : k < S.nb) (hne : S.cache k ≠ []) :
    Calls Try.prog 72 #[.map (some L.cb), .int .i64 (k : Int)] w fun e w' => ∃ g l, e = .returned (.tuple #[sl g l.length, .nilIface]) ∧ w' = w ∧ (S.cache k).getLast? = some l ∧ PieceAt w g l ∧ L.U g := by
  have hr := look_run ho h hk
  have hpos : 0 < (S.cache k).length := List.length_pos_iff.2 hne
  obtain ⟨gr, cap, g, e, hcap, hmx, hc, hp, hu⟩ := (h.row k hk).at_ (i := (S.cache k).length - 1) (by omega)
  have HL : Hid ((S.cache k).getLast? = some ((S.cache k).getD ((S.cache k).length - 1) [])) := hide (by
    rw [List.getLast?_eq_getElem?]; exact getD_get [] (by omega))
  rw [e] at hr
  generalize (S.cache k).getD ((S.cache k).length - 1) [] = l at *
  generalize (S.cache k).length = n at *
  have HP := hide hp
  clear hp h ho hne e
  unfold sl at hc
  unfold maxLen at hmx
  go_enter Try.func72, Try.ntmps72
  go_wp2
  go_ret2
  exact ⟨g, l, rfl, rfl, HL.out, HP.out, hu⟩

theorem clook_none {w : World} {L : Lay} {A : Nat → Value} {D : DataW Value} {S : St} (ho : w.ownsMap Try.prog 3 Rv L.cb 8192 D) (h : Core w L A D S) {k : Nat} (hk : k < S.nb) (hne : S.cache k = []) :
    Calls Try.prog 72 #[.map (some L.cb), .int .i64 (k : Int)] w fun e w' => e = .returned (.tuple #[nilS, .nilIface]) ∧ w' = w := by
  have hr := look_run ho h hk
  obtain ⟨gs, r1, r2, r3, r4, r5⟩ := h.row k hk
  rw [r5 hne] at hr
  unfold nilS at hr
  clear r2 r3 r4 r5 h ho
  go_enter Try.func72, Try.ntmps72
  go_wp2
  go_ret2
  exact ⟨rfl, rfl⟩

/-- the disk's own row is written -/
theorem Rep.store {w : World} {L : Lay} {S : St} (hR : Rep w L S) (i : Nat) (v : Value) (o : Bool) (f a b c d : Int) (hf : -1 ≤ f ∧ f ≤ 9223372036854775807) (hrow : (diskRow L S).setIfInBounds i v = diskRow L { S with off := o, fuse := f, rd := a, wr := b, th := c, fl := d }) :
    Rep (w.setCell ⟨L.p, i, none⟩ v) L { S with off := o, fuse := f, rd := a, wr := b, th := c, fl := d } ∧ Grow w (w.setCell ⟨L.p, i, none⟩ v) L.U L.U ∧ (w.setCell ⟨L.p, i, none⟩ v).heap.size = w.heap.size := by
  obtain ⟨A, D, ho, hc⟩ := hR
  have hp := hc.hp
  have hne : L.cb ≠ L.p := fun e => by obtain ⟨es, c, h, _⟩ := ho; rw [e, hp] at h; simp at h
  have KEEP : ∀ b, b ≠ L.p → (w.setCell ⟨L.p, i, none⟩ v).heap[b]? = w.heap[b]? := fun b hb => Go.heap_setCell_other _ _ _ _ hb
  have SIZE : (w.setCell ⟨L.p, i, none⟩ v).heap.size = w.heap.size := by simp [World.setCell]
  exact ⟨⟨A, D, ownsMap_keptAt ho (KEEP _ hne), hc.setDisk o f a b c d hf (by rw [setDisk_row hp, hrow]) KEEP (by rw [SIZE]; exact Nat.le_refl _)⟩,
    ⟨rfl, rfl, rfl, by rw [SIZE]; exact Nat.le_refl _, fun b hb hu => KEEP b fun e => hu (e ▸ hc.uP), fun _ _ h => h, fun _ h => h⟩, SIZE⟩

/-- a block of the medium is written -/
theorem Rep.setMed {w : World} {L : Lay} {S : St} (hR : Rep w L S) {k : Nat} (hk : k < S.nb) (v : Value) (o : Option (List Nat)) (hv : Med w L.U v o) (hl : ∀ l, o = some l → l.length = S.sz) :
    Rep (w.setCell ⟨L.mb, k, none⟩ v) L { S with med := updF S.med k o } ∧ Grow w (w.setCell ⟨L.mb, k, none⟩ v) L.U L.U ∧ (w.setCell ⟨L.mb, k, none⟩ v).heap.size = w.heap.size := by
  obtain ⟨A, D, ho, hc⟩ := hR
  obtain ⟨ms, h1, _⟩ := hc.hm
  have hne : L.cb ≠ L.mb := fun e => by obtain ⟨es, c, h, _⟩ := ho; rw [e, h1] at h; simp at h
  have KEEP : ∀ b, b ≠ L.mb → (w.setCell ⟨L.mb, k, none⟩ v).heap[b]? = w.heap[b]? := fun b hb => Go.heap_setCell_other _ _ _ _ hb
  have SIZE : (w.setCell ⟨L.mb, k, none⟩ v).heap.size = w.heap.size := by simp [World.setCell]
  exact ⟨⟨A, D, ownsMap_keptAt ho (KEEP _ hne), hc.setMed hk v o hv hl (fun ms hms => Go.heap_setCell_same w L.mb k _ 23 _ hms) KEEP (by rw [SIZE]; exact Nat.le_refl _)⟩,
    ⟨rfl, rfl, rfl, by rw [SIZE]; exact Nat.le_refl _, fun b hb hu => KEEP b fun e => hu (e ▸ hc.uM), fun _ _ h => h, fun _ h => h⟩, SIZE⟩

theorem Rep.wider {w : World} {L : Lay} {S : St} (h : Rep w L S) {U' : Nat → Prop} (hU : ∀ b, L.U b → U' b) (hlt : ∀ b, U' b → b < w.heap.size) : Rep w { L with U := U' } S := by
  obtain ⟨A, D, ho, hc⟩ := h
  exact ⟨A, D, ho, hc.wider hU hlt⟩

/-- one more cached write -/
theorem Core.putRow {w w2 : World} {L : Lay} {A : Nat → Value} {D : DataW Value} {S : St} (h : Core w L A D S) {k g : Nat} (hk : k < S.nb) {l : List Nat} (hcb : ∃ es c, w.heap[L.cb]? = some (.map es c)) (hU : L.U g) (hg : PieceAt w g l) (hl : l.length = S.sz)
    (hD : IsMap D) (v' : Value) (hs : w.heap.size ≤ w2.heap.size) (hkeep : ∀ b, b < w.heap.size → b ≠ L.cb → some b ≠ (A k).ownBlock → w2.heap[b]? = w.heap[b]?)
    (hrow : ∀ xs, w.ownsRow 0 23 1 (A k) (S.cache k).length xs → w2.ownsRow 0 23 1 v' ((S.cache k).length + 1) (xs ++ [sl g l.length])) (hat : v'.ownBlock = (A k).ownBlock ∨ ∃ g', v'.ownBlock = some g' ∧ w.heap.size ≤ g') :
    Core w2 { L with U := fun b => L.U b ∨ (w.heap.size ≤ b ∧ b < w2.heap.size) } (updF A k v') (D.put (kL k) (.held v')) { S with cache := updF S.cache k (S.cache k ++ [l]) } := by
  obtain ⟨es, c, hcb⟩ := hcb
  have hkc : ∀ (b : Nat) (cs : Array Value) (t : TypeId), w.heap[b]? = some (Obj.cells cs t (0, 0)) → some b ≠ (A k).ownBlock → w2.heap[b]? = w.heap[b]? := fun b cs t hb hne =>
    hkeep b (Array.getElem?_eq_some_iff.1 hb).1 (fun e => by rw [e, hcb] at hb; simp at hb) hne
  have hA : ∀ b, (A k).ownBlock = some b → ∃ cs, w.heap[b]? = some (.cells cs 23 (0, 0)) := fun b hb => (h.row k hk).cellsAt hb
  have piece : ∀ b l, PieceAt w b l → PieceAt w2 b l := fun b l hp' => hp'.kept (hkc b _ _ hp'.1 fun e => by
    obtain ⟨cs, hcs⟩ := hA b e.symm
    have := hp'.1
    rw [hcs] at this
    simp at this)
  obtain ⟨ms, h1, h2, h3⟩ := h.hm
  refine ⟨h.nb1, h.nb2, h.sz, h.fz, (hkc _ _ _ h.hp fun e => ?_).trans h.hp, ⟨ms, (hkc _ _ _ h1 fun e => h.offM k hk e.symm).trans h1, h2, fun j hj => ?_⟩, h.mlen, fun j m hj hjl => ?_, fun kl hkl => ?_, fun j hj => ?_, fun j hj => ?_, fun j hj => ?_, fun a b ha hb hab x hx => ?_, fun j hj => ?_, .inl h.uP, .inl h.uM, .inl h.uC, fun b hb => ?_⟩
  · obtain ⟨cs, hcs⟩ := hA _ e.symm
    have := h.hp
    rw [hcs] at this
    simp at this
  · obtain ⟨v, hv, hmed⟩ := h3 j hj
    refine ⟨v, hv, ?_⟩
    show Med w2 _ v (S.med j)
    cases hq : S.med j with
    | none => rw [hq] at hmed; exact hmed
    | some m =>
      rw [hq] at hmed
      obtain ⟨b, e, hp', hu⟩ := hmed
      exact ⟨b, e, piece b m hp', .inl hu⟩
  · by_cases e : j = k
    · subst e
      rw [show ({ S with cache := updF S.cache j (S.cache j ++ [l]) } : St).cache j = S.cache j ++ [l] from updF_same _ _ _] at hjl
      rcases List.mem_append.1 hjl with hm | hm
      · exact h.clen j m hj hm
      · simp only [List.mem_singleton] at hm; subst hm; exact hl
    · exact h.clen j m hj (by simpa [updF_other _ _ e] using hjl)
  · by_cases e : kl = kL k
    · exact ⟨k, hk, e⟩
    · rw [has_put_other e] at hkl; exact h.keys kl hkl
  · show has (D.put (kL k) (.held v')) (kL j) = true ↔ updF S.cache k (S.cache k ++ [l]) j ≠ []
    by_cases e : j = k
    · subst e; rw [has_put_same hD (kL_key' j), updF_same]; simp
    · rw [has_put_other (fun e2 => e (kL_inj e2)), updF_other _ _ e]; exact h.hasK j hj
  · by_cases e : j = k
    · subst e; rw [atKey_put_same hD (kL_key' j), updF_same]
    · rw [atKey_put_other (fun e2 => e (kL_inj e2)), updF_other _ _ e]; exact h.at_ j hj
  · show Row w2 _ (updF A k v' j) (updF S.cache k (S.cache k ++ [l]) j)
    obtain ⟨gs, r1, r2, r3, r4, r5⟩ := h.row j hj
    by_cases e : j = k
    · subst e
      rw [updF_same, updF_same]
      refine ⟨gs ++ [g], by simp [r1], ?_, fun i hi => ?_, fun x hx => ?_, fun e => by simp at e⟩
      · have := hrow _ r2
        have e2 : (List.range (S.cache j ++ [l]).length).map (fun i => sl ((gs ++ [g]).getD i 0) ((S.cache j ++ [l]).getD i []).length) = (List.range (S.cache j).length).map (fun i => sl (gs.getD i 0) ((S.cache j).getD i []).length) ++ [sl g l.length] := by
          rw [List.length_append, List.length_singleton, List.range_succ, List.map_append]
          congr 1
          · apply List.map_congr_left
            intro i hi
            have hi' := List.mem_range.1 hi
            rw [getD_app _ _ _ hi', getD_app _ _ _ (by omega)]
          · simp [List.getD, r1]
        rw [e2, List.length_append, List.length_singleton]
        exact this
      · by_cases hi' : i < (S.cache j).length
        · rw [getD_app _ _ _ hi', getD_app _ _ _ (by omega)]
          exact ⟨piece _ _ (r3 i hi').1, .inl (r3 i hi').2⟩
        · have : i = (S.cache j).length := by simp at hi; omega
          subst this
          have e3 : (gs ++ [g]).getD (S.cache j).length 0 = g := by simp [List.getD, ← r1]
          have e4 : (S.cache j ++ [l]).getD (S.cache j).length [] = l := by simp [List.getD]
          rw [e3, e4]
          exact ⟨piece _ _ hg, .inl hU⟩
      · rcases hat with e | ⟨g', e, hg'⟩
        · exact .inl (r4 x (e ▸ hx))
        · rw [e] at hx
          simp only [Option.some.injEq] at hx
          subst hx
          exact .inr ⟨hg', by
            rcases (hrow _ r2).2 with ⟨e0, _⟩ | ⟨g2, cap, cur, e0, _, hh, _⟩
            · rw [e0] at e; simp [Value.ownBlock] at e
            · rw [e0] at e
              simp only [Value.ownBlock, Option.some.injEq] at e
              rw [← e]
              exact (Array.getElem?_eq_some_iff.1 hh).1⟩
    · rw [updF_other _ _ e, updF_other _ _ e]
      exact ⟨gs, r1, ownsRow_keptIf r2 fun x hx => by
        obtain ⟨cs, hc⟩ := (h.row j hj).cellsAt hx
        exact hkc _ _ _ hc fun e2 => h.apart k j hk hj (Ne.symm e) x e2.symm hx, fun i hi => ⟨piece _ _ (r3 i hi).1, .inl (r3 i hi).2⟩, fun x hx => .inl (r4 x hx), r5⟩
  · have old : ∀ j, j < S.nb → ∀ x, (A j).ownBlock = some x → x < w.heap.size := fun j hj x hx => by
      obtain ⟨cs, hc⟩ := (h.row j hj).cellsAt hx
      exact (Array.getElem?_eq_some_iff.1 hc).1
    by_cases e : a = k
    · subst e
      rw [updF_same] at hx
      rw [updF_other _ _ (Ne.symm hab)]
      intro hy
      rcases hat with e2 | ⟨g', e2, hg'⟩
      · exact h.apart a b ha hb hab x (e2 ▸ hx) hy
      · rw [e2] at hx
        simp only [Option.some.injEq] at hx
        have := old b hb x hy
        omega
    · rw [updF_other _ _ e] at hx
      by_cases e3 : b = k
      · subst e3
        rw [updF_same]
        intro hy
        rcases hat with e2 | ⟨g', e2, hg'⟩
        · exact h.apart a b ha hb hab x hx (e2 ▸ hy)
        · rw [e2] at hy
          simp only [Option.some.injEq] at hy
          have := old a ha x hx
          omega
      · rw [updF_other _ _ e3]; exact h.apart a b ha hb hab x hx
  · by_cases e : j = k
    · subst e
      rw [updF_same]
      intro hy
      rcases hat with e2 | ⟨g', e2, hg'⟩
      · exact h.offM j hj (e2 ▸ hy)
      · rw [e2] at hy
        simp only [Option.some.injEq] at hy
        have := (Array.getElem?_eq_some_iff.1 h1).1
        omega
    · rw [updF_other _ _ e]; exact h.offM j hj
  · rcases hb with hb | hb
    · exact Nat.lt_of_lt_of_le (h.uLt b hb) hs
    · exact hb.2
end Go.Proofs.Ytepgiomgkgfioaa.K
namespace Go.Proofs.Ytepgiomgkgfioaa.K
open Go.RowKit
set_option linter.unusedVariables false

/-- append of one list to a row of lists that the call owns: where the new row lies, up to growslice's own bound -/
theorem push_wide {P : Program} (w : World) (t ty e : TypeId) (i : TypeInfo) (z : Value) (ht : P.underlying t = some (.slice e)) (hi : P.info? e = some i) (hz : i.zero = some z) (hsize : i.size = 1) (hby : i.bytes = 24) (hzs : z.cells.size = 1)
    (v : Value) (n : Nat) (xs : List Value) (hown : w.ownsRow 0 e 1 v n xs) (ad : Addr) (c : Nat) (x : Value) (hx : ∀ j u, [x][j]? = some u → w.cell? (ad.add j) = some u) (h1 : ∀ u ∈ [x], u.oneCell' = true) (hn : n + 1 ≤ 9382499223500) :
    ∃ v' w', (Builtin.append_ #[t, t] ty #[v, .slice (some ad) 1 c]).run P w = .ok v' w' ∧ w'.ownsRow 0 e 1 v' (n + 1) (xs ++ [x]) ∧ w.grownBy w' v.ownBlock ∧ (v'.ownBlock = v.ownBlock ∨ v'.ownBlock = some w.heap.size) := by
  have hb : ((n + 1) + (n + 1) / 4 + 192) * 24 ≤ 281474976710656 := by omega
  obtain ⟨v', w', hr, h2, h3, -⟩ := run_append_own_wide (P := P) w 0 t ty e i z 1 24 ht hi hz hsize hby hzs (by decide) v n xs hown ad 1 c [x] rfl hx h1 (by unfold maxLen; omega) hb (Nat.zero_le _)
  refine ⟨v', w', hr, h2, h3, ?_⟩
  rcases hown.2 with ⟨rfl, rfl⟩ | ⟨g, cap, cur, rfl, -, hg, hnc, hcm, hcs, ht'⟩
  · have := run_append_nil (P := P) w t ty e i z ht hi hz ad 1 c [x] (by rw [hsize]; rfl) hx (by decide) (by decide) (by rw [hby]; decide)
    rw [this] at hr
    injection hr with hr _
    exact .inr (by rw [← hr]; rfl)
  · by_cases hroom : n + 1 ≤ cap
    · have := run_append_room (P := P) w t ty e i ht hi g n cap cur hg ad 1 c [x] (by rw [hsize]; rfl) hx h1 hroom (by rw [hsize, hcs]; simp; omega)
      rw [this] at hr
      injection hr with hr _
      exact .inl (by rw [← hr]; rfl)
    · have := run_append_grow (P := P) w t ty e i z ht hi hz ⟨g, 0, none⟩ n cap xs (by rw [hsize]; exact hown.1) (hown.cells (g := g) rfl) ad 1 c [x] (by rw [hsize]; rfl) hx (by omega) (by omega) (growslice_fits_wide (by omega) (by rw [hby]; exact hb))
      rw [this] at hr
      injection hr with hr _
      exact .inr (by rw [← hr]; rfl)

theorem wpList_push_wide {P : Program} (w : World) {ops : Array Oper} {rest : List Oper} {o : Oper} {a : Act} {Q : Exit → Act → World → Prop} (hgd : o.guard = none) (s x : Operand) (t : TypeId)
    (ho : o.op = .call { callee := .builtin .append, args := #[s, x], argTypes := #[t, t] })
    (e : TypeId) (i : TypeInfo) (z : Value) (ht : P.underlying t = some (.slice e)) (hi : P.info? e = some i) (hz : i.zero = some z) (hsize : i.size = 1) (hby : i.bytes = 24) (hzs : z.cells.size = 1)
    (v : Value) (n : Nat) (xs : List Value) (hs : a.eval s = v) (hown : w.ownsRow 0 e 1 v n xs)
    (ad : Addr) (c : Nat) (y : Value) (hx : a.eval x = .slice (some ad) 1 c) (hnews : ∀ j u, [y][j]? = some u → w.cell? (ad.add j) = some u) (h1 : ∀ u ∈ [y], u.oneCell' = true) (hn : n + 1 ≤ 9382499223500)
    (h : ∀ v' w', w'.ownsRow 0 e 1 v' (n + 1) (xs ++ [y]) → w.grownBy w' v.ownBlock → (v'.ownBlock = v.ownBlock ∨ v'.ownBlock = some w.heap.size) → wpList P ops Q rest (a.put o.dst v') w') :
    wpList P ops Q (o :: rest) a w := by
  refine wpList_plain hgd fun K hK => ?_
  obtain ⟨v', w', hr, h2, h3, h4⟩ := push_wide w t o.type e i z ht hi hz hsize hby hzs v n xs hown ad c y hnews h1 hn
  unfold Oper.wp execOp
  simp only [ho, resolve, invoke, builtin, Sem.run_bind, Sem.run_pure, Result.andThen_ok, List.map_toArray, List.map_cons, List.map_nil, hs, hx, hr]
  exact hK _ _ (h v' w' h2 h3 h4)
end Go.Proofs.Ytepgiomgkgfioaa.K
namespace Go.Proofs.Ytepgiomgkgfioaa.K
open Go.RowKit Go.Maps
set_option linter.unusedVariables false
set_option linter.unusedSimpArgs false
set_option maxRecDepth 20000

theorem ownsRow_unique {w : World} {e : TypeId} {v : Value} {n : Nat} {xs ys : List Value} (h : w.ownsRow 0 e 1 v n xs) (h' : w.ownsRow 0 e 1 v n ys) : xs = ys := by
  rcases h.2 with ⟨rfl, h0⟩ | ⟨g, cap, cur, rfl, _, hh, _, _, _, ht⟩
  · have h1 := h.1
    have h2 := h'.1
    rw [h0] at h1 h2
    have e1 : xs = [] := List.eq_nil_of_length_eq_zero (by simpa using h1)
    have e2 : ys = [] := List.eq_nil_of_length_eq_zero (by simpa using h2)
    rw [e1, e2]
  · rcases h'.2 with ⟨h0, _⟩ | ⟨g2, cap2, cur2, e2, _, hh2, _, _, _, ht2⟩
    · simp at h0
    · simp only [Value.slice.injEq, Option.some.injEq, Addr.mk.injEq, and_true, true_and] at e2
      obtain ⟨rfl, rfl⟩ := e2
      rw [hh] at hh2
      simp only [Option.some.injEq, Obj.cells.injEq, and_true] at hh2
      subst hh2
      rw [← ht, ← ht2]

theorem clay_any' {w : World} {L : Lay} {S : St} (hR : Rep w L S) {k g : Nat} (hk : k < S.nb) {l : List Nat} (hU : L.U g) (hg : PieceAt w g l) (hl : l.length = S.sz) (hb : (S.cache k).length + 1 ≤ 9382499223500) :
    Calls Try.prog 71 #[.map (some L.cb), .int .i64 (k : Int), sl g l.length] w fun e w' => e = .returned (.tuple #[]) ∧ ∃ U', Rep w' { L with U := U' } { S with cache := updF S.cache k (S.cache k ++ [l]) } ∧ Grow w w' L.U U' ∧ ∀ b m, PieceAt w b m → PieceAt w' b m := by
  obtain ⟨A, D, ho, hc⟩ := hR
  obtain ⟨i0, hi, hz0, hz1, hz2⟩ := info_parts info_bytes
  have hr := look_run ho hc hk
  have hnb := hc.nb2
  obtain ⟨gs, r1, r2, r3, r4, r5⟩ := hc.row k hk
  generalize hxs : (List.range (S.cache k).length).map (fun i => sl (gs.getD i 0) ((S.cache k).getD i []).length) = xs at *
  have hkey : keyOf Try.prog 3 (.int .i64 (k : Int)) = some (kL k) := keyOf_int_mk Try.underlying3 (wf_k (by omega))
  have hcb : ∃ es c, w.heap[L.cb]? = some (.map es c) := by obtain ⟨es, c, h, _⟩ := ho; exact ⟨es, c, h⟩
  have hrb : some L.cb ≠ (A k).ownBlock := fun e => by
    obtain ⟨cs, h⟩ := (hc.row k hk).cellsAt e.symm
    obtain ⟨es, c, h'⟩ := hcb
    rw [h'] at h; simp at h
  have HC := hide hc
  have HO := hide ho
  have HL := hide hl
  clear hl
  have HG := hide hg
  have HCB := hide hcb
  have r2a := r2.alloc (.cells #[sl g l.length] 23)
  have HR2 := hide r2
  clear hc r3 r4 r5 hxs hg hcb ho r2
  generalize hn : (S.cache k).length = n at *
  have hn' := hide hn
  generalize hv : A k = v at *
  have hv' := hide hv
  clear hn hv
  unfold sl
  unfold sl at r2a
  go_enter Try.func71, Try.ntmps71
  go_wp2_with (at_builtin; refine wpList_push_wide _ rfl (.tmp 10) (.tmp 12) 33 rfl 23 i0 (.slice none 0 0) Try.underlying33 hi hz0 hz1 hz2 rfl _ _ _ rfl r2a ⟨w.heap.size, 0, none⟩ 1 (.slice (some ⟨g, 0, none⟩) l.length l.length) rfl (cell_one_new _ _ _) (by simp [Value.oneCell']) (by omega) ?_)
  intro v' w1 hown hgr hloc
  have ho1 : w1.ownsMap Try.prog 3 Rv L.cb 8192 D := (HO.out.alloc _).kept hgr hrb
  go_wp2_with (at_mapUpdate; refine wpList_mapUpdate_own _ rfl _ _ _ 68 rfl 3 33 kInt Try.underlying68 Rv L.cb 8192 D rfl ho1 (by decide) _ _ (kL k) rfl rfl hkey (.held v') [] rfl ?_)
  intro w2 ho2 hg2
  go_wp2
  go_end0
  have hsz1 := hgr.size
  have hsz2 := hg2.size
  simp only [World.size_alloc] at hsz1
  have hs : w.heap.size ≤ w2.heap.size := by omega
  have hcbl : L.cb < w.heap.size := HO.out.lt
  have KEEP : ∀ b, b < w.heap.size → b ≠ L.cb → some b ≠ v.ownBlock → w2.heap[b]? = w.heap[b]? := fun b hb h1 h2 => by
    rw [hg2.block b (by omega) (by simpa using h1), hgr.block b (by simp; omega) h2]
    exact Below.heap_alloc _ _ b hb
  have hvc : v'.ownBlock = none ∨ v'.ownBlock ≠ some L.cb := .inr fun e => by
    rcases hloc with e2 | e2
    · exact hrb (e.symm.trans e2)
    · rw [e2] at e
      simp at e
      omega
  have hUv : ∀ b, v.ownBlock = some b → L.U b := by
    obtain ⟨gs, r1, r2, r3, r4, r5⟩ := HC.out.row k hk
    rw [hv'.out] at r4
    exact r4
  have hc2 := HC.out.putRow (w2 := w2) hk HCB.out hU HG.out HL.out HO.out.isMap v' hs (by rw [hv'.out]; exact KEEP) (by
    rw [hv'.out, hn'.out]
    intro xs' h'
    rw [ownsRow_unique h' HR2.out]
    exact hown.kept hg2 hvc) (by
    rw [hv'.out]
    rcases hloc with e | e
    · exact .inl e
    · exact .inr ⟨_, e, by simp⟩)
  refine ⟨rfl, _, ⟨_, _, ?_, hc2⟩, ⟨hg2.os.trans hgr.os, hg2.tape.trans hgr.tape, hg2.output.trans hgr.output, hs, fun b hb hu => KEEP b hb (fun e => hu (e ▸ HC.out.uC)) (fun e => hu (hUv b e.symm)), fun b hb hu => ?_, fun b hu => .inl hu⟩, fun b m hp => hp.kept (KEEP b hp.lt (fun e => ?_) (fun e => ?_))⟩
  · have ht := ownsMap_tight ho2
    exact ht.mono (Nat.le_trans (size_le_nb ho2 hc2.keys) hc2.nb2)
  · rcases hu with hu | hu
    · exact hu
    · omega
  · obtain ⟨es, c, hcb⟩ := HCB.out
    have := hp.1
    rw [e, hcb] at this
    simp at this
  · obtain ⟨cs, hcs⟩ := (HC.out.row k hk).cellsAt (by rw [hv'.out]; exact e.symm)
    have := hp.1
    rw [hcs] at this
    simp at this

theorem clay_any {w : World} {L : Lay} {S : St} (hR : Rep w L S) {k g : Nat} (hk : k < S.nb) {l : List Nat} (hU : L.U g) (hg : PieceAt w g l) (hl : l.length = S.sz) (hb : (S.cache k).length + 1 ≤ 9382499223500) :
    Calls Try.prog 71 #[.map (some L.cb), .int .i64 (k : Int), sl g l.length] w fun e w' => e = .returned (.tuple #[]) ∧ ∃ U', Rep w' { L with U := U' } { S with cache := updF S.cache k (S.cache k ++ [l]) } ∧ Grow w w' L.U U' :=
  (clay_any' hR hk hU hg hl hb).mono fun e w' ⟨h1, U', h2, h3, _⟩ => ⟨h1, U', h2, h3⟩

def St.pushed (S : St) (k : Nat) (l : List Nat) : St := { S with cache := updF S.cache k (S.cache k ++ [l]) }
def St.laid (S : St) (k : Nat) (o : Option (List Nat)) : St := { S with med := updF S.med k o }
theorem layC : ∀ (v : Value) (w : World), (method 215 68 v "replica/disk.lay").run Try.prog w = .ok (71, v) w := fun v w => by kernel_rfl
theorem layM : ∀ (v : Value) (w : World), (method 215 64 v "replica/disk.lay").run Try.prog w = .ok (69, v) w := fun v w => by kernel_rfl
theorem lookC : ∀ (v : Value) (w : World), (method 215 68 v "replica/disk.look").run Try.prog w = .ok (72, v) w := fun v w => by kernel_rfl
theorem lookM : ∀ (v : Value) (w : World), (method 215 64 v "replica/disk.look").run Try.prog w = .ok (70, v) w := fun v w => by kernel_rfl

theorem step_nb (S : St) : S.step.nb = S.nb := by unfold St.step; split <;> (try split) <;> (try split) <;> rfl
theorem step_sz (S : St) : S.step.sz = S.sz := by unfold St.step; split <;> (try split) <;> (try split) <;> rfl
theorem step_cache (S : St) : S.step.cache = S.cache := by unfold St.step; split <;> (try split) <;> (try split) <;> rfl
theorem step_med (S : St) : S.step.med = S.med := by unfold St.step; split <;> (try split) <;> (try split) <;> rfl

/-- a refusal: an error of a block, new -/
def Refusal (w w' : World) (U : Nat → Prop) (e : Ending) (b n : Int) : Prop := ∃ g, e = .returned (errV g) ∧ w.heap.size ≤ g ∧ w'.heap[g]? = some (berr b n) ∧ ¬ U g

theorem refusal_alloc {w w1 : World} {L : Lay} {S : St} (hR : Rep w1 L S) (hs : w.heap.size ≤ w1.heap.size) (b n : Int) : Refusal w (w1.alloc (berr b n)) L.U (.returned (errV w1.heap.size)) b n :=
  ⟨_, rfl, hs, Go.heap_alloc_new w1 _, fun hu => absurd (hR.uLt _ hu) (by omega)⟩
theorem Grow.alloc {w w1 : World} {U U' : Nat → Prop} (h : Grow w w1 U U') (o : Obj) : Grow w (w1.alloc o) U U' := h.trans (Grow.ofBelow U' ((Below.refl _ _).alloc (Nat.le_refl _) o))
theorem Rep.alloc {w : World} {L : Lay} {S : St} (h : Rep w L S) (o : Obj) : Rep (w.alloc o) L S := h.below ((Below.refl _ _).alloc (Nat.le_refl _) o)

theorem Rep.pieceNe {w : World} {L : Lay} {S : St} (hR : Rep w L S) {g : Nat} {l : List Nat} (hg : PieceAt w g l) : g ≠ L.p := fun e => by
  obtain ⟨A, D, ho, hc⟩ := hR
  have h1 := hc.hp
  have h2 := hg.1
  rw [e, h1] at h2
  simp at h2

theorem write_c' {w : World} {L : Lay} {S : St} (hR : Rep w L S) {k g : Nat} (hk : k < S.nb) {l : List Nat} (hU : L.U g) (hg : PieceAt w g l) (hl : l.length = S.sz) (hb : (S.cache k).length + 1 ≤ 9382499223500) :
    Calls Try.prog 45 #[PD L, .iface 68 (.map (some L.cb)), .int .i64 (k : Int), sl g l.length] w fun e w' =>
      (S.stepOk = true ∧ e = .returned .nilIface ∧ ∃ U', Rep w' { L with U := U' } (S.step.pushed k l) ∧ Grow w w' L.U U' ∧ ∀ b m, PieceAt w b m → PieceAt w' b m) ∨
      (S.stepOk = false ∧ Refusal w w' L.U e k 22 ∧ Rep w' L S.step ∧ Grow w w' L.U L.U) := by
  have HR := hide hR
  have HG := hide hg
  have HL := hide hl
  clear hR hg hl
  have hm := layC
  cases hok : S.stepOk
  · go_enter Try.func45, Try.ntmps45
    go_wp2_with (first
      | (go_at_call 50; refine (step_any HR.out).mono ?_; rintro e w1 ⟨rfl, hR1, hG1, -, hk1⟩; rw [hok])
      | (go_at_call 33; refine (refused_any _ _ _).mono ?_; rintro e w' ⟨rfl, rfl⟩))
    go_ret
    exact .inr ⟨by trivial, refusal_alloc hR1 hG1.size _ _, hR1.alloc _, hG1.alloc _⟩
  · go_enter Try.func45, Try.ntmps45
    go_wp2_with (first
      | (go_at_call 50; refine (step_any HR.out).mono ?_; rintro e w1 ⟨rfl, hR1, hG1, -, hk1⟩; rw [hok])
      | (go_at_call 71; refine (clay_any' hR1 (by rw [step_nb]; exact hk) hU (HG.out.kept (hk1 _ (HR.out.pieceNe HG.out))) (by rw [step_sz]; exact HL.out) (by rw [step_cache]; exact hb)).mono ?_; rintro e w' ⟨rfl, U', hR2, hG2, hP2⟩; have HP2 := hide hP2; clear hP2))
    go_ret
    exact .inl ⟨by trivial, rfl, U', hR2, hG1.trans hG2, fun b m hp => HP2.out b m (hp.kept (hk1 _ (HR.out.pieceNe hp)))⟩

theorem write_c {w : World} {L : Lay} {S : St} (hR : Rep w L S) {k g : Nat} (hk : k < S.nb) {l : List Nat} (hU : L.U g) (hg : PieceAt w g l) (hl : l.length = S.sz) (hb : (S.cache k).length + 1 ≤ 9382499223500) :
    Calls Try.prog 45 #[PD L, .iface 68 (.map (some L.cb)), .int .i64 (k : Int), sl g l.length] w fun e w' =>
      (S.stepOk = true ∧ e = .returned .nilIface ∧ ∃ U', Rep w' { L with U := U' } (S.step.pushed k l) ∧ Grow w w' L.U U') ∨
      (S.stepOk = false ∧ Refusal w w' L.U e k 22 ∧ Rep w' L S.step ∧ Grow w w' L.U L.U) :=
  (write_c' hR hk hU hg hl hb).mono fun e w' h => h.elim (fun ⟨h1, h2, U', h3, h4, _⟩ => .inl ⟨h1, h2, U', h3, h4⟩) (fun h => .inr h)

theorem write_m {w : World} {L : Lay} {S : St} (hR : Rep w L S) {k g : Nat} (hk : k < S.nb) {l : List Nat} (hU : L.U g) (hg : PieceAt w g l) (hl : l.length = S.sz) :
    Calls Try.prog 45 #[PD L, .iface 64 (medV L S), .int .i64 (k : Int), sl g l.length] w fun e w' =>
      (S.stepOk = true ∧ e = .returned .nilIface ∧ Rep w' L (S.step.laid k (some l)) ∧ Grow w w' L.U L.U) ∨
      (S.stepOk = false ∧ Refusal w w' L.U e k 22 ∧ Rep w' L S.step ∧ Grow w w' L.U L.U) := by
  have HR := hide hR
  have HG := hide hg
  have HL := hide hl
  clear hR hg hl
  have hm := layM
  cases hok : S.stepOk
  · go_enter Try.func45, Try.ntmps45
    go_wp2_with (first
      | (go_at_call 50; refine (step_any HR.out).mono ?_; rintro e w1 ⟨rfl, hR1, hG1, -, hk1⟩; rw [hok])
      | (go_at_call 33; refine (refused_any _ _ _).mono ?_; rintro e w' ⟨rfl, rfl⟩))
    go_ret
    exact .inr ⟨by trivial, refusal_alloc hR1 hG1.size _ _, hR1.alloc _, hG1.alloc _⟩
  · have hmv : medV L S = medV L S.step := by unfold medV; rw [step_nb]
    rw [hmv]
    clear hmv
    unfold sl
    go_enter Try.func45, Try.ntmps45
    go_wp2_with (first
      | (go_at_call 50; refine (step_any HR.out).mono ?_; rintro e w1 ⟨rfl, hR1, hG1, -, hk1⟩; rw [hok])
      | (go_at_call 69; have hR1' := hR1; obtain ⟨A, D, ho, hc⟩ := hR1'; refine (mlay_any hc (by rw [step_nb]; exact hk) _ _ _).mono ?_; rintro e w' ⟨rfl, rfl⟩; clear hc ho))
    go_ret
    have hP := HG.out.kept (hk1 _ (HR.out.pieceNe HG.out))
    obtain ⟨h1, h2, h3⟩ := hR1.setMed (k := k) (by rw [step_nb]; exact hk) (sl g l.length) (some l) ⟨g, rfl, hP, hU⟩ (fun m e => by cases e; rw [step_sz]; exact HL.out)
    exact .inl ⟨by trivial, rfl, h1, hG1.trans h2⟩
end Go.Proofs.Ytepgiomgkgfioaa.K
namespace Go.Proofs.Ytepgiomgkgfioaa.K
open Go.RowKit Go.Maps
set_option linter.unusedVariables false
set_option linter.unusedSimpArgs false
set_option maxRecDepth 20000

/-- the error that a writing step of one block answers -/
def St.putErr (S : St) (b : Int) (n : Nat) : Int := if ¬ (0 ≤ b ∧ b < S.nb) then 2 else if n ≠ S.sz then 3 else if S.stepOk = false then 22 else 0
def St.putSt (S : St) (b : Int) (n : Nat) (f : St → St) : St := if S.putErr b n = 0 then f S.step else if S.putErr b n = 22 then S.step else S
def ErrIs (w w' : World) (U : Nat → Prop) (v : Value) (b n : Int) : Prop := (n = 0 ∧ v = .nilIface) ∨ (n ≠ 0 ∧ ∃ g, v = errV g ∧ w.heap.size ≤ g ∧ w'.heap[g]? = some (berr b n) ∧ ¬ U g)

theorem errIs_alloc {w w1 : World} {L : Lay} {S : St} (hR : Rep w1 L S) (hs : w.heap.size ≤ w1.heap.size) (b n : Int) (hn : n ≠ 0) {g : Nat} (hg : g = w1.heap.size := by simp) : ErrIs w (w1.alloc (berr b n)) L.U (errV g) b n := by
  subst hg
  exact .inr ⟨hn, _, rfl, hs, Go.heap_alloc_new w1 _, fun hu => absurd (hR.uLt _ hu) (by omega)⟩
theorem ErrIs.of {w w' : World} {U : Nat → Prop} {v : Value} {b n : Int} (h : Refusal w w' U (.returned v) b n) (hn : n ≠ 0) : ErrIs w w' U v b n := by
  obtain ⟨g, e, h1, h2, h3⟩ := h
  exact .inr ⟨hn, g, by cases e; rfl, h1, h2, h3⟩

theorem rep_piece {w : World} {L : Lay} {S : St} (hR : Rep w L S) (l : List Nat) : Rep (w.alloc (.cells (l.map byteV).toArray 5)) { L with U := fun b => L.U b ∨ b = w.heap.size } S ∧ Grow w (w.alloc (.cells (l.map byteV).toArray 5)) L.U (fun b => L.U b ∨ b = w.heap.size) := by
  refine ⟨(hR.alloc _).wider (fun b h => .inl h) fun b h => ?_, ?_⟩
  · rcases h with h | h
    · have := hR.uLt b h; simp; omega
    · simp; omega
  · have h0 := Grow.ofBelow L.U ((Below.refl _ w).alloc (Nat.le_refl _) (.cells (l.map byteV).toArray 5))
    exact ⟨h0.os, h0.tape, h0.output, h0.size, h0.keep, fun b hb h => h.elim id fun e => by omega, fun b h => .inl h⟩

theorem put_c {w : World} {L : Lay} {S : St} (hR : Rep w L S) (b : Int) (v : Value) {l : List Nat} (hv : BSl w v l) (hb : ∀ k, (S.cache k).length + 1 ≤ 9382499223500) :
    Calls Try.prog 31 #[PD L, .iface 68 (.map (some L.cb)), .int .i64 b, v] w fun e w' => ∃ u U', e = .returned u ∧ ErrIs w w' U' u b (S.putErr b l.length) ∧ Rep w' { L with U := U' } (S.putSt b l.length fun T => T.pushed b.toNat l) ∧ Grow w w' L.U U' := by
  have HR := hide hR
  have HV := hide hv
  obtain ⟨A, D, ho, hc⟩ := hR
  have hp := hc.hp
  have hsz := hc.sz
  have c1 : w.cell? ⟨L.p, 1, none⟩ = some (.int .i64 (S.sz : Int)) := dcell hp 1
  have HP := hide hp
  clear ho hc hp
  obtain ⟨a, cap, rfl, hl, hm, hn, h256, _⟩ := hv
  unfold maxLen at hm
  clear hn h256
  by_cases h1 : 0 ≤ b ∧ b < S.nb
  · by_cases h2 : l.length = S.sz
    · obtain ⟨k, rfl⟩ : ∃ k : Nat, b = (k : Int) := ⟨b.toNat, by omega⟩
      have hk : k < S.nb := by omega
      have hkn : ((k : Int)).toNat = k := by simp
      rw [hkn]
      have hd : decide (0 ≤ (k : Int) ∧ (k : Int) < S.nb) = true := by simp [h1]
      obtain ⟨hR0, hG0⟩ := rep_piece HR.out l
      have HR0 := hide hR0
      have HG0 := hide hG0
      have H2 := hide h2
      have h1' := h1
      clear hR0 hG0 h1
      have hle : l.length ≤ 140737488355328 := by omega
      have hl0 : 0 < l.length := by omega
      rw [← h2] at c1
      have hP : PieceAt (w.alloc (.cells (l.map byteV).toArray 5)) w.heap.size l := ⟨Go.heap_alloc_new w _, HV.out.lt256, by unfold maxLen; omega, hl0⟩
      have HW := hide (write_c (L := { L with U := fun b => L.U b ∨ b = w.heap.size }) HR0.out (g := w.heap.size) (k := k) hk (.inr rfl) hP H2.out (hb k))
      clear hP
      clear hsz h2
      unfold PD at HW ⊢
      go_enter Try.func31, Try.ntmps31
      go_wp2_with (first
        | (go_at_call 32; refine (has_any HP.out _).mono ?_; rintro e w' ⟨rfl, rfl⟩; rw [hd])
        | (go_at_call 46; refine (copied_any _ l _ HV.out hle hl0).mono ?_; rintro e w' ⟨rfl, -, rfl⟩)
        | (go_at_call 45; refine HW.out.mono ?_; rintro e w2 (⟨hok, rfl, U', hR2, hG2⟩ | ⟨hok, ⟨ge, rfl, hge1, hge2, hge3⟩, hR2, hG2⟩)))
      · go_ret
        have e1 : S.putErr k l.length = 0 := by simp [St.putErr, h1', H2.out, hok]
        refine ⟨_, U', rfl, .inl ⟨e1, rfl⟩, ?_, HG0.out.trans hG2⟩
        rw [St.putSt, if_pos e1]
        exact hR2
      · go_ret
        have e1 : S.putErr k l.length = 22 := by simp [St.putErr, h1', H2.out, hok]
        refine ⟨_, _, rfl, ?_, ?_, HG0.out.trans hG2⟩
        · rw [e1]
          exact .inr ⟨by decide, ge, rfl, by simp at hge1; omega, hge2, hge3⟩
        · rw [St.putSt, if_neg (by rw [e1]; decide), if_pos e1]
          exact hR2
    · have hd : decide (0 ≤ b ∧ b < S.nb) = true := by simp [h1]
      have e1 : S.putErr b l.length = 3 := by simp [St.putErr, h1, h2]
      have e2 : (S.putSt b l.length fun T => T.pushed b.toNat l) = S := by rw [St.putSt, e1, if_neg (by decide), if_neg (by decide)]
      rw [e1, e2]
      have h2' : ¬ (l.length : Int) = (S.sz : Int) := by omega
      clear hsz h2 e1 e2 h1
      unfold PD
      go_enter Try.func31, Try.ntmps31
      go_wp2_with (first
        | (go_at_call 32; refine (has_any HP.out _).mono ?_; rintro e w' ⟨rfl, rfl⟩; rw [hd])
        | (go_at_call 33; refine (refused_any _ _ _).mono ?_; rintro e w' ⟨rfl, rfl⟩))
      go_ret
      exact ⟨_, _, rfl, errIs_alloc HR.out (Nat.le_refl _) _ _ (by decide), HR.out.alloc _, (Grow.refl _ _).alloc _⟩
  · have hd : decide (0 ≤ b ∧ b < S.nb) = false := by simp [h1]
    have e1 : S.putErr b l.length = 2 := by simp [St.putErr, h1]
    have e2 : (S.putSt b l.length fun T => T.pushed b.toNat l) = S := by rw [St.putSt, e1, if_neg (by decide), if_neg (by decide)]
    rw [e1, e2]
    clear hsz e1 e2 h1
    unfold PD
    go_enter Try.func31, Try.ntmps31
    go_wp2_with (first
      | (go_at_call 32; refine (has_any HP.out _).mono ?_; rintro e w' ⟨rfl, rfl⟩; rw [hd])
      | (go_at_call 33; refine (refused_any _ _ _).mono ?_; rintro e w' ⟨rfl, rfl⟩))
    go_ret
    exact ⟨_, _, rfl, errIs_alloc HR.out (Nat.le_refl _) _ _ (by decide), HR.out.alloc _, (Grow.refl _ _).alloc _⟩
theorem put_m {w : World} {L : Lay} {S : St} (hR : Rep w L S) (b : Int) (v : Value) {l : List Nat} (hv : BSl w v l) :
    Calls Try.prog 31 #[PD L, .iface 64 (medV L S), .int .i64 b, v] w fun e w' => ∃ u U', e = .returned u ∧ ErrIs w w' U' u b (S.putErr b l.length) ∧ Rep w' { L with U := U' } (S.putSt b l.length fun T => T.laid b.toNat (some l)) ∧ Grow w w' L.U U' := by
  have HR := hide hR
  have HV := hide hv
  obtain ⟨A, D, ho, hc⟩ := hR
  have hp := hc.hp
  have hsz := hc.sz
  have c1 : w.cell? ⟨L.p, 1, none⟩ = some (.int .i64 (S.sz : Int)) := dcell hp 1
  have HP := hide hp
  clear ho hc hp
  obtain ⟨a, cap, rfl, hl, hm, hn, h256, _⟩ := hv
  unfold maxLen at hm
  clear hn h256
  by_cases h1 : 0 ≤ b ∧ b < S.nb
  · by_cases h2 : l.length = S.sz
    · obtain ⟨k, rfl⟩ : ∃ k : Nat, b = (k : Int) := ⟨b.toNat, by omega⟩
      have hk : k < S.nb := by omega
      have hkn : ((k : Int)).toNat = k := by simp
      rw [hkn]
      have hd : decide (0 ≤ (k : Int) ∧ (k : Int) < S.nb) = true := by simp [h1]
      obtain ⟨hR0, hG0⟩ := rep_piece HR.out l
      have HR0 := hide hR0
      have HG0 := hide hG0
      have H2 := hide h2
      have h1' := h1
      clear hR0 hG0 h1
      have hle : l.length ≤ 140737488355328 := by omega
      have hl0 : 0 < l.length := by omega
      rw [← h2] at c1
      have hP : PieceAt (w.alloc (.cells (l.map byteV).toArray 5)) w.heap.size l := ⟨Go.heap_alloc_new w _, HV.out.lt256, by unfold maxLen; omega, hl0⟩
      have HW := hide (write_m (L := { L with U := fun b => L.U b ∨ b = w.heap.size }) HR0.out (g := w.heap.size) (k := k) hk (.inr rfl) hP H2.out)
      clear hP
      clear hsz h2
      unfold PD at HW ⊢
      go_enter Try.func31, Try.ntmps31
      go_wp2_with (first
        | (go_at_call 32; refine (has_any HP.out _).mono ?_; rintro e w' ⟨rfl, rfl⟩; rw [hd])
        | (go_at_call 46; refine (copied_any _ l _ HV.out hle hl0).mono ?_; rintro e w' ⟨rfl, -, rfl⟩)
        | (go_at_call 45; refine HW.out.mono ?_; rintro e w2 (⟨hok, rfl, hR2, hG2⟩ | ⟨hok, ⟨ge, rfl, hge1, hge2, hge3⟩, hR2, hG2⟩)))
      · go_ret
        have e1 : S.putErr k l.length = 0 := by simp [St.putErr, h1', H2.out, hok]
        refine ⟨_, _, rfl, .inl ⟨e1, rfl⟩, ?_, HG0.out.trans hG2⟩
        rw [St.putSt, if_pos e1]
        exact hR2
      · go_ret
        have e1 : S.putErr k l.length = 22 := by simp [St.putErr, h1', H2.out, hok]
        refine ⟨_, _, rfl, ?_, ?_, HG0.out.trans hG2⟩
        · rw [e1]
          exact .inr ⟨by decide, ge, rfl, by simp at hge1; omega, hge2, hge3⟩
        · rw [St.putSt, if_neg (by rw [e1]; decide), if_pos e1]
          exact hR2
    · have hd : decide (0 ≤ b ∧ b < S.nb) = true := by simp [h1]
      have e1 : S.putErr b l.length = 3 := by simp [St.putErr, h1, h2]
      have e2 : (S.putSt b l.length fun T => T.laid b.toNat (some l)) = S := by rw [St.putSt, e1, if_neg (by decide), if_neg (by decide)]
      rw [e1, e2]
      have h2' : ¬ (l.length : Int) = (S.sz : Int) := by omega
      clear hsz h2 e1 e2 h1
      unfold PD
      go_enter Try.func31, Try.ntmps31
      go_wp2_with (first
        | (go_at_call 32; refine (has_any HP.out _).mono ?_; rintro e w' ⟨rfl, rfl⟩; rw [hd])
        | (go_at_call 33; refine (refused_any _ _ _).mono ?_; rintro e w' ⟨rfl, rfl⟩))
      go_ret
      exact ⟨_, _, rfl, errIs_alloc HR.out (Nat.le_refl _) _ _ (by decide), HR.out.alloc _, (Grow.refl _ _).alloc _⟩
  · have hd : decide (0 ≤ b ∧ b < S.nb) = false := by simp [h1]
    have e1 : S.putErr b l.length = 2 := by simp [St.putErr, h1]
    have e2 : (S.putSt b l.length fun T => T.laid b.toNat (some l)) = S := by rw [St.putSt, e1, if_neg (by decide), if_neg (by decide)]
    rw [e1, e2]
    clear hsz e1 e2 h1
    unfold PD
    go_enter Try.func31, Try.ntmps31
    go_wp2_with (first
      | (go_at_call 32; refine (has_any HP.out _).mono ?_; rintro e w' ⟨rfl, rfl⟩; rw [hd])
      | (go_at_call 33; refine (refused_any _ _ _).mono ?_; rintro e w' ⟨rfl, rfl⟩))
    go_ret
    exact ⟨_, _, rfl, errIs_alloc HR.out (Nat.le_refl _) _ _ (by decide), HR.out.alloc _, (Grow.refl _ _).alloc _⟩
end Go.Proofs.Ytepgiomgkgfioaa.K
namespace Go.Proofs.Ytepgiomgkgfioaa.K
open Go.RowKit Go.Maps
set_option linter.unusedVariables false
set_option linter.unusedSimpArgs false
set_option maxRecDepth 20000

def St.dropped (S : St) (k : Nat) : St := { S with cache := updF S.cache k [] }
def St.addRd (S : St) : St := { S with rd := wrap64 (S.rd + 1) }
def St.addWr (S : St) : St := { S with wr := wrap64 (S.wr + 1) }
def St.addTh (S : St) : St := { S with th := wrap64 (S.th + 1) }
def St.addFl (S : St) : St := { S with fl := wrap64 (S.fl + 1) }
def St.write (S : St) (b : Int) (l : List Nat) : St := S.putSt b l.length fun T => (T.pushed b.toNat l).addWr
def St.through (S : St) (b : Int) (l : List Nat) : St := S.putSt b l.length fun T => ((T.laid b.toNat (some l)).dropped b.toNat).addTh

theorem ErrIs.kept {w w' w2 : World} {U U2 : Nat → Prop} {v : Value} {b n : Int} (h : ErrIs w w' U v b n) (hk : ∀ g, ¬ U g → g < w'.heap.size → w2.heap[g]? = w'.heap[g]?) (hU : ∀ g, g < w'.heap.size → U2 g → U g) : ErrIs w w2 U2 v b n := by
  rcases h with h | ⟨hn, g, h1, h2, h3, h4⟩
  · exact .inl h
  · have hlt := (Array.getElem?_eq_some_iff.1 h3).1
    exact .inr ⟨hn, g, h1, h2, (hk g h4 hlt).trans h3, fun hu => h4 (hU g hlt hu)⟩

theorem eqIn_in (d : Nat) (ty : TypeId) (v : Value) (W : World) : (Op.equalIn (d + 1) 40 (.iface ty v) .nilIface).run Try.prog W = .ok false W := by
  simp [Op.equalIn, run_underlying Try.underlying40]
theorem eqIn_nn (d : Nat) (W : World) : (Op.equalIn (d + 1) 40 .nilIface .nilIface).run Try.prog W = .ok true W := by
  simp [Op.equalIn, run_underlying Try.underlying40]
theorem ifaceNe (ty : TypeId) (v : Value) (W : World) : (binOp .neq 40 (.iface ty v) .nilIface).run Try.prog W = .ok (.bool true) W := by
  simp only [binOp]
  simp [Op.equal, Op.maxDepth, eqIn_in 9999 ty v W]
theorem nilNe (W : World) : (binOp .neq 40 .nilIface .nilIface).run Try.prog W = .ok (.bool false) W := by
  simp only [binOp]
  simp [Op.equal, Op.maxDepth, eqIn_nn 9999 W]
theorem ifaceEq (ty : TypeId) (v : Value) (W : World) : (binOp .eql 40 (.iface ty v) .nilIface).run Try.prog W = .ok (.bool false) W := by
  simp only [binOp]
  simp [Op.equal, Op.maxDepth, eqIn_in 9999 ty v W]
theorem nilEq (W : World) : (binOp .eql 40 .nilIface .nilIface).run Try.prog W = .ok (.bool true) W := by
  simp only [binOp]
  simp [Op.equal, Op.maxDepth, eqIn_nn 9999 W]

theorem rcell {w : World} {L : Lay} {U' : Nat → Prop} {S : St} (hR : Rep w { L with U := U' } S) (i : Nat) : w.cell? ⟨L.p, i, none⟩ = (diskRow L S)[i]? := by
  obtain ⟨A, D, ho, hc⟩ := hR
  exact dcell hc.hp i
theorem rfree {w : World} {L : Lay} {U' : Nat → Prop} {S : St} (hR : Rep w { L with U := U' } S) (i : Nat) : w.frozen? ⟨L.p, i, none⟩ = false := by
  obtain ⟨A, D, ho, hc⟩ := hR
  exact dfree hc.hp i
theorem Rep.fz {w : World} {L : Lay} {S : St} (hR : Rep w L S) : -1 ≤ S.fuse ∧ S.fuse ≤ 9223372036854775807 := by
  obtain ⟨A, D, ho, hc⟩ := hR
  exact hc.fz
theorem Rep.nb {w : World} {L : Lay} {S : St} (hR : Rep w L S) : 1 ≤ S.nb ∧ S.nb ≤ 8192 := by
  obtain ⟨A, D, ho, hc⟩ := hR
  exact ⟨hc.nb1, hc.nb2⟩
theorem Rep.szs {w : World} {L : Lay} {S : St} (hR : Rep w L S) : S.sz = 128 ∨ S.sz = 256 ∨ S.sz = 512 ∨ S.sz = 1024 := by
  obtain ⟨A, D, ho, hc⟩ := hR
  exact hc.sz

/-- what a writing call leaves: the error, the disk -/
def PutPost (w : World) (L : Lay) (b n : Int) (S' : St) (e : Ending) (w' : World) : Prop := ∃ u U', e = .returned u ∧ ErrIs w w' U' u b n ∧ Rep w' { L with U := U' } S' ∧ Grow w w' L.U U'
theorem PutPost.mk {w : World} {L : Lay} {b n : Int} {S' : St} {w' : World} (u : Value) (U' : Nat → Prop) (h1 : ErrIs w w' U' u b n) (h2 : Rep w' { L with U := U' } S') (h3 : Grow w w' L.U U') : PutPost w L b n S' (.returned u) w' := ⟨u, U', rfl, h1, h2, h3⟩

theorem Rep.dropped {w : World} {L : Lay} {A : Nat → Value} {D : DataW Value} {S : St} (ho : w.ownsMap Try.prog 3 Rv L.cb 8192 D) (hc : Core w L A D S) {k : Nat} (hk : k < S.nb) {w' : World} (ho' : w'.ownsMap Try.prog 3 Rv L.cb 8192 (D.del (kL k))) (ht : w.mapTurned w' L.cb) :
    Rep w' L (S.dropped k) ∧ Grow w w' L.U L.U ∧ w'.heap.size = w.heap.size ∧ ∀ b, b ≠ L.cb → w'.heap[b]? = w.heap[b]? := by
  have hg := ht.grown
  have hs : w'.heap.size = w.heap.size := by
    obtain ⟨es, c, es', c', hb, rfl⟩ := ht
    simp [ChangeMaps.setBlock]
  have KEEP : ∀ b, b ≠ L.cb → w'.heap[b]? = w.heap[b]? := fun b hb => by
    by_cases hlt : b < w.heap.size
    · exact hg.block b hlt (by simpa using hb)
    · rw [Array.getElem?_eq_none (by omega), Array.getElem?_eq_none (by omega)]
  have hcb : ∃ es c, w.heap[L.cb]? = some (.map es c) := by obtain ⟨es, c, h, _⟩ := ho; exact ⟨es, c, h⟩
  exact ⟨⟨_, _, ho', hc.drop hk hcb KEEP (by omega)⟩, ⟨hg.os, hg.tape, hg.output, by omega, fun b hb hu => KEEP b fun e => hu (e ▸ hc.uC), fun _ _ h => h, fun _ h => h⟩, hs, KEEP⟩

theorem key_k {k : Nat} (hk : k < 9223372036854775808) : keyOf Try.prog 3 (.int .i64 (k : Int)) = some (kL k) := keyOf_int_mk Try.underlying3 (wf_k hk)

/-- 'delete(d.cache, block)' -/
theorem wpList_dropD {ops : Array Oper} {rest : List Oper} {o : Oper} {a : Act} {w : World} {Q : Exit → Act → World → Prop} (hgd : o.guard = none) (m x : Operand) (ho : o.op = Op.call { callee := Callee.builtin Builtin.delete, args := #[m, x], argTypes := #[68, 3] })
    (L : Lay) (S : St) (k : Nat) (hm : a.eval m = .map (some L.cb)) (hx : a.eval x = .int .i64 (k : Int)) (hk : k < S.nb) (hR : Rep w L S)
    (h : ∀ w', Rep w' L (S.dropped k) → Grow w w' L.U L.U → wpList Try.prog ops Q rest (a.put o.dst (.tuple #[])) w') : wpList Try.prog ops Q (o :: rest) a w := by
  obtain ⟨A, D, hown, hc⟩ := hR
  have := hc.nb2
  refine wpList_delete_own w hgd m x 68 3 ho 33 kInt Try.underlying68 Rv L.cb 8192 D hm hown _ (kL k) hx (key_k (by omega)) ?_
  intro w' ho' ht
  obtain ⟨h1, h2, _, _⟩ := Rep.dropped hown hc hk ho' ht
  exact h w' h1 h2

theorem Through_any {w : World} {L : Lay} {S : St} (hR : Rep w L S) (b : Int) (v : Value) {l : List Nat} (hv : BSl w v l) :
    Calls Try.prog 10 #[PD L, .int .i64 b, v] w fun e w' => PutPost w L b (S.putErr b l.length) (S.through b l) e w' := by
  have HR := hide hR
  have HV := hide hv
  obtain ⟨A, D, ho, hc⟩ := hR
  have hp := hc.hp
  have c2 : w.cell? ⟨L.p, 2, none⟩ = some (medV L S) := dcell hp 2
  clear ho hc hp hv
  have HPUT := hide (put_m HR.out b v HV.out)
  have q1 := ifaceNe
  have q2 := nilNe
  unfold PD at HPUT ⊢
  unfold medV at HPUT c2
  by_cases h0 : S.putErr b l.length = 0
  · have hrng : 0 ≤ b ∧ b < S.nb := by
      by_cases h : 0 ≤ b ∧ b < S.nb
      · exact h
      · simp [St.putErr, h] at h0
    obtain ⟨k, rfl⟩ : ∃ k : Nat, b = (k : Int) := ⟨b.toNat, by omega⟩
    have e1 : S.through k l = ((S.step.laid k (some l)).dropped k).addTh := by rw [St.through, St.putSt, if_pos h0]; rfl
    have e2 : (S.putSt k l.length fun T => T.laid (k : Int).toNat (some l)) = S.step.laid k (some l) := by rw [St.putSt, if_pos h0]; rfl
    have hk : k < (S.step.laid k (some l)).nb := by show k < S.step.nb; rw [step_nb]; omega
    rw [e2, h0] at HPUT
    rw [e1, h0]
    clear e1 e2 h0 hrng
    generalize S.step.laid k (some l) = T at *
    go_enter Try.func10, Try.ntmps10
    go_wp2_with (first
      | (go_at_call 31; refine HPUT.out.mono ?_; rintro e w1 ⟨u, U', rfl, (⟨-, rfl⟩ | ⟨hn, -⟩), hR1, hG1⟩; have c3 : w1.cell? ⟨L.p, 3, none⟩ = some (.map (some L.cb)) := rcell hR1 3)
      | (at_delete; refine wpList_dropD rfl (.tmp 23) (.tmp 24) rfl { L with U := U' } T k rfl rfl hk hR1 ?_; intro w2 hR2 hG2; have c8 : w2.cell? ⟨L.p, 8, none⟩ = some (.int .i64 (T.dropped k).th) := rcell hR2 8; have f8 := rfree hR2 8))
    · go_ret
      obtain ⟨h1, h2, h3⟩ := hR2.store 8 (.int .i64 (wrap64 ((T.dropped k).th + 1))) T.off T.fuse T.rd T.wr (wrap64 ((T.dropped k).th + 1)) T.fl hR1.fz rfl
      exact PutPost.mk _ U' (.inl ⟨rfl, rfl⟩) h1 (hG1.trans (hG2.trans h2))
    · exact absurd rfl hn
  · have e1 : S.through b l = (S.putSt b l.length fun T => T.laid b.toNat (some l)) := by rw [St.through, St.putSt, St.putSt, if_neg h0, if_neg h0]
    rw [e1]
    clear e1
    generalize (S.putSt b l.length fun T => T.laid b.toNat (some l)) = T at *
    generalize S.putErr b l.length = n at *
    go_enter Try.func10, Try.ntmps10
    go_wp2_with (go_at_call 31; refine HPUT.out.mono ?_; rintro e w1 ⟨u, U', rfl, (⟨hn, -⟩ | ⟨hn, g, rfl, hE⟩), hR1, hG1⟩)
    · exact absurd hn h0
    · go_ret
      exact PutPost.mk _ U' (.inr ⟨hn, g, rfl, hE⟩) hR1 hG1

def St.spoilErr (S : St) (b : Int) : Int := if 0 ≤ b ∧ b < S.nb then 0 else 2
def St.spoil (S : St) (b : Int) : St := if 0 ≤ b ∧ b < S.nb then S.laid b.toNat none else S

theorem Spoil_any {w : World} {L : Lay} {S : St} (hR : Rep w L S) (b : Int) :
    Calls Try.prog 11 #[PD L, .int .i64 b] w fun e w' => PutPost w L b (S.spoilErr b) (S.spoil b) e w' := by
  have HR := hide hR
  obtain ⟨A, D, ho, hc⟩ := hR
  have hp := hc.hp
  have c2 : w.cell? ⟨L.p, 2, none⟩ = some (medV L S) := dcell hp 2
  have HP := hide hp
  have HC := hide hc
  clear ho hc hp
  unfold PD
  by_cases h1 : 0 ≤ b ∧ b < S.nb
  · have e1 : S.spoilErr b = 0 := if_pos h1
    have e2 : S.spoil b = S.laid b.toNat none := if_pos h1
    rw [e1, e2]
    obtain ⟨k, rfl⟩ : ∃ k : Nat, b = (k : Int) := ⟨b.toNat, by omega⟩
    have hd : decide (0 ≤ (k : Int) ∧ (k : Int) < S.nb) = true := by simp [h1]
    have hk : k < S.nb := by omega
    clear h1 e1 e2
    go_enter Try.func11, Try.ntmps11
    go_wp2_with (first
      | (go_at_call 32; refine (has_any HP.out _).mono ?_; rintro e w' ⟨rfl, rfl⟩; rw [hd])
      | (go_at_call 34; refine (mspoil_any HC.out hk).mono ?_; rintro e w' ⟨rfl, rfl⟩))
    go_ret
    obtain ⟨h1, h2, h3⟩ := HR.out.setMed hk nilS none rfl (fun l e => by simp at e)
    exact PutPost.mk _ L.U (.inl ⟨rfl, rfl⟩) h1 h2
  · have e1 : S.spoilErr b = 2 := if_neg h1
    have e2 : S.spoil b = S := if_neg h1
    rw [e1, e2]
    have hd : decide (0 ≤ b ∧ b < S.nb) = false := by simp [h1]
    clear h1 e1 e2
    go_enter Try.func11, Try.ntmps11
    go_wp2_with (first
      | (go_at_call 32; refine (has_any HP.out _).mono ?_; rintro e w' ⟨rfl, rfl⟩; rw [hd])
      | (go_at_call 33; refine (refused_any _ _ _).mono ?_; rintro e w' ⟨rfl, rfl⟩))
    go_ret
    exact PutPost.mk _ L.U (errIs_alloc HR.out (Nat.le_refl _) _ _ (by decide)) (HR.out.alloc _) ((Grow.refl _ _).alloc _)

def St.fused (S : St) (n : Int) : St := { S with fuse := if n < -1 then -1 else n }
end Go.Proofs.Ytepgiomgkgfioaa.K
namespace Go.Proofs.Ytepgiomgkgfioaa.K
open Go.RowKit Go.Maps
set_option linter.unusedVariables false
set_option linter.unusedSimpArgs false
set_option maxRecDepth 20000

def St.wait (S : St) (b : Int) : Nat := if 0 ≤ b ∧ b < S.nb then (S.cache b.toNat).length else 0
theorem wf_i {b : Int} (h : -9223372036854775808 ≤ b ∧ b ≤ 9223372036854775807) : (Lit.int .i64 b).wf = true := by
  have h1 : IntKind.i64.min = -9223372036854775808 := by decide
  have h2 : IntKind.i64.max = 9223372036854775807 := by decide
  simp only [Lit.wf, h1, h2, Bool.and_eq_true, decide_eq_true_eq]
  omega
theorem look_run_out {w : World} {L : Lay} {A : Nat → Value} {D : DataW Value} {S : St} (ho : w.ownsMap Try.prog 3 Rv L.cb 8192 D) (h : Core w L A D S) {b : Int} (hb : -9223372036854775808 ≤ b ∧ b ≤ 9223372036854775807) (hout : ¬ (0 ≤ b ∧ b < S.nb)) :
    (Instr.lookup 68 (.map (some L.cb)) (.int .i64 b) false).run Try.prog w = .ok (.slice none 0 0) w := by
  obtain ⟨v, ps, hr, hv⟩ := ho.lookup kInt (t := 68) Try.underlying68 (zeroBB w) (zd := .held nilS) (zp := []) rfl (key := .int .i64 b) (kl := .int .i64 b) (keyOf_int_mk Try.underlying3 (wf_i hb))
  have hn : has D (.int .i64 b) = false := by
    cases hq : has D (.int .i64 b) with
    | false => rfl
    | true =>
      obtain ⟨k, hk, e⟩ := h.keys _ hq
      simp only [kL, Lit.int.injEq, true_and] at e
      exact absurd ⟨by omega, by omega⟩ hout
  rw [atKey_of_not_has hn] at hv
  simp only [Rv, Option.some.injEq, Prod.mk.injEq, DataW.held.injEq] at hv
  rw [hr, hv.1]
  rfl

theorem Row.form {w : World} {U : Nat → Prop} {v : Value} {ls : List (List Nat)} (h : Row w U v ls) : ∃ a c, v = .slice a ls.length c := by
  obtain ⟨gs, r1, r2, r3, r4, r5⟩ := h
  rcases r2.2 with ⟨rfl, h0⟩ | ⟨g, cap, cur, rfl, _⟩
  · exact ⟨none, 0, by rw [h0]⟩
  · exact ⟨_, _, rfl⟩

/-- what a block reads as -/
def St.val (S : St) (k : Nat) : Option (List Nat) := match (S.cache k).getLast? with
  | some l => some l
  | none => S.med k
def St.readErr (S : St) (b : Int) : Int := if ¬ (0 ≤ b ∧ b < S.nb) then 2 else if S.off = true then 22 else if S.val b.toNat = none then 21 else 0
def St.read (S : St) (b : Int) : St := if S.readErr b = 0 then S.addRd else S
def St.durErr (S : St) (b : Int) : Int := if ¬ (0 ≤ b ∧ b < S.nb) then 2 else if S.med b.toNat = none then 21 else 0

/-- bytes that are new, and no disk's -/
def Fresh (w w' : World) (U : Nat → Prop) (v : Value) (l : List Nat) : Prop := ∃ g, v = sl g l.length ∧ w.heap.size ≤ g ∧ PieceAt w' g l ∧ ¬ U g
def ReadPost (w : World) (L : Lay) (b n : Int) (o : Option (List Nat)) (S' : St) (e : Ending) (w' : World) : Prop :=
  ∃ v u, e = .returned (.tuple #[v, u]) ∧ ErrIs w w' L.U u b n ∧ (n = 0 → ∃ l, o = some l ∧ Fresh w w' L.U v l) ∧ (n ≠ 0 → v = nilS) ∧ Rep w' L S' ∧ Grow w w' L.U L.U
theorem ReadPost.mk {w : World} {L : Lay} {b n : Int} {o : Option (List Nat)} {S' : St} {w' : World} (v u : Value) (h1 : ErrIs w w' L.U u b n) (h2 : n = 0 → ∃ l, o = some l ∧ Fresh w w' L.U v l) (h3 : n ≠ 0 → v = nilS) (h4 : Rep w' L S') (h5 : Grow w w' L.U L.U) : ReadPost w L b n o S' (.returned (.tuple #[v, u])) w' := ⟨v, u, rfl, h1, h2, h3, h4, h5⟩

def fetched (w : World) (k : Int) (o : Option (List Nat)) (e : Ending) (w' : World) : Prop := match o with
  | some l => e = .returned (.tuple #[sl w.heap.size l.length, .nilIface]) ∧ w' = w.alloc (.cells (l.map byteV).toArray 5)
  | none => e = .returned (.tuple #[nilS, errV w.heap.size]) ∧ w' = w.alloc (berr k 21)

theorem Core.lens {w : World} {L : Lay} {A : Nat → Value} {D : DataW Value} {S : St} (h : Core w L A D S) : 0 < S.sz ∧ S.sz ≤ 1024 := by
  rcases h.sz with e | e | e | e <;> omega

theorem fetch_m {w : World} {L : Lay} {S : St} (hR : Rep w L S) {k B : Nat} (hk : k < S.nb) (c0 : w.cell? ⟨B, 0, none⟩ = some (.iface 64 (medV L S))) :
    Calls Try.prog 37 #[.int .i64 (k : Int), .slice (some ⟨B, 0, none⟩) 1 1] w fun e w' => fetched w k (S.med k) e w' := by
  obtain ⟨A, D, ho, hc⟩ := hR
  have hl := hc.lens
  have m1 := lookM
  have q1 := ifaceNe
  have q2 := nilNe
  have q3 := neNil_some
  cases hq : S.med k with
  | none =>
    have HL := hide (mlook_none hc hk hq)
    clear hc ho hq hl
    go_enter Try.func37, Try.ntmps37
    go_wp2
    refine wp_loop_rounds 2 ?_
    rw [rounds_succ]
    go_wp2_with (go_at_call 70; refine HL.out.mono ?_; rintro e w' ⟨rfl, rfl⟩)
    go_ret2
    exact ⟨rfl, rfl⟩
  | some l =>
    have HL := hide (mlook_some hc hk hq)
    have hlen : l.length = S.sz := hc.mlen k l hk hq
    have hl0 : 0 < l.length := by omega
    have hl1 : l.length ≤ 140737488355328 := by omega
    clear hc ho hq hl hlen
    go_enter Try.func37, Try.ntmps37
    go_wp2
    refine wp_loop_rounds 2 ?_
    rw [rounds_succ]
    go_wp2_with (first
      | (go_at_call 70; refine HL.out.mono ?_; rintro e w' ⟨g, rfl, rfl, hP, -⟩; have HP := hide hP; clear hP)
      | (go_at_call 46; refine (copied_any _ l _ HP.out.bsl hl1 hl0).mono ?_; rintro e w' ⟨rfl, -, rfl⟩))
    go_ret2
    exact ⟨rfl, rfl⟩
end Go.Proofs.Ytepgiomgkgfioaa.K
namespace Go.Proofs.Ytepgiomgkgfioaa.K
open Go.RowKit Go.Maps
set_option linter.unusedVariables false
set_option linter.unusedSimpArgs false
set_option maxRecDepth 20000

theorem fetch_cm {w : World} {L : Lay} {S : St} (hR : Rep w L S) {k B : Nat} (hk : k < S.nb) (c0 : w.cell? ⟨B, 0, none⟩ = some (.iface 68 (.map (some L.cb)))) (c1 : w.cell? ⟨B, 1, none⟩ = some (.iface 64 (medV L S))) :
    Calls Try.prog 37 #[.int .i64 (k : Int), .slice (some ⟨B, 0, none⟩) 2 2] w fun e w' => fetched w k (S.val k) e w' := by
  obtain ⟨A, D, ho, hc⟩ := hR
  have hl := hc.lens
  have m1 := lookM
  have m2 := lookC
  have q1 := ifaceNe
  have q2 := nilNe
  have q3 := neNil_some
  have q4 := neNil_nil
  by_cases hne : S.cache k = []
  · have HC := hide (clook_none ho hc hk hne)
    have hv : S.val k = S.med k := by simp [St.val, hne]
    rw [hv]
    unfold nilS at HC
    cases hq : S.med k with
    | none =>
      have HL := hide (mlook_none hc hk hq)
      clear hc ho hq hl hv hne
      go_enter Try.func37, Try.ntmps37
      go_wp2
      refine wp_loop_rounds 3 ?_
      rw [rounds_succ]
      go_wp2_with (go_at_call 72; refine HC.out.mono ?_; rintro e w' ⟨rfl, rfl⟩)
      rw [rounds_succ]
      go_wp2_with (go_at_call 70; refine HL.out.mono ?_; rintro e w' ⟨rfl, rfl⟩)
      go_ret2
      exact ⟨rfl, rfl⟩
    | some l =>
      have HL := hide (mlook_some hc hk hq)
      have hlen : l.length = S.sz := hc.mlen k l hk hq
      have hl0 : 0 < l.length := by omega
      have hl1 : l.length ≤ 140737488355328 := by omega
      clear hc ho hq hl hlen hv hne
      go_enter Try.func37, Try.ntmps37
      go_wp2
      refine wp_loop_rounds 3 ?_
      rw [rounds_succ]
      go_wp2_with (go_at_call 72; refine HC.out.mono ?_; rintro e w' ⟨rfl, rfl⟩)
      rw [rounds_succ]
      go_wp2_with (first
        | (go_at_call 70; refine HL.out.mono ?_; rintro e w' ⟨g, rfl, rfl, hP, -⟩; have HP := hide hP; clear hP)
        | (go_at_call 46; refine (copied_any _ l _ HP.out.bsl hl1 hl0).mono ?_; rintro e w' ⟨rfl, -, rfl⟩))
      go_ret2
      exact ⟨rfl, rfl⟩
  · have HC0 := clook_some ho hc hk hne
    obtain ⟨l, hlast⟩ : ∃ l, (S.cache k).getLast? = some l := ⟨_, List.getLast?_eq_some_getLast hne⟩
    have hv : S.val k = some l := by simp [St.val, hlast]
    have hlen : l.length = S.sz := hc.clen k l hk (List.mem_of_getLast? hlast)
    rw [hv]
    rw [hlast] at HC0
    have HC := hide HC0
    have hl0 : 0 < l.length := by omega
    have hl1 : l.length ≤ 140737488355328 := by omega
    clear hc ho hl hlen hv hne hlast HC0
    go_enter Try.func37, Try.ntmps37
    go_wp2
    refine wp_loop_rounds 3 ?_
    rw [rounds_succ]
    go_wp2_with (first
      | (go_at_call 72; refine HC.out.mono ?_; rintro e w' ⟨g, l2, rfl, rfl, hll, hP, -⟩; have HP := hide hP; have HLL := hide hll; clear hP hll)
      | (go_at_call 46; obtain rfl : l = l2 := by { have := HLL.out; simpa using this }; refine (copied_any _ l _ HP.out.bsl hl1 hl0).mono ?_; rintro e w' ⟨rfl, -, rfl⟩))
    go_ret2
    exact ⟨rfl, rfl⟩

def OkB (l : List Nat) : Prop := (∀ b ∈ l, b < 256) ∧ l.length ≤ maxLen ∧ 0 < l.length
theorem Rep.medOk {w : World} {L : Lay} {S : St} (hR : Rep w L S) {k : Nat} (hk : k < S.nb) {l : List Nat} (h : S.med k = some l) : OkB l ∧ l.length = S.sz := by
  obtain ⟨A, D, ho, hc⟩ := hR
  obtain ⟨ms, h1, h2, h3⟩ := hc.hm
  obtain ⟨v, _, hm⟩ := h3 k hk
  rw [h] at hm
  obtain ⟨g, _, hp, _⟩ := hm
  exact ⟨hp.2, hc.mlen k l hk h⟩
theorem Rep.cacheOk {w : World} {L : Lay} {S : St} (hR : Rep w L S) {k : Nat} (hk : k < S.nb) {l : List Nat} (h : l ∈ S.cache k) : OkB l ∧ l.length = S.sz := by
  obtain ⟨A, D, ho, hc⟩ := hR
  obtain ⟨gs, r1, r2, r3, r4, r5⟩ := hc.row k hk
  obtain ⟨i, hi, e⟩ := List.mem_iff_getElem.1 h
  have := (r3 i hi).1.2
  rw [show (S.cache k).getD i [] = l by simp [List.getD, hi, e]] at this
  exact ⟨this, hc.clen k l hk h⟩
theorem Rep.valOk {w : World} {L : Lay} {S : St} (hR : Rep w L S) {k : Nat} (hk : k < S.nb) {l : List Nat} (h : S.val k = some l) : OkB l ∧ l.length = S.sz := by
  unfold St.val at h
  split at h
  · rename_i m hm
    cases h
    exact hR.cacheOk hk (List.mem_of_getLast? hm)
  · exact hR.medOk hk h

theorem fresh_alloc {w W : World} {L : Lay} {S : St} (hR : Rep W L S) (hs : w.heap.size ≤ W.heap.size) {l : List Nat} (h : OkB l) {g : Nat} (hg : g = W.heap.size := by simp) : Fresh w (W.alloc (.cells (l.map byteV).toArray 5)) L.U (sl g l.length) l := by
  subst hg
  exact ⟨_, rfl, hs, ⟨Go.heap_alloc_new W _, h⟩, fun hu => absurd (hR.uLt _ hu) (by omega)⟩

theorem Read_any {w : World} {L : Lay} {S : St} (hR : Rep w L S) (b : Int) :
    Calls Try.prog 13 #[PD L, .int .i64 b] w fun e w' => ReadPost w L b (S.readErr b) (S.val b.toNat) (S.read b) e w' := by
  have HR := hide hR
  obtain ⟨A, D, ho, hc⟩ := hR
  have hp := hc.hp
  have c2 : w.cell? ⟨L.p, 2, none⟩ = some (medV L S) := dcell hp 2
  have c3 : w.cell? ⟨L.p, 3, none⟩ = some (.map (some L.cb)) := dcell hp 3
  have c4 : w.cell? ⟨L.p, 4, none⟩ = some (.bool S.off) := dcell hp 4
  have HP := hide hp
  clear ho hc hp
  unfold PD
  by_cases h1 : 0 ≤ b ∧ b < S.nb
  · cases hof : S.off with
    | true =>
      have e1 : S.readErr b = 22 := by simp [St.readErr, h1, hof]
      have e2 : S.read b = S := by rw [St.read, e1, if_neg (by decide)]
      have hd : decide (0 ≤ b ∧ b < S.nb) = true := by simp [h1]
      rw [e1, e2]
      rw [hof] at c4
      clear e1 e2 h1 hof
      go_enter Try.func13, Try.ntmps13
      go_wp2_with (first
        | (go_at_call 32; refine (has_any HP.out _).mono ?_; rintro e w' ⟨rfl, rfl⟩; rw [hd])
        | (go_at_call 33; refine (refused_any _ _ _).mono ?_; rintro e w' ⟨rfl, rfl⟩))
      go_ret2
      exact ReadPost.mk _ _ (errIs_alloc HR.out (Nat.le_refl _) _ _ (by decide)) (fun h => by simp at h) (fun _ => rfl) (HR.out.alloc _) ((Grow.refl _ _).alloc _)
    | false =>
      obtain ⟨k, rfl⟩ : ∃ k : Nat, b = (k : Int) := ⟨b.toNat, by omega⟩
      have hk : k < S.nb := by omega
      have hkn : (k : Int).toNat = k := by simp
      have hd : decide (0 ≤ (k : Int) ∧ (k : Int) < S.nb) = true := by simp [h1]
      rw [hof] at c4
      rw [hkn]
      have HR1 : Hid (Rep (w.drew.alloc (.cells #[.iface 68 (.map (some L.cb)), .iface 64 (medV L S)] 86)) L S) := hide ((HR.out.below (Below.refl _ _).drew).alloc _)
      have hrow : (w.drew.alloc (.cells #[.iface 68 (.map (some L.cb)), .iface 64 (medV L S)] 86)).heap[w.heap.size]? = some (.cells #[.iface 68 (.map (some L.cb)), .iface 64 (medV L S)] 86 (0, 0)) := Go.heap_alloc_new w.drew _
      have HF := hide (fetch_cm (B := w.heap.size) (k := k) HR1.out hk (by rw [cell_of_row _ _ _ _ _ _ hrow]; rfl) (by rw [cell_of_row _ _ _ _ _ _ hrow]; rfl))
      clear hrow
      have HG : Hid (Grow w (w.drew.alloc (.cells #[.iface 68 (.map (some L.cb)), .iface 64 (medV L S)] 86)) L.U L.U) := hide ((Grow.ofBelow L.U (Below.refl _ w).drew).alloc _)
      have q1 := ifaceNe
      have q2 := nilNe
      cases hq : S.val k with
      | none =>
        have e1 : S.readErr k = 21 := by simp [St.readErr, h1.2, hof, hq]
        have e2 : S.read k = S := by rw [St.read, e1, if_neg (by decide)]
        rw [hq] at HF
        rw [e1, e2]
        clear e1 e2 hq h1 hkn hof
        go_enter Try.func13, Try.ntmps13
        go_wp2_with (first
          | (go_at_call 32; refine (has_any HP.out _).mono ?_; rintro e w0 ⟨rfl, e0⟩; rw [hd]; cases e0))
        go_region_held3 (fun w' => w'.cell? ⟨L.p, 2, none⟩ = some (medV L S) ∧ w'.cell? ⟨L.p, 3, none⟩ = some (.map (some L.cb))) (first | (constructor <;> assumption) | go_keep)
          (first
            | (go_at_call 37; refine HF.out.mono ?_; rintro e w' ⟨rfl, rfl⟩))
        go_wp2
        go_ret2
        exact ReadPost.mk _ _ (errIs_alloc HR1.out HG.out.size k 21 (by decide)) (fun h => by simp at h) (fun _ => rfl) (HR1.out.alloc _) (HG.out.alloc _)
      | some l =>
        have e1 : S.readErr k = 0 := by simp [St.readErr, h1.2, hof, hq]
        have e2 : S.read k = S.addRd := by rw [St.read, e1, if_pos rfl]
        have HOK := hide (HR.out.valOk hk hq).1
        rw [hq] at HF
        rw [e1, e2]
        clear e1 e2 hq h1 hkn hof
        go_enter Try.func13, Try.ntmps13
        go_wp2_with (first
          | (go_at_call 32; refine (has_any HP.out _).mono ?_; rintro e w0 ⟨rfl, e0⟩; rw [hd]; cases e0))
        go_region_held3 (fun w' => w'.cell? ⟨L.p, 2, none⟩ = some (medV L S) ∧ w'.cell? ⟨L.p, 3, none⟩ = some (.map (some L.cb))) (first | (constructor <;> assumption) | go_keep)
          (first
            | (go_at_call 37; refine HF.out.mono ?_; rintro e w' ⟨rfl, rfl⟩))
        have hRW : Rep ((w.alloc (.cells #[.iface 68 (.map (some L.cb)), .iface 64 (medV L S)] 86)).alloc (.cells (l.map byteV).toArray 5)).drew L S := HR1.out.alloc (.cells (l.map byteV).toArray 5)
        have hGW : Grow w ((w.alloc (.cells #[.iface 68 (.map (some L.cb)), .iface 64 (medV L S)] 86)).alloc (.cells (l.map byteV).toArray 5)).drew L.U L.U := HG.out.alloc (.cells (l.map byteV).toArray 5)
        have hFR : Fresh w ((w.alloc (.cells #[.iface 68 (.map (some L.cb)), .iface 64 (medV L S)] 86)).alloc (.cells (l.map byteV).toArray 5)).drew L.U (sl (w.heap.size + 1) l.length) l := fresh_alloc HR1.out HG.out.size HOK.out
        clear HR1 HG HOK c2 c3 c4 HP HF
        generalize ((w.alloc (.cells #[.iface 68 (.map (some L.cb)), .iface 64 (medV L S)] 86)).alloc (.cells (l.map byteV).toArray 5)).drew = W at *
        have c6 : W.cell? ⟨L.p, 6, none⟩ = some (.int .i64 S.rd) := rcell (U' := L.U) hRW 6
        have f6 := rfree (L := L) (U' := L.U) hRW 6
        have HRW := hide hRW
        have HGW := hide hGW
        have HFR := hide hFR
        clear hRW hGW hFR
        go_wp2
        go_ret2
        obtain ⟨h1, h2, h3⟩ := HRW.out.store 6 (.int .i64 (wrap64 (S.rd + 1))) S.off S.fuse (wrap64 (S.rd + 1)) S.wr S.th S.fl HRW.out.fz rfl
        refine ReadPost.mk _ _ (.inl ⟨rfl, rfl⟩) (fun _ => ⟨l, rfl, ?_⟩) (fun h => by simp at h) h1 (HGW.out.trans h2)
        obtain ⟨g, e, hg1, hg2, hg3⟩ := HFR.out
        exact ⟨g, e, hg1, hg2.kept (h2.keep g hg2.lt hg3), hg3⟩
  · have e1 : S.readErr b = 2 := by simp only [St.readErr]; rw [if_pos h1]
    have e2 : S.read b = S := by rw [St.read, e1, if_neg (by decide)]
    have hd : decide (0 ≤ b ∧ b < S.nb) = false := by simp [h1]
    rw [e1, e2]
    clear e1 e2 h1
    go_enter Try.func13, Try.ntmps13
    go_wp2_with (first
      | (go_at_call 32; refine (has_any HP.out _).mono ?_; rintro e w' ⟨rfl, rfl⟩; rw [hd])
      | (go_at_call 33; refine (refused_any _ _ _).mono ?_; rintro e w' ⟨rfl, rfl⟩))
    go_ret2
    exact ReadPost.mk _ _ (errIs_alloc HR.out (Nat.le_refl _) _ _ (by decide)) (fun h => by simp at h) (fun _ => rfl) (HR.out.alloc _) ((Grow.refl _ _).alloc _)
end Go.Proofs.Ytepgiomgkgfioaa.K
namespace Go.Proofs.Ytepgiomgkgfioaa.K
open Go.RowKit Go.Maps
set_option linter.unusedVariables false
set_option linter.unusedSimpArgs false
set_option maxRecDepth 20000

theorem Core.ext {w : World} {L : Lay} {A : Nat → Value} {D : DataW Value} {S S' : St} (h : Core w L A D S) (e1 : S'.nb = S.nb) (e2 : S'.sz = S.sz) (e3 : S'.off = S.off) (e4 : S'.fuse = S.fuse) (e5 : S'.rd = S.rd) (e6 : S'.wr = S.wr) (e7 : S'.th = S.th) (e8 : S'.fl = S.fl)
    (hm : ∀ k, k < S.nb → S'.med k = S.med k) (hc : ∀ k, k < S.nb → S'.cache k = S.cache k) : Core w L A D S' := by
  refine ⟨by rw [e1]; exact h.nb1, by rw [e1]; exact h.nb2, by rw [e2]; exact h.sz, by rw [e4]; exact h.fz, ?_, ?_, ?_, ?_, ?_, ?_, ?_, ?_, ?_, ?_, h.uP, h.uM, h.uC, h.uLt⟩
  · have : diskRow L S' = diskRow L S := by unfold diskRow; rw [e1, e2, e3, e4, e5, e6, e7, e8]
    rw [this]; exact h.hp
  · obtain ⟨ms, h1, h2, h3⟩ := h.hm
    refine ⟨ms, h1, by rw [e1]; exact h2, fun i hi => ?_⟩
    rw [e1] at hi
    obtain ⟨v, hv, hmed⟩ := h3 i hi
    exact ⟨v, hv, by rw [hm i hi]; exact hmed⟩
  · intro i l hi hl
    rw [e1] at hi
    rw [e2]; exact h.mlen i l hi (by rw [← hm i hi]; exact hl)
  · intro i l hi hl
    rw [e1] at hi
    rw [e2]; exact h.clen i l hi (by rw [← hc i hi]; exact hl)
  · rw [e1]; exact h.keys
  · intro k hk; rw [e1] at hk; rw [hc k hk]; exact h.hasK k hk
  · intro k hk; rw [e1] at hk; exact h.at_ k hk
  · intro k hk; rw [e1] at hk; rw [hc k hk]; exact h.row k hk
  · rw [e1]; exact h.apart
  · rw [e1]; exact h.offM

theorem aheadM : ∀ (v : Value) (w : World), (nilAhead 215 64 v "replica/disk.lay").run Try.prog w = .ok (some false) w := fun v w => by kernel_rfl

/-- one block's cached writes go down: the first n of them -/
def St.settle1 (S : St) (k n : Nat) : St := (if 0 < n then S.laid k (some ((S.cache k).getD (n - 1) [])) else S).dropped k

/-- from w to w' only the medium and the map have turned -/
structure Two (L : Lay) (w w' : World) : Prop where
  os : w'.os = w.os
  tape : w'.tape = w.tape
  output : w'.output = w.output
  size : w'.heap.size = w.heap.size
  keep : ∀ b, b ≠ L.mb → b ≠ L.cb → w'.heap[b]? = w.heap[b]?

theorem Core.ranges_drop {w w' : World} {L : Lay} {A : Nat → Value} {D : DataW Value} {S : St} {r cnt : Nat} {left : Lit → Bool} (hrg : w.ranges Try.prog 3 Rv L.cb r 8192 D left cnt) (hc : Core w L A D S) {k : Nat} (hk : k < S.nb)
    (ht : w.mapTurned w' L.cb) : Core w' L (updF A k nilS) (D.del (kL k)) (S.dropped k) ∧ Two L w w' := by
  have hg := ht.grown
  have hs : w'.heap.size = w.heap.size := by
    obtain ⟨es, c, es', c', hb, rfl⟩ := ht
    simp [ChangeMaps.setBlock]
  have KEEP : ∀ b, b ≠ L.cb → w'.heap[b]? = w.heap[b]? := fun b hb => by
    by_cases hlt : b < w.heap.size
    · exact hg.block b hlt (by simpa using hb)
    · rw [Array.getElem?_eq_none (by omega), Array.getElem?_eq_none (by omega)]
  have hcb : ∃ es c, w.heap[L.cb]? = some (.map es c) := by obtain ⟨es, c, h, _⟩ := hrg.owns; exact ⟨es, c, h⟩
  exact ⟨hc.drop hk hcb KEEP (by omega), ⟨hg.os, hg.tape, hg.output, hs, fun b _ hb => KEEP b hb⟩⟩

theorem settle_any {w : World} {L : Lay} {A : Nat → Value} {D : DataW Value} {S : St} {r cnt : Nat} {left : Lit → Bool} (hrg : w.ranges Try.prog 3 Rv L.cb r 8192 D left cnt) (hc : Core w L A D S) {k n : Nat} (hk : k < S.nb) (hn : n ≤ (S.cache k).length) (hrL : ¬ L.U r) :
    Calls Try.prog 35 #[.map (some L.cb), .iface 64 (medV L S), .int .i64 (k : Int), .int .i64 (n : Int)] w fun e w' => e = .returned (.tuple #[]) ∧ ∃ A' cnt', w'.ranges Try.prog 3 Rv L.cb r 8192 (D.del (kL k)) (fun z => left z && !z.sameKey (kL k)) cnt' ∧ cnt' ≤ cnt ∧ Core w' L A' (D.del (kL k)) (S.settle1 k n) ∧ Two L w w' := by
  have hm := layM
  have ha := aheadM
  by_cases h0 : 0 < n
  · have hr := look_run hrg.owns hc hk
    obtain ⟨gr, cap, g, e, hcap, hmx, hcell, hp, hu⟩ := (hc.row k hk).at_ (i := n - 1) (by omega)
    have hr' : (Instr.lookup 68 (.map (some L.cb)) (.int .i64 (k : Int)) false).run Try.prog w.drew = .ok (A k) w.drew := look_run (w := w.drew) hrg.owns (hc.kept (fun _ _ => rfl) (Nat.le_refl _)) hk
    rw [e] at hr hr'
    have HRG := hide hrg
    have HC := hide hc
    have HP := hide hp
    clear hrg hc hp
    generalize hl : (S.cache k).getD (n - 1) [] = l at *
    have HL := hide hl
    have hmem : l ∈ S.cache k := by
      rw [← hl]
      exact List.mem_of_getElem? (getD_get [] (show n - 1 < (S.cache k).length by omega))
    have hlen : n ≤ (S.cache k).length := hn
    clear hl
    generalize (S.cache k).length = N at *
    have hcell' : w.drew.cell? ⟨gr, n - 1, none⟩ = some (sl g l.length) := hcell
    unfold maxLen at hmx
    unfold sl at hcell hcell'
    have HCd : Hid (Core w.drew L A D S) := hide (HC.out.kept (fun _ _ => rfl) (Nat.le_refl _))
    have hkey := key_k (k := k) (by have := HC.out.nb2; omega)
    have HK1 : Hid (∀ b, b ≠ L.mb → (w.drew.setCell ⟨L.mb, k, none⟩ (.slice (some ⟨g, 0, none⟩) l.length l.length)).heap[b]? = w.heap[b]?) := hide fun b hb => Go.heap_setCell_other w.drew _ _ _ hb
    have HS1 : Hid ((w.drew.setCell ⟨L.mb, k, none⟩ (.slice (some ⟨g, 0, none⟩) l.length l.length)).heap.size = w.heap.size) := hide (by simp [World.setCell])
    have HC1 : Hid (Core (w.drew.setCell ⟨L.mb, k, none⟩ (.slice (some ⟨g, 0, none⟩) l.length l.length)) L A D (S.laid k (some l))) := hide (HCd.out.setMed hk (sl g l.length) (some l) ⟨g, rfl, HP.out, hu⟩ (fun m em => by
      cases em
      exact HC.out.clen k l hk hmem) (fun ms hms => Go.heap_setCell_same w.drew L.mb k _ 23 _ hms) (fun b hb => Go.heap_setCell_other w.drew _ _ _ hb) (by rw [HS1.out]; exact Nat.le_refl _))
    have HRG1 : Hid ((w.drew.setCell ⟨L.mb, k, none⟩ (.slice (some ⟨g, 0, none⟩) l.length l.length)).ranges Try.prog 3 Rv L.cb r 8192 D left cnt) := hide (HRG.out.kept (row := some L.mb) ⟨rfl, rfl, rfl, by rw [HS1.out]; exact Nat.le_refl _, fun b hb hne => HK1.out b (by simpa using hne)⟩ (fun e => by
      obtain ⟨es, c, h, _⟩ := HRG.out.owns
      obtain ⟨ms, h1, _⟩ := HC.out.hm
      simp only [Option.some.injEq] at e
      rw [e, h1] at h; simp at h) (fun e => hrL (by simp only [Option.some.injEq] at e; rw [e]; exact HC.out.uM)))
    go_enter Try.func35, Try.ntmps35
    have hwn : IntKind.i64.wrap ((n : Int) - 1) = (n : Int) - 1 := by simp [IntKind.wrap, IntKind.bits, IntKind.signed]; omega
    go_wp2_with fail
    go_region_with (go_at_call 69; refine (mlay_any HCd.out hk _ _ _).mono ?_; rintro e w' ⟨rfl, rfl⟩)
    all_goals
      go_wp2_with (at_delete; refine wpList_delete_ranges _ rfl (.tmp 23) (.tmp 24) 68 3 rfl 33 kInt Try.underlying68 Rv L.cb r 8192 D left cnt rfl HRG1.out _ (kL k) rfl hkey ?_; intro w2 cnt2 hrg2 hle ht)
      go_end0
      obtain ⟨h1, h2⟩ := Core.ranges_drop HRG1.out HC1.out hk ht
      refine ⟨rfl, updF A k nilS, cnt2, hrg2, hle, ?_, ?_⟩
      · have e1 : S.settle1 k n = (S.laid k (some l)).dropped k := by rw [St.settle1, if_pos h0, HL.out]
        rw [e1]
        exact h1
      · exact ⟨h2.os, h2.tape, h2.output, h2.size.trans HS1.out, fun b hb1 hb2 => (h2.keep b hb1 hb2).trans (HK1.out b hb1)⟩
  · have e0 : n = 0 := by omega
    subst e0
    have HRG := hide hrg
    have HC := hide hc
    have hkey := key_k (k := k) (by have := hc.nb2; omega)
    clear hrg hc
    go_enter Try.func35, Try.ntmps35
    go_wp2_with (at_delete; refine wpList_delete_ranges _ rfl (.tmp 23) (.tmp 24) 68 3 rfl 33 kInt Try.underlying68 Rv L.cb r 8192 D left cnt rfl HRG.out _ (kL k) rfl hkey ?_; intro w2 cnt2 hrg2 hle ht)
    go_end0
    obtain ⟨h1, h2⟩ := Core.ranges_drop HRG.out HC.out hk ht
    refine ⟨rfl, updF A k nilS, cnt2, hrg2, hle, ?_, h2⟩
    rw [St.settle1, if_neg (by omega)]
    exact h1
end Go.Proofs.Ytepgiomgkgfioaa.K
namespace Go.Proofs.Ytepgiomgkgfioaa.K
open Go.RowKit Go.Maps
set_option linter.unusedVariables false
set_option linter.unusedSimpArgs false
set_option maxRecDepth 20000

/-- the cached writes of the blocks that 'left' does not name have gone down, the first 'kept' of each -/
def St.settle (S : St) (kept : Nat → Nat) (left : Nat → Bool) : St :=
  { S with cache := fun k => if left k then S.cache k else [], med := fun k => if left k then S.med k else if 0 < kept k then some ((S.cache k).getD (kept k - 1) []) else S.med k }

structure FInv (w wr : World) (L : Lay) (r : Nat) (S : St) (kept : Nat → Nat) (left : Lit → Bool) (cnt : Nat) (A : Nat → Value) (D : DataW Value) : Prop where
  rg : wr.ranges Try.prog 3 Rv L.cb r 8192 D left cnt
  co : Core wr L A D (S.settle kept fun k => left (kL k))
  lf : ∀ kl, left kl = true → has D kl = true
  gr : Grow w wr L.U L.U

theorem FInv.start {w wr : World} {L : Lay} {S : St} {kept : Nat → Nat} {A : Nat → Value} {D : DataW Value} {r : Nat} (hc : Core wr L A D S) (hrg : wr.ranges Try.prog 3 Rv L.cb r 8192 D (Maps.has D) (Maps.size D)) (hg : Grow w wr L.U L.U)
    (hk0 : ∀ k, k < S.nb → S.cache k = [] → kept k = 0) : FInv w wr L r S kept (Maps.has D) (Maps.size D) A D := by
  refine ⟨hrg, hc.ext rfl rfl rfl rfl rfl rfl rfl rfl (fun k hk => ?_) (fun k hk => ?_), fun _ h => h, hg⟩
  · by_cases h : has D (kL k) = true
    · simp [St.settle, h]
    · have h' : S.cache k = [] := by
        by_cases e : S.cache k = []
        · exact e
        · exact absurd ((hc.hasK k hk).2 e) h
      simp [St.settle, h, hk0 k hk h']
  · by_cases h : has D (kL k) = true
    · simp [St.settle, h]
    · have h' : S.cache k = [] := by
        by_cases e : S.cache k = []
        · exact e
        · exact absurd ((hc.hasK k hk).2 e) h
      simp [St.settle, h, h']

theorem kL_same (j k : Nat) : (kL j).sameKey (kL k) = decide (j = k) := by
  by_cases e : j = k
  · subst e; simp [WideAt.sameKey_self (kL_key' j)]
  · rw [Maps.sameKey_ne (fun h => e (kL_inj h))]; simp [e]

theorem FInv.step {w wr w2 : World} {L : Lay} {S : St} {kept : Nat → Nat} {left : Lit → Bool} {cnt cnt' : Nat} {A A' : Nat → Value} {D : DataW Value} {r k : Nat} (h : FInv w wr L r S kept left cnt A D) (hk : k < S.nb) (hl : left (kL k) = true)
    (hrg : w2.ranges Try.prog 3 Rv L.cb r 8192 (D.del (kL k)) (fun z => left z && !z.sameKey (kL k)) cnt') (hc : Core w2 L A' (D.del (kL k)) ((S.settle kept fun k => left (kL k)).settle1 k (kept k))) (hg : Grow w w2 L.U L.U) :
    FInv w w2 L r S kept (fun z => left z && !z.sameKey (kL k)) cnt' A' (D.del (kL k)) := by
  refine ⟨hrg, hc.ext ?_ ?_ ?_ ?_ ?_ ?_ ?_ ?_ (fun j hj => ?_) (fun j hj => ?_), fun kl hkl => ?_, hg⟩
  · simp only [St.settle1, St.dropped]; split <;> rfl
  · simp only [St.settle1, St.dropped]; split <;> rfl
  · simp only [St.settle1, St.dropped]; split <;> rfl
  · simp only [St.settle1, St.dropped]; split <;> rfl
  · simp only [St.settle1, St.dropped]; split <;> rfl
  · simp only [St.settle1, St.dropped]; split <;> rfl
  · simp only [St.settle1, St.dropped]; split <;> rfl
  · simp only [St.settle1, St.dropped]; split <;> rfl
  · by_cases e : j = k
    · subst e
      by_cases h0 : 0 < kept j
      · simp [St.settle, St.settle1, St.dropped, St.laid, kL_same, h0, hl, updF]
      · simp [St.settle, St.settle1, St.dropped, St.laid, kL_same, h0, hl, updF]
    · by_cases h0 : 0 < kept k
      · simp [St.settle, St.settle1, St.dropped, St.laid, kL_same, h0, e, updF]
      · simp [St.settle, St.settle1, St.dropped, St.laid, kL_same, h0, e, updF]
  · by_cases e : j = k
    · subst e
      by_cases h0 : 0 < kept j
      · simp [St.settle, St.settle1, St.dropped, St.laid, kL_same, h0, hl, updF]
      · simp [St.settle, St.settle1, St.dropped, St.laid, kL_same, h0, hl, updF]
    · by_cases h0 : 0 < kept k
      · simp [St.settle, St.settle1, St.dropped, St.laid, kL_same, h0, e, updF]
      · simp [St.settle, St.settle1, St.dropped, St.laid, kL_same, h0, e, updF]
  · simp only [Bool.and_eq_true, Bool.not_eq_true'] at hkl
    rw [has_del_other (fun e => by rw [e, WideAt.sameKey_self (kL_key' k)] at hkl; simp at hkl)]
    exact h.lf kl hkl.1

def St.allDown (S : St) (kept : Nat → Nat) : St := { S with cache := fun _ => [], med := fun k => if 0 < kept k then some ((S.cache k).getD (kept k - 1) []) else S.med k }

theorem FInv.done {w wr : World} {L : Lay} {S : St} {kept : Nat → Nat} {left : Lit → Bool} {cnt : Nat} {A : Nat → Value} {D : DataW Value} {r : Nat} (h : FInv w wr L r S kept left cnt A D) (hl : ∀ kl, left kl = false) : Rep wr L (S.allDown kept) :=
  ⟨A, D, h.rg.owns, h.co.ext rfl rfl rfl rfl rfl rfl rfl rfl (fun k hk => by simp [St.settle, St.allDown, hl]) (fun k hk => by simp [St.settle, St.allDown, hl])⟩

/-- what comes out of the map: a block and its cached writes -/
theorem FInv.come {w wr : World} {L : Lay} {S : St} {kept : Nat → Nat} {left : Lit → Bool} {cnt : Nat} {A : Nat → Value} {D : DataW Value} {r : Nat} (h : FInv w wr L r S kept left cnt A D) {x : Int} {c : Value} {kl : Lit} {y : DataW Value × List MemPlace}
    (hkey : keyOf Try.prog 3 (.int .i64 x) = some kl) (hlk : left kl = true) (hv : Rv c = some y) (hat : ∀ zd, D.atKey kl zd = y.1) : ∃ k a cp, k < S.nb ∧ x = (k : Int) ∧ kl = kL k ∧ c = .slice a (S.cache k).length cp := by
  obtain ⟨x', ex, rfl, hwx⟩ := Maps.keyOf_int_inv Try.underlying3 hkey
  cases ex
  obtain ⟨k, hk, e⟩ := h.co.keys _ (h.lf _ hlk)
  have hx : x = (k : Int) := by simpa [kL] using e
  have e2 := hat (.held nilS)
  rw [e, h.co.at_ k hk] at e2
  simp only [Rv, Option.some.injEq] at hv
  rw [← hv] at e2
  simp only [DataW.held.injEq] at e2
  obtain ⟨a, cp, ef⟩ := (h.co.row k hk).form
  refine ⟨k, a, cp, hk, hx, e, ?_⟩
  rw [← e2, ef]
  have : (S.settle kept fun k => left (kL k)).cache k = S.cache k := by
    rw [e] at hlk
    simp [St.settle, hlk]
  rw [this]

/-- the loop's step, in the disk's words -/
theorem wpList_nextF {ops : Array Oper} {rest : List Oper} {o : Oper} {a : Act} {Q : Exit → Act → World → Prop} {w wr : World} {L : Lay} {S : St} {kept : Nat → Nat} {left : Lit → Bool} {cnt : Nat} {A : Nat → Value} {D : DataW Value} {r : Nat} (hgd : o.guard = none) (it : Operand) (hop : o.op = Op.next it false)
    (hit : a.eval it = .pointer (some ⟨r, 0, none⟩)) (h : FInv w wr L r S kept left cnt A D)
    (hDone : Hid (∀ kl, left kl = false) → wpList Try.prog ops Q rest (a.put o.dst (.tuple #[.bool false])) wr)
    (hMore : ∀ (k : Nat) (ad : Option Addr) (cp : Nat) (w' : World) (cnt' : Nat), k < S.nb → Hid (left (kL k) = true) → Hid (w'.ranges Try.prog 3 Rv L.cb r 8192 D (fun z => left z && !z.sameKey (kL k)) cnt') → Hid (cnt' < cnt) → Hid (wr.grownBy w' (some r)) →
      (Instr.entry (.pointer (some ⟨r, 0, none⟩))).run Try.prog w' = .ok (.tuple #[.int .i64 (k : Int), .slice ad (S.cache k).length cp]) w' → wpList Try.prog ops Q rest (a.put o.dst (.tuple #[.bool true, .int .i64 (k : Int), .slice ad (S.cache k).length cp])) w') :
    wpList Try.prog ops Q (o :: rest) a wr := by
  refine wpList_next_ranges _ hgd it hop 3 kInt Rv (Value.int .i64) id (fun key kl hkey => by obtain ⟨x, rfl, _⟩ := Maps.keyOf_int_inv Try.underlying3 hkey; exact ⟨x, rfl⟩) (fun v y _ => ⟨v, rfl⟩) L.cb r 8192 D left cnt hit h.rg (fun _ hl => hDone hl) ?_
  intro x c kl y w2 cnt2 hkey hlk hv hat hrg2 hlt hg2 hs2 hen
  obtain ⟨k, ad, cp, hk, rfl, rfl, rfl⟩ := h.come hkey hlk hv hat
  exact hMore k ad cp w2 cnt2 hk hlk hrg2 hlt hg2 hen

theorem FInv.turned {w wr w1 : World} {L : Lay} {S : St} {kept : Nat → Nat} {left : Lit → Bool} {cnt : Nat} {A : Nat → Value} {D : DataW Value} {r : Nat} (h : FInv w wr L r S kept left cnt A D) (hr : ¬ L.U r) (hrw : w.heap.size ≤ r) (hg : wr.grownBy w1 (some r)) : Core w1 L A D (S.settle kept fun k => left (kL k)) ∧ Grow w w1 L.U L.U :=
  ⟨h.co.kept (fun b hb => hg.block b (h.co.uLt b hb) (fun e => hr (by simp only [Option.some.injEq] at e; exact e ▸ hb))) hg.size,
   ⟨hg.os.trans h.gr.os, hg.tape.trans h.gr.tape, hg.output.trans h.gr.output, Nat.le_trans h.gr.size hg.size, fun b hb hu => (hg.block b (Nat.lt_of_lt_of_le hb h.gr.size) (fun e => by simp only [Option.some.injEq] at e; omega)).trans (h.gr.keep b hb hu), fun _ _ h => h, fun _ h => h⟩⟩
theorem Grow.two {w w1 w2 : World} {L : Lay} {A : Nat → Value} {D : DataW Value} {S : St} (h : Grow w w1 L.U L.U) (hc : Core w1 L A D S) (ht : Two L w1 w2) : Grow w w2 L.U L.U :=
  h.trans ⟨ht.os, ht.tape, ht.output, by rw [ht.size]; exact Nat.le_refl _, fun b hb hu => ht.keep b (fun e => hu (e ▸ hc.uM)) (fun e => hu (e ▸ hc.uC)), fun _ _ h => h, fun _ h => h⟩
theorem Grow.drew {w w1 : World} {U U' : Nat → Prop} (h : Grow w w1 U U') : Grow w w1.drew U U' := ⟨h.os, h.tape, h.output, h.size, h.keep, h.new, h.sup⟩

def St.flush (S : St) : St := if S.stepOk then (S.step.allDown fun k => (S.cache k).length).addFl else S.step

end Go.Proofs.Ytepgiomgkgfioaa.K
namespace Go.Proofs.Ytepgiomgkgfioaa.K
open Go.RowKit Go.Maps
set_option linter.unusedVariables false
set_option linter.unusedSimpArgs false
set_option maxRecDepth 20000

/-- how many of n cached writes of a block a crash lets stand -/
def keptN (p : List Nat) (k n : Nat) : Nat := if p.length = 0 then 0 else p.getD (k % p.length) 0 % (n + 1)
theorem keptN_le (p : List Nat) (k n : Nat) : keptN p k n ≤ n := by
  unfold keptN
  split
  · omega
  · have := Nat.mod_lt (p.getD (k % p.length) 0) (show 0 < n + 1 by omega)
    omega

theorem tmod_nat (a b : Nat) : Int.tmod (a : Int) (b : Int) = ((a % b : Nat) : Int) := rfl

theorem kept_any {w : World} {v : Value} {p : List Nat} (hv : BSl w v p) (k n : Nat) (hk : k < 8192) (hn : n < 9223372036854775807) :
    Calls Try.prog 36 #[v, .int .i64 (k : Int), .int .i64 (n : Int)] w fun e w' => e = .returned (.int .i64 (keptN p k n : Int)) ∧ w' = w := by
  obtain ⟨a, cap, rfl, hl, hm, hn', hb, hcell⟩ := hv
  unfold maxLen at hm
  by_cases h0 : p.length = 0
  · have e1 : keptN p k n = 0 := by simp [keptN, h0]
    rw [e1, h0]
    clear hcell hb
    go_enter Try.func36, Try.ntmps36
    go_wp2
    go_ret
    exact ⟨rfl, rfl⟩
  · obtain ⟨g, off, rfl, hc⟩ := hcell (by omega)
    have e1 : keptN p k n = p.getD (k % p.length) 0 % (n + 1) := by simp [keptN, h0]
    have hkm : k % p.length < p.length := Nat.mod_lt _ (by omega)
    have hck := hc _ hkm
    have hx : p.getD (k % p.length) 0 < 256 := hb _ (mem_getD hkm)
    have t1 := tmod_nat k p.length
    have t2 := tmod_nat (p.getD (k % p.length) 0) (n + 1)
    rw [e1]
    clear hc hcell hb hn' e1
    generalize hj : k % p.length = j at *
    clear hj
    generalize p.getD j 0 = x at *
    have hN0 : ¬ (p.length : Int) = 0 := by omega
    generalize p.length = N at *
    have t2' : Int.tmod (x : Int) ((n : Int) + 1) = ((x % (n + 1) : Nat) : Int) := by rw [← t2]; rfl
    clear t2
    generalize x % (n + 1) = y at *
    go_enter Try.func36, Try.ntmps36
    go_wp2
    go_ret
    exact ⟨rfl, rfl⟩

def St.crash (S : St) (p : List Nat) : St := { S.allDown (fun k => keptN p k (S.cache k).length) with off := false, fuse := -1 }

set_option maxHeartbeats 1000000 in
theorem Crash_any {w : World} {L : Lay} {S : St} (hR : Rep w L S) {v : Value} {p : List Nat} (hv : BSl w v p) (hvU : 0 < p.length → ∀ g, blockOf v = some g → ¬ L.U g) (hlen : ∀ k, (S.cache k).length < 9223372036854775807) :
    Calls Try.prog 12 #[PD L, v] w fun e w' => e = .returned (.tuple #[]) ∧ Rep w' L (S.crash p) ∧ Grow w w' L.U L.U := by
  obtain ⟨A, D, ho1, hc1⟩ := hR
  have HV : Hid (∀ w', Grow w w' L.U L.U → BSl w' v p) := hide fun w' hg => by
    by_cases hp : 0 < p.length
    · exact hv.keptIf fun g hg1 hg2 => hg.keep g hg2 (hvU hp g hg1)
    · obtain ⟨a, cap, e, h1, h2, h3, h4, h5⟩ := hv
      exact ⟨a, cap, e, h1, h2, h3, h4, fun h => absurd h hp⟩
  have HNB := hide hc1.nb2
  have HLEN := hide hlen
  clear hv hvU hlen
  have c3 : w.cell? ⟨L.p, 3, none⟩ = some (.map (some L.cb)) := dcell hc1.hp 3
  unfold PD
  go_enter Try.func12, Try.ntmps12
  go_wp2_with (at_range; refine wpList_range_own _ rfl _ 68 rfl 3 33 kInt Try.underlying68 Rv L.cb 8192 D rfl ho1 ?_; intro w0 hrg0 hg0 hs0)
  go_frame
  obtain ⟨r, hr⟩ : ∃ r, r = w.heap.size := ⟨_, rfl⟩
  rw [← hr] at hrg0 ⊢
  have hrw : w.heap.size ≤ r := by rw [hr]; exact Nat.le_refl _
  have hrU : ¬ L.U r := fun hu => by have := hc1.uLt r hu; omega
  have hc0 : Core w0 L A D S := hc1.kept (fun b hb => hg0.block b (hc1.uLt b hb) (by simp)) hg0.size
  have hG0 : Grow w w0 L.U L.U := ⟨hg0.os, hg0.tape, hg0.output, hg0.size, fun b hb _ => hg0.block b hb (by simp), fun _ _ h => h, fun _ h => h⟩
  have START := hide (FInv.start (kept := fun k => keptN p k (S.cache k).length) hc0 hrg0 hG0 (fun k hk h0 => by have := keptN_le p k (S.cache k).length; rw [h0] at this ⊢; simp at this; exact this))
  clear hrg0 hg0 hs0 hc0 hG0 c3 hc1 ho1 hr
  go_loopw [11] (fun _ wr => ∃ left cnt A D, FInv w wr L r S (fun k => keptN p k (S.cache k).length) left cnt A D) (fun _ wr => wr.rangeLeft L.cb r)
  case atStart => exact ⟨_, _, _, _, START.out⟩
  case round =>
    clear START
    obtain ⟨left, cnt, A, D, hI⟩ := hrel
    have HI := hide hI
    have hrg := hI.rg
    clear hI
    go_wp2_with (at_next; refine wpList_nextF rfl _ rfl rfl HI.out ?_ ?_)
    · intro hl0
      have hRd := HI.out.done hl0.out
      have hGd := HI.out.gr
      have c4 : wr.cell? ⟨L.p, 4, none⟩ = some (.bool S.off) := rcell (U' := L.U) hRd 4
      have f4 := rfree (L := L) (U' := L.U) hRd 4
      have c5 : wr.cell? ⟨L.p, 5, none⟩ = some (.int .i64 S.fuse) := rcell (U' := L.U) hRd 5
      have f5 := rfree (L := L) (U' := L.U) hRd 5
      obtain ⟨h1, h2, h3⟩ := hRd.store 4 (.bool false) false S.fuse S.rd S.wr S.th S.fl hRd.fz rfl
      obtain ⟨k1, k2, k3⟩ := h1.store 5 (.int .i64 (-1)) false (-1) S.rd S.wr S.th S.fl (by omega) rfl
      have HK1 := hide k1
      have HK2 := hide (hGd.trans (h2.trans k2))
      clear hrg HI hRd h1 h2 h3 k1 k2 k3 hGd
      go_wp2
      go_end0
      exact ⟨rfl, HK1.out, HK2.out⟩
    · intro k a cp w2 cnt2 hk hlk0 hrg2 hlt hg2 hen
      have hlk := hlk0.out
      obtain ⟨hc2, hG2⟩ := HI.out.turned hrU hrw hg2.out
      have hcl : keptN p k (S.cache k).length ≤ ((S.settle (fun k => keptN p k (S.cache k).length) fun k => left (kL k)).cache k).length := by simp [St.settle, hlk]; exact keptN_le _ _ _
      have hrgd : w2.drew.ranges Try.prog 3 Rv L.cb r 8192 D (fun z => left z && !z.sameKey (kL k)) cnt2 := hrg2.out
      have HSET := hide (settle_any (w := w2.drew) (n := keptN p k (S.cache k).length) hrgd (hc2.kept (fun _ _ => rfl) (Nat.le_refl _)) (k := k) hk hcl hrU)
      have HKEP := hide (kept_any (w := w2.drew) (HV.out _ hG2.drew) k (S.cache k).length (by have := HNB.out; omega) (HLEN.out k))
      have c2 : w2.drew.cell? ⟨L.p, 2, none⟩ = some (medV L (S.settle (fun k => keptN p k (S.cache k).length) fun k => left (kL k))) := dcell (w := w2.drew) hc2.hp 2
      have c3 : w2.drew.cell? ⟨L.p, 3, none⟩ = some (.map (some L.cb)) := dcell (w := w2.drew) hc2.hp 3
      have HKp : Hid (∀ w', Two L w2.drew w' → ∀ i, w'.cell? ⟨L.p, i, none⟩ = w2.drew.cell? ⟨L.p, i, none⟩) := hide fun w' ht i => World.cell?_of_block (ht.keep L.p (fun e => by
        obtain ⟨ms, h1, _⟩ := hc2.hm
        have h2 := hc2.hp
        rw [e, h1] at h2
        simp at h2) (fun e => by
        obtain ⟨es, c, h, _⟩ := hrgd.owns
        have h2 : w2.drew.heap[L.p]? = _ := hc2.hp
        rw [e, h] at h2
        simp at h2))
      have HC2 := hide hc2
      have HG2 := hide hG2
      have HRGo := hide hrg
      clear hc2 hG2 hg2 hrg2 hrg hlk hcl hrgd
      generalize medV L (S.settle (fun k => keptN p k (S.cache k).length) fun k => left (kL k)) = mv at *
      generalize hM : keptN p k (S.cache k).length = M at *
      have HM := hide hM
      clear hM
      generalize hN : (S.cache k).length = N at *
      have HNn := hide hN
      clear hN
      go_wp2_with fail
      go_region_held3 (fun w' => w'.cell? ⟨L.p, 2, none⟩ = some mv ∧ w'.cell? ⟨L.p, 3, none⟩ = some (.map (some L.cb))) (first | (constructor <;> assumption) | go_keep)
        (first
          | (go_at_call 36; refine HKEP.out.mono ?_; rintro e w' ⟨rfl, rfl⟩)
          | (go_at_call 35; refine HSET.out.mono ?_; rintro e w' ⟨rfl, A', cnt3, hrg3, hle3, hc3, ht3⟩; have c2' : w'.cell? ⟨L.p, 2, none⟩ = some mv := (HKp.out w' ht3 2).trans c2; have c3' : w'.cell? ⟨L.p, 3, none⟩ = some (.map (some L.cb)) := (HKp.out w' ht3 3).trans c3; have HR3 := hide hrg3; have HL3 := hide hle3; have HC3 := hide hc3; have HT3 := hide ht3; clear hrg3 hle3 hc3 ht3))
      go_wp2
      go_roundw
      case rel =>
        refine ⟨_, _, _, _, HI.out.step hk hlk0.out (cnt' := cnt3) (A' := A') ?_ ?_ ((HG2.out.drew).two (HC2.out.kept (w' := w2.drew) (fun _ _ => rfl) (Nat.le_refl _)) HT3.out)⟩
        · have := HR3.out
          rw [Maps.strike_twice] at this
          exact this
        · rw [HNn.out, HM.out]; exact HC3.out
      case measure =>
        rw [HR3.out.left_eq, HRGo.out.left_eq]
        have h1 := HL3.out
        have h2 := hlt.out
        omega
end Go.Proofs.Ytepgiomgkgfioaa.K
namespace Go.Proofs.Ytepgiomgkgfioaa.K
open Go.RowKit Go.Maps
set_option linter.unusedVariables false
set_option linter.unusedSimpArgs false
set_option maxRecDepth 20000

def goodGeo (n s : Int) : Bool := decide (1 ≤ n ∧ n ≤ 8192 ∧ (s = 128 ∨ s = 256 ∨ s = 512 ∨ s = 1024))
theorem and_nat : ∀ d : Nat, d < 897 → (bits BinOp.and IntKind.i64 ((128 + d : Nat) : Int) ((127 + d : Nat) : Int) == 0) = decide (128 + d = 128 ∨ 128 + d = 256 ∨ 128 + d = 512 ∨ 128 + d = 1024) := by decide +kernel
theorem and_ok {n s : Int} (h0 : 1 ≤ n ∧ n ≤ 8192) (h1 : 128 ≤ s) (h2 : s ≤ 1024) : (bits BinOp.and IntKind.i64 s (s - 1) == 0) = goodGeo n s := by
  obtain ⟨d, rfl⟩ : ∃ d : Nat, s = ((128 + d : Nat) : Int) := ⟨(s - 128).toNat, by omega⟩
  have e : (((128 + d : Nat) : Int) - 1) = ((127 + d : Nat) : Int) := by omega
  rw [e, and_nat d (by omega)]
  unfold goodGeo
  apply decide_eq_decide.2
  omega

theorem geo_any (w : World) (n s : Int) :
    Calls Try.prog 28 #[.int .i64 n, .int .i64 s] w fun e w' => e = .returned (.bool (goodGeo n s)) ∧ w' = w := by
  by_cases h1 : n < 1
  · have e : goodGeo n s = false := decide_eq_false (by omega)
    rw [e]
    go_enter Try.func28, Try.ntmps28
    go_wp2
    go_ret
    exact ⟨rfl, rfl⟩
  · by_cases h2 : 8192 < n
    · have e : goodGeo n s = false := decide_eq_false (by omega)
      rw [e]
      go_enter Try.func28, Try.ntmps28
      go_wp2
      go_ret
      exact ⟨rfl, rfl⟩
    · by_cases h3 : s < 128
      · have e : goodGeo n s = false := decide_eq_false (by omega)
        rw [e]
        go_enter Try.func28, Try.ntmps28
        go_wp2
        go_ret
        exact ⟨rfl, rfl⟩
      · by_cases h4 : 1024 < s
        · have e : goodGeo n s = false := decide_eq_false (by omega)
          rw [e]
          go_enter Try.func28, Try.ntmps28
          go_wp2
          go_ret
          exact ⟨rfl, rfl⟩
        · have ha := and_ok (n := n) (s := s) (by omega) (by omega) (by omega)
          rw [← ha]
          have HA := hide ha
          clear ha
          go_enter Try.func28, Try.ntmps28
          go_wp2
          go_ret
          exact ⟨rfl, rfl⟩

/-- a medium whose blocks hold f -/
def MedRow (w : World) (mb nb : Nat) (f : Nat → List Nat) (g : Nat → Nat) : Prop :=
  w.heap[mb]? = some (.cells ((List.range nb).map fun i => sl (g i) (f i).length).toArray 23 (0, 0)) ∧ ∀ i, i < nb → PieceAt w (g i) (f i)

def St.fresh (nb sz : Nat) (f : Nat → List Nat) : St := { nb := nb, sz := sz, med := fun i => some (f i), cache := fun _ => [], off := false, fuse := -1, rd := 0, wr := 0, th := 0, fl := 0 }

theorem made_any (w : World) (nb sz mb : Nat) :
    Calls Try.prog 29 #[.int .i64 (nb : Int), .int .i64 (sz : Int), .slice (some ⟨mb, 0, none⟩) nb nb] w fun e w' => e = .returned (.pointer (some ⟨w.heap.size + 1, 0, none⟩)) ∧ w' = (w.alloc (.map #[] 0)).alloc (.cells #[.int .i64 (nb : Int), .int .i64 (sz : Int), .slice (some ⟨mb, 0, none⟩) nb nb, .map (some w.heap.size), .bool false, .int .i64 (-1), .int .i64 0, .int .i64 0, .int .i64 0, .int .i64 0] 72) := by
  have hmm := fun W : World => run_makeMap (P := Try.prog) 68 W
  go_enter Try.func29, Try.ntmps29
  go_wp2
  go_ret
  exact ⟨rfl, rfl⟩

theorem rep_made {w0 w : World} {nb sz mb : Nat} {f : Nat → List Nat} {g : Nat → Nat} (hb : Below w0.heap.size w0 w) (hm : MedRow w mb nb f g) (hmb : w0.heap.size ≤ mb) (hg : ∀ i, i < nb → w0.heap.size ≤ g i) (h1 : 1 ≤ nb) (h2 : nb ≤ 8192) (hs : sz = 128 ∨ sz = 256 ∨ sz = 512 ∨ sz = 1024) (hl : ∀ i, i < nb → (f i).length = sz) :
    Rep ((w.alloc (.map #[] 0)).alloc (.cells #[.int .i64 (nb : Int), .int .i64 (sz : Int), .slice (some ⟨mb, 0, none⟩) nb nb, .map (some w.heap.size), .bool false, .int .i64 (-1), .int .i64 0, .int .i64 0, .int .i64 0, .int .i64 0] 72)) ⟨w.heap.size + 1, mb, w.heap.size, fun b => w0.heap.size ≤ b ∧ b < w.heap.size + 2⟩ (St.fresh nb sz f) := by
  have k1 : ∀ b, b < w.heap.size → ((w.alloc (.map #[] 0)).alloc (.cells #[.int .i64 (nb : Int), .int .i64 (sz : Int), .slice (some ⟨mb, 0, none⟩) nb nb, .map (some w.heap.size), .bool false, .int .i64 (-1), .int .i64 0, .int .i64 0, .int .i64 0, .int .i64 0] 72)).heap[b]? = w.heap[b]? := fun b hb' => by
    rw [Below.heap_alloc _ _ b (by simp; omega), Below.heap_alloc _ _ b hb']
  have hml : mb < w.heap.size := (Array.getElem?_eq_some_iff.1 hm.1).1
  have hsz := hb.size
  refine ⟨fun _ => nilS, .map [], ?_, ?_⟩
  · exact ((World.ownsMap_made w Try.prog 3 Rv).mono (Nat.zero_le _)).alloc _
  · refine ⟨h1, h2, hs, by simp [St.fresh], Go.heap_alloc_new (w.alloc (.map #[] 0)) _ |> fun h => by simpa [diskRow, St.fresh] using h, ⟨_, (k1 mb hml).trans hm.1, by simp [St.fresh], fun i hi => ?_⟩, fun i l hi hl' => ?_, fun i l _ hl' => ?_, fun kl hkl => ?_, fun k hk => ?_, fun k hk => rfl, fun k hk => ?_, fun k j _ _ _ gg h => ?_, fun k _ => by simp [nilS, Value.ownBlock], ?_, ?_, ?_, fun b hb' => ?_⟩
    · have hi' : i < nb := hi
      refine ⟨sl (g i) (f i).length, by simp [hi'], ?_⟩
      have hp := hm.2 i hi'
      exact ⟨g i, rfl, hp.kept (k1 _ hp.lt), hg i hi', by have := hp.lt; show g i < w.heap.size + 2; omega⟩
    · simp only [St.fresh, Option.some.injEq] at hl'
      rw [← hl']; exact hl i hi
    · simp [St.fresh] at hl'
    · simp [has] at hkl
    · simp [has, St.fresh]
    · exact ⟨[], rfl, World.ownsRow_nil _ 0 23 1, by simp [St.fresh], by simp [nilS, Value.ownBlock], fun _ => rfl⟩
    · simp [nilS, Value.ownBlock] at h
    · exact ⟨by show w0.heap.size ≤ w.heap.size + 1; omega, by show w.heap.size + 1 < w.heap.size + 2; omega⟩
    · exact ⟨hmb, by show mb < w.heap.size + 2; omega⟩
    · exact ⟨hsz, by show w.heap.size < w.heap.size + 2; omega⟩
    · simp only [World.size_alloc]
      have : b < w.heap.size + 2 := hb'.2
      omega
end Go.Proofs.Ytepgiomgkgfioaa.K

namespace Go.Proofs.Ytepgiomgkgfioaa.K
open Go.RowKit Go.Maps
set_option linter.unusedVariables false
set_option linter.unusedSimpArgs false
set_option maxRecDepth 20000

/-- a medium that is being laid: the first i blocks are -/
def midRow (nb i : Nat) (f : Nat → Value) : Array Value := ((List.range nb).map fun j => if j < i then f j else nilS).toArray
theorem midRow_size (nb i : Nat) (f : Nat → Value) : (midRow nb i f).size = nb := by simp [midRow]
theorem midRow_get {nb i j : Nat} (f : Nat → Value) (hj : j < nb) : (midRow nb i f)[j]? = some (if j < i then f j else nilS) := by simp [midRow, hj]
theorem midRow_set {nb i : Nat} (f : Nat → Value) (hi : i < nb) : (midRow nb i f).setIfInBounds i (f i) = midRow nb (i + 1) f := by
  apply Array.ext_getElem?
  intro j
  by_cases hj : j < nb
  · by_cases e : j = i
    · subst e
      rw [Array.getElem?_setIfInBounds_self_of_lt (by rw [midRow_size]; exact hi), midRow_get f hj, if_pos (by omega)]
    · rw [Array.getElem?_setIfInBounds_ne (by omega), midRow_get f hj, midRow_get f hj]
      by_cases h : j < i
      · rw [if_pos h, if_pos (by omega)]
      · rw [if_neg h, if_neg (by omega)]
  · rw [Array.getElem?_eq_none (by simp [midRow]; omega), Array.getElem?_eq_none (by simp [midRow]; omega)]
theorem midRow_full (nb : Nat) (f : Nat → Value) : midRow nb nb f = ((List.range nb).map f).toArray := by
  unfold midRow
  congr 1
  apply List.map_congr_left
  intro j hj
  rw [if_pos (List.mem_range.1 hj)]
theorem made_nils (n : Nat) (f : Nat → Value) : madeCells (Value.slice none 0 0).cells (n * 1) = midRow n 0 f := by
  apply Array.ext_getElem?
  intro i
  by_cases h : i < n
  · rw [midRow_get f h, if_neg (by omega)]
    simp [madeCells, Value.cells, h, Nat.mod_one, nilS]
  · rw [Array.getElem?_eq_none (by rw [size_madeCells]; omega), Array.getElem?_eq_none (by rw [midRow_size]; omega)]

/-- 'make(medium, n)' -/
theorem wpList_nils {ops : Array Oper} {rest : List Oper} {o : Oper} {a : Act} {w : World} {Q : Exit → Act → World → Prop} (hgd : o.guard = none) (l c : Operand) (ho : o.op = Op.makeSlice 64 l c)
    (C : Int) (n : Nat) (hl : a.eval l = .int .i64 C) (hc : a.eval c = .int .i64 C) (hC : C = (n : Int)) (hn : n ≤ 8192) (f : Nat → Value)
    (h : wpList Try.prog ops Q rest (a.put o.dst (.slice (some ⟨w.heap.size, 0, none⟩) n n)) (w.alloc (.cells (midRow n 0 f) 23))) : wpList Try.prog ops Q (o :: rest) a w := by
  obtain ⟨i0, hi, hz0, hz1, hz2⟩ := info_parts info_bytes
  subst hC
  refine wpList_plain hgd fun K' hK' => ?_
  have hr := run_make (P := Try.prog) w 64 23 i0 (.slice none 0 0) Try.underlying64 hi hz0 .i64 .i64 (n : Int) (n : Int) (by omega) (Int.le_refl _) (by rw [hz2]; omega) (by omega)
  simp only [Int.toNat_natCast] at hr
  rw [hz1, made_nils n f] at hr
  unfold Oper.wp
  simp only [execOp, ho, hl, hc, hr, Sem.run_bind, Result.andThen_ok, Sem.run_pure]
  exact hK' _ _ h

structure BInv (w wr : World) (nb sz i : Nat) : Prop where
  hi : i ≤ nb
  row : wr.heap[w.heap.size]? = some (.cells (midRow nb i fun _ => sl (w.heap.size + 1) sz) 23 (0, 0))
  pc : PieceAt wr (w.heap.size + 1) (zeros sz)
  be : Below w.heap.size w wr
  sz : wr.heap.size = w.heap.size + 2

theorem blank_any (w : World) (nb sz : Nat) (hnb : nb ≤ 8192) (hsz : sz = 128 ∨ sz = 256 ∨ sz = 512 ∨ sz = 1024) :
    Calls Try.prog 30 #[.int .i64 (nb : Int), .int .i64 (sz : Int)] w fun e w' => e = .returned (.slice (some ⟨w.heap.size, 0, none⟩) nb nb) ∧ BInv w w' nb sz nb := by
  have hszn : sz ≤ 281474976710656 := by omega
  obtain ⟨Z, hZ⟩ : ∃ Z, ((zeros sz).map byteV).toArray = Z := ⟨_, rfl⟩
  have START : Hid (BInv w ((w.alloc (.cells (midRow nb 0 fun _ => sl (w.heap.size + 1) sz) 23)).alloc (.cells Z 5)) nb sz 0) := hide
    ⟨Nat.zero_le _, by rw [Below.heap_alloc _ _ _ (by simp)]; exact Go.heap_alloc_new w _, ⟨by rw [hZ]; have := Go.heap_alloc_new (w.alloc (.cells (midRow nb 0 fun _ => sl (w.heap.size + 1) sz) 23)) (.cells Z 5); simpa using this, zeros_lt _, by rw [zeros_len]; unfold maxLen; omega, by rw [zeros_len]; omega⟩, ((Below.refl _ _).alloc (Nat.le_refl _) _).alloc (by simp) _, by simp⟩
  have HZ := hide hZ
  clear hZ
  go_enter Try.func30, Try.ntmps30
  go_wp2_with (first
    | (at_make; refine wpList_nils rfl _ _ rfl _ nb rfl rfl rfl hnb (fun _ => sl (w.heap.size + 1) sz) ?_)
    | (at_make; refine wpList_zeros rfl _ _ rfl _ sz rfl rfl rfl hszn Z HZ ?_))
  go_loopw [14] (fun i wr => ∃ n : Nat, i = .int .i64 (n : Int) ∧ BInv w wr nb sz n) (fun i _ => nb - (intOf i).toNat)
  case atStart => exact ⟨0, rfl, START.out⟩
  case round =>
    clear START
    obtain ⟨n, rfl, hI⟩ := hrel
    have hn := hI.hi
    have HI := hide hI
    have hrow := hI.row
    clear hI
    by_cases hlt : n < nb
    · have hc : wr.cell? ⟨w.heap.size, n, none⟩ = some nilS := by rw [cell_of_row _ _ _ _ _ _ hrow, midRow_get _ hlt, if_neg (by omega)]
      have hf : wr.frozen? ⟨w.heap.size, n, none⟩ = false := frozen_of_row _ _ _ _ 23 hrow
      have HN : Hid (BInv w (wr.setCell ⟨w.heap.size, n, none⟩ (sl (w.heap.size + 1) sz)) nb sz (n + 1)) := hide
        ⟨by omega, by rw [← midRow_set _ hlt]; exact Go.heap_setCell_same wr w.heap.size n _ 23 _ HI.out.row, HI.out.pc.kept (Go.heap_setCell_other _ _ _ _ (by simp)), HI.out.be.setCell (p := ⟨w.heap.size, n, none⟩) (Nat.le_refl _) _, by simp [World.setCell]; exact HI.out.sz⟩
      clear hrow
      go_wp2
      go_roundw
      case rel => exact ⟨n + 1, by go_num, HN.out⟩
      case measure => simp [intOf]; omega
    · have e : n = nb := by omega
      subst e
      clear hrow
      go_wp2
      go_ret
      exact ⟨rfl, HI.out⟩

/-- what New leaves -/
def NewPost (w : World) (nb sz : Nat) (f : Nat → List Nat) (e : Ending) (w' : World) : Prop :=
  ∃ L : Lay, e = .returned (.tuple #[PD L, .int .i64 0]) ∧ Rep w' L (St.fresh nb sz f) ∧ Below w.heap.size w w' ∧ ∀ b, L.U b → w.heap.size ≤ b

theorem New_bad (w : World) (n s : Int) (h : goodGeo n s = false) :
    Calls Try.prog 9 #[.int .i64 n, .int .i64 s] w fun e w' => e = .returned (.tuple #[.pointer none, .int .i64 1]) ∧ w' = w := by
  go_enter Try.func9, Try.ntmps9
  go_wp2_with (go_at_call 28; refine (geo_any _ _ _).mono ?_; rintro e w' ⟨rfl, rfl⟩; rw [h])
  go_ret2
  exact ⟨rfl, rfl⟩

theorem New_any (w : World) (nb sz : Nat) (h1 : 1 ≤ nb) (h2 : nb ≤ 8192) (hs : sz = 128 ∨ sz = 256 ∨ sz = 512 ∨ sz = 1024) :
    Calls Try.prog 9 #[.int .i64 (nb : Int), .int .i64 (sz : Int)] w fun e w' => NewPost w nb sz (fun _ => zeros sz) e w' := by
  have h : goodGeo nb sz = true := decide_eq_true (by omega)
  have HB := hide (blank_any w nb sz h2 hs)
  have HS := hide hs
  clear hs
  go_enter Try.func9, Try.ntmps9
  go_wp2_with (first
    | (go_at_call 28; refine (geo_any _ _ _).mono ?_; rintro e w0 ⟨rfl, e0⟩; rw [h]; cases e0)
    | (go_at_call 30; refine HB.out.mono ?_; rintro e w1 ⟨rfl, hI⟩; have HI := hide hI; clear hI)
    | (go_at_call 29; refine (made_any _ _ _ _).mono ?_; rintro e w2 ⟨rfl, rfl⟩))
  go_ret2
  have hm : MedRow w1 w.heap.size nb (fun _ => zeros sz) (fun _ => w.heap.size + 1) := ⟨by have := HI.out.row; rw [midRow_full] at this; simpa [zeros_len] using this, fun i _ => HI.out.pc⟩
  have hR := rep_made HI.out.be hm (Nat.le_refl _) (fun _ _ => by omega) h1 h2 HS.out (fun _ _ => zeros_len _)
  exact ⟨_, rfl, hR, (HI.out.be.alloc HI.out.be.size _).alloc (by simp; exact Nat.le_succ_of_le HI.out.be.size) _, fun b hb => hb.1⟩
end Go.Proofs.Ytepgiomgkgfioaa.K
namespace Go.Proofs.Ytepgiomgkgfioaa
open Go.RowKit
set_option linter.unusedVariables false
set_option linter.unusedSimpArgs false
set_option maxRecDepth 20000

theorem mrowKept {w w' : World} {base c : Nat} {e : TypeId} {v : Value} {n : Nat} {xs : List Value} (h : w.ownsRow base e c v n xs) (hk : ∀ g, v.ownBlock = some g → w'.heap[g]? = w.heap[g]?) : w'.ownsRow base e c v n xs := by
  refine ⟨h.1, ?_⟩
  rcases h.2 with h0 | ⟨g, cap, cur, rfl, h1, hg, r⟩
  · exact .inl h0
  · exact .inr ⟨g, cap, cur, rfl, h1, by rw [hk g rfl]; exact hg, r⟩
theorem mrowForm {w : World} {base c : Nat} {e : TypeId} {v : Value} {n : Nat} {xs : List Value} (h : w.ownsRow base e c v n xs) : ∃ a cap, v = .slice a n cap ∧ n ≤ cap ∧ cap ≤ maxLen := by
  rcases h.2 with ⟨rfl, rfl⟩ | ⟨g, cap, cur, rfl, _, _, h1, h2, _⟩
  · exact ⟨_, _, rfl, Nat.le_refl _, Nat.zero_le _⟩
  · exact ⟨_, _, rfl, h1, h2⟩
/-- a list of ints that came in -/
def ISl (w : World) (v : Value) (zs : List Int) : Prop :=
  ∃ a cap, v = .slice a zs.length cap ∧ zs.length ≤ cap ∧ cap ≤ maxLen ∧ (∀ z ∈ zs, -9223372036854775808 ≤ z ∧ z ≤ 9223372036854775807) ∧
    (0 < zs.length → ∃ b off, a = some ⟨b, off, none⟩ ∧ ∀ i, i < zs.length → w.cell? ⟨b, off + i, none⟩ = some (.int .i64 (zs.getD i 0)))
/-! the numbers -/
theorem lr_end {n : Nat} (h1 : 1 ≤ n) : 64 * ((n + 63) / 64 - 1) + lr n = n := by unfold lr lmS; omega
theorem lr_mod {n : Nat} (h : n % 64 ≠ 0) : lr n = n % 64 := by unfold lr lmS; omega
theorem wd_last {n Bv : Nat} (h1 : 1 ≤ n) (hB : Bv < 2 ^ n) : B.wd Bv ((n + 63) / 64 - 1) < 2 ^ lr n := by
  have he := lr_end h1
  refine B.lt_of_bits fun i hi => ?_
  rw [B.testBit_wd, Nat.testBit_lt_two_pow (Nat.lt_of_lt_of_le hB (Nat.pow_le_pow_right (by decide) (by omega)))]
  simp
/-- the blocks as they are read back -/
def bkG (ws : List Nat) (s : Nat) (G : Nat → Bool) (k : Nat) : List Nat := if G k = true then [] else bkT ws s (ws.length * 8) k
theorem bkG_len {ws : List Nat} {s : Nat} {G : Nat → Bool} (hs : 1 ≤ s) (k : Nat) : ((bkG ws s G k).length == 0) = G k := by
  unfold bkG
  split
  · next h => simp [h]
  · next h => rw [bkT_len]; simp only [Bool.not_eq_true] at h; rw [h, beq_eq_false_iff_ne]; omega
theorem lostG {ws : List Nat} {s : Nat} {G : Nat → Bool} (hs : 1 ≤ s) (j : Nat) : lostN (bkG ws s G) j = (List.range j).any G := by
  unfold lostN
  congr 1
  funext k
  exact bkG_len hs k
theorem uW_G {n s Bv : Nat} {G : Nat → Bool} (hs : okSz (s : Int) = true) (h1 : 1 ≤ n) {i : Nat} (hi : i < (n + 63) / 64) : uW (bkG (B.wds Bv (B.nW n)) s G) s i = if G (i * 8 / s) = true then 18446744073709551615 else B.wd Bv i := by
  have hp : 1 ≤ s := by
    unfold okSz at hs
    simp at hs
    omega
  obtain ⟨q1, q2, q3⟩ := word_in hs h1 hi
  have hb := bkG_len (ws := B.wds Bv (B.nW n)) (G := G) hp (i * 8 / s)
  unfold uW
  by_cases hG : G (i * 8 / s) = true
  · rw [hG, beq_iff_eq] at hb
    rw [if_pos hb, if_pos hG]
  · rw [Bool.not_eq_true] at hG
    rw [hG, beq_eq_false_iff_ne] at hb
    rw [if_neg hb, hG, if_neg (by decide)]
    unfold bkG
    rw [hG, if_neg (by decide)]
    have hil : i < (B.wds Bv (B.nW n)).length := by rw [B.wds_len]; exact hi
    rw [lev_bk hil q2 q3 (by rw [B.wds_get (by exact hi)]; exact B.wd_lt _ _), B.wds_get (by exact hi)]
theorem uW_lt {n s Bv : Nat} {G : Nat → Bool} (hs : okSz (s : Int) = true) (h1 : 1 ≤ n) {i : Nat} (hi : i < (n + 63) / 64) : uW (bkG (B.wds Bv (B.nW n)) s G) s i < 18446744073709551616 := by
  rw [uW_G hs h1 hi]
  split
  · decide
  · exact B.wd_lt _ _
/-- the words that are read back -/
def rdW (n s Bv : Nat) (G : Nat → Bool) : List Nat := (uL (bkG (B.wds Bv (B.nW n)) s G) s ((n + 63) / 64)).set ((n + 63) / 64 - 1) (uW (bkG (B.wds Bv (B.nW n)) s G) s ((n + 63) / 64 - 1) % 2 ^ lr n)
theorem rdW_len (n s Bv : Nat) (G : Nat → Bool) : (rdW n s Bv G).length = (n + 63) / 64 := by unfold rdW; rw [List.length_set, uL_len]
theorem rdW_get {n s Bv : Nat} {G : Nat → Bool} {i : Nat} (hi : i < (n + 63) / 64) : (rdW n s Bv G).getD i 0 = if i = (n + 63) / 64 - 1 then uW (bkG (B.wds Bv (B.nW n)) s G) s i % 2 ^ lr n else uW (bkG (B.wds Bv (B.nW n)) s G) s i := by
  unfold rdW
  by_cases e : i = (n + 63) / 64 - 1
  · rw [if_pos e, ← e]
    simp [List.getD, uL_len, hi]
  · rw [if_neg e, ← uL_get (B := bkG (B.wds Bv (B.nW n)) s G) (s := s) hi]
    simp only [List.getD, List.getElem?_set_ne (Ne.symm e)]
theorem rdW_lt {n s Bv : Nat} {G : Nat → Bool} (hs : okSz (s : Int) = true) (h1 : 1 ≤ n) : ∀ x ∈ rdW n s Bv G, x < 18446744073709551616 := fun x hx => by
  obtain ⟨i, hi, rfl⟩ := List.getElem_of_mem hx
  rw [rdW_len] at hi
  have h := rdW_get (n := n) (s := s) (Bv := Bv) (G := G) hi
  rw [List.getD, List.getElem?_eq_getElem (by rw [rdW_len]; exact hi), Option.getD_some] at h
  rw [h]
  have := uW_lt (s := s) (Bv := Bv) (G := G) hs h1 hi
  split
  · exact Nat.lt_of_le_of_lt (Nat.mod_le _ _) this
  · exact this
theorem rdW_err {n s Bv : Nat} {G : Nat → Bool} (h1 : 1 ≤ n) : B.cwErr n (rdW n s Bv G) = 0 := by
  unfold B.cwErr
  rw [rdW_len, if_neg (by unfold B.nW; omega), if_neg]
  rintro ⟨h2, h3⟩
  apply h3
  rw [rdW_get (by omega), if_pos rfl, lr_mod h2]
  exact Nat.div_eq_of_lt (Nat.mod_lt _ (Nat.pow_pos (by decide)))
theorem rdW_bit {n s Bv : Nat} {G : Nat → Bool} (hs : okSz (s : Int) = true) (h1 : 1 ≤ n) {i : Nat} (hi : i < n) : (B.valW (rdW n s Bv G)).testBit i = (Bv.testBit i || G (i / (8 * s))) := by
  have he := lr_end h1
  have hk : i / 64 < (n + 63) / 64 := by omega
  have e1 : (B.valW (rdW n s Bv G)).testBit i = (B.wd (B.valW (rdW n s Bv G)) (i / 64)).testBit (i % 64) := by
    rw [B.testBit_wd, decide_eq_true (Nat.mod_lt _ (by decide)), Bool.true_and, Nat.div_add_mod]
  rw [e1, B.wd_valW _ _ (rdW_lt hs h1), rdW_get hk]
  have e2 : (if i / 64 = (n + 63) / 64 - 1 then uW (bkG (B.wds Bv (B.nW n)) s G) s (i / 64) % 2 ^ lr n else uW (bkG (B.wds Bv (B.nW n)) s G) s (i / 64)).testBit (i % 64) = (uW (bkG (B.wds Bv (B.nW n)) s G) s (i / 64)).testBit (i % 64) := by
    split
    · rw [Nat.testBit_mod_two_pow, decide_eq_true (by omega), Bool.true_and]
    · rfl
  have e3 : i / 64 * 8 / s = i / (8 * s) := by
    have hp : s = 128 ∨ s = 256 ∨ s = 512 ∨ s = 1024 := by
      unfold okSz at hs
      simp at hs
      omega
    rcases hp with rfl | rfl | rfl | rfl <;> omega
  rw [e2, uW_G hs h1 hk, e3]
  cases hG : G (i / (8 * s)) with
  | true =>
    rw [if_pos rfl, Bool.or_true, show (18446744073709551615 : Nat) = 2 ^ 64 - 1 from rfl, Nat.testBit_two_pow_sub_one]
    exact decide_eq_true (Nat.mod_lt _ (by decide))
  | false =>
    rw [if_neg (by decide), Bool.or_false, B.testBit_wd, decide_eq_true (Nat.mod_lt _ (by decide)), Bool.true_and, Nat.div_add_mod]
/-! the disk -/
structure DI (S : K.St) (m s : Nat) (E : Nat → Option (List Nat)) : Prop where
  nb : S.nb = m
  sz : S.sz = s
  ca : ∀ k, S.cache k = []
  md : ∀ k, k < m → S.med k = E k
  fu : S.fuse = -1
  of_ : S.off = false
theorem DI.start (m s : Nat) : DI (K.St.fresh m s (fun _ => K.zeros s)) m s (fun _ => some (K.zeros s)) := ⟨rfl, rfl, fun _ => rfl, fun _ _ => rfl, rfl, rfl⟩
theorem DI.through {S : K.St} {m s : Nat} {E : Nat → Option (List Nat)} (h : DI S m s E) {i : Nat} (hi : i < m) {l : List Nat} (hl : l.length = s) : S.putErr (i : Int) l.length = 0 ∧ DI (S.through (i : Int) l) m s (fun k => if k = i then some l else E k) := by
  have hso : S.stepOk = true := by simp [K.St.stepOk, h.fu, h.of_]
  have hpe : S.putErr (i : Int) l.length = 0 := by
    unfold K.St.putErr
    rw [if_neg (by rw [h.nb]; simp; omega), if_neg (by rw [hl, h.sz]; simp), if_neg (by simp [hso])]
  refine ⟨hpe, ?_⟩
  have hst : S.step = S := by
    unfold K.St.step
    rw [h.fu, h.of_]
    rfl
  have e : S.through (i : Int) l = ((S.laid i (some l)).dropped i).addTh := by
    unfold K.St.through K.St.putSt
    rw [if_pos hpe, hst, Int.toNat_natCast]
  rw [e]
  refine ⟨h.nb, h.sz, fun k => ?_, fun k hk => ?_, h.fu, h.of_⟩
  · show K.updF S.cache i [] k = []
    unfold K.updF
    split
    · rfl
    · exact h.ca k
  · show K.updF S.med i (some l) k = _
    unfold K.updF
    split
    · rfl
    · exact h.md k hk
theorem DI.spoil {S : K.St} {m s : Nat} {E : Nat → Option (List Nat)} (h : DI S m s E) (b : Int) : DI (S.spoil b) m s (fun k => if (k : Int) = b then none else E k) := by
  unfold K.St.spoil
  by_cases hb : 0 ≤ b ∧ b < (S.nb : Int)
  · rw [if_pos hb]
    refine ⟨h.nb, h.sz, h.ca, fun k hk => ?_, h.fu, h.of_⟩
    show K.updF S.med b.toNat none k = _
    unfold K.updF
    by_cases e : k = b.toNat
    · rw [if_pos e, if_pos (by omega)]
    · rw [if_neg e, if_neg (by omega)]
      exact h.md k hk
  · rw [if_neg hb]
    refine ⟨h.nb, h.sz, h.ca, fun k hk => ?_, h.fu, h.of_⟩
    rw [if_neg (by rw [h.nb] at hb; omega)]
    exact h.md k hk
theorem DI.crash {S : K.St} {m s : Nat} {E : Nat → Option (List Nat)} (h : DI S m s E) (p : List Nat) : DI (S.crash p) m s E := by
  refine ⟨h.nb, h.sz, fun k => rfl, fun k hk => ?_, rfl, rfl⟩
  show (if 0 < K.keptN p k (S.cache k).length then _ else S.med k) = _
  have := K.keptN_le p k (S.cache k).length
  rw [h.ca k] at this ⊢
  rw [if_neg (by simp at this ⊢; omega)]
  exact h.md k hk
theorem DI.val {S : K.St} {m s : Nat} {E : Nat → Option (List Nat)} (h : DI S m s E) {k : Nat} (hk : k < m) : S.val k = E k := by
  unfold K.St.val
  rw [h.ca k]
  exact h.md k hk
theorem DI.rerr {S : K.St} {m s : Nat} {E : Nat → Option (List Nat)} (h : DI S m s E) {k : Nat} (hk : k < m) : S.readErr (k : Int) = (if E k = none then 21 else 0) := by
  unfold K.St.readErr
  rw [if_neg (by rw [h.nb]; simp; omega), if_neg (by rw [h.of_]; decide)]
  simp only [Int.toNat_natCast, h.val hk]
theorem DI.read {S : K.St} {m s : Nat} {E : Nat → Option (List Nat)} (h : DI S m s E) (b : Int) : DI (S.read b) m s E := by
  unfold K.St.read
  split
  · exact ⟨h.nb, h.sz, h.ca, h.md, h.fu, h.of_⟩
  · exact h
theorem DI.congr {S : K.St} {m s : Nat} {E E' : Nat → Option (List Nat)} (h : DI S m s E) (he : ∀ k, k < m → E k = E' k) : DI S m s E' := ⟨h.nb, h.sz, h.ca, fun k hk => (h.md k hk).trans (he k hk), h.fu, h.of_⟩
end Go.Proofs.Ytepgiomgkgfioaa
namespace Go.Proofs.Ytepgiomgkgfioaa
open Go.ChangeShapes Go.WideShapes Go.ChangeAt Go.RowKit
open Num
set_option linter.unusedVariables false
set_option maxRecDepth 20000

theorem place_lt {H : Type} {enc : TypeId × Value → H} {W : World} {t : TypeId} {v : Value} {d : DataW H} {p : List MemPlace} (h1 : DataW.Trod enc Try.prog W 0 (fun _ => true) true t v d p) : ∀ x ∈ p, x.block < W.heap.size := by
  obtain ⟨m, hm⟩ := h1; exact DataW.trod_lt m _ _ _ hm
/-- a list of ints that came in -/
theorem open_intl {H : Type} {enc : TypeId × Value → H} {W : World} {base : Nat} {v : Value} {d : DataW H} {p : List MemPlace}
    (hok : Value.okWide Try.prog W .any base 22 v) (h1 : DataW.Trod enc Try.prog W 0 (fun _ => true) true 22 v d p) : ∃ zs : List Int, ISl W v zs := by
  obtain ⟨a1, len1, cap1, rfl⟩ := okWide_slice Try.underlying22 hok
  obtain ⟨fuel, hf⟩ := h1
  rcases open_ints Try.underlying22 Try.underlying3 (by kernel_rfl) hf with ⟨hcs, _⟩ | ⟨x, l, c, zs, hcs, _, hl, hm, hz, hx, hcell, hwz⟩
  · simp [Value.cells] at hcs
    obtain ⟨rfl, rfl, rfl⟩ := hcs
    exact ⟨[], none, 0, rfl, Nat.le_refl _, by unfold maxLen; omega, by simp, by simp⟩
  · simp [Value.cells] at hcs
    obtain ⟨rfl, rfl, rfl⟩ := hcs
    simp only [if_true] at hz
    have hlen : (zs.take len1).length = len1 := by simp; omega
    refine ⟨zs.take len1, _, cap1, by rw [hlen], by omega, hm, fun z hz' => ?_, fun hp => ?_⟩
    · have := bounds_i64 (hwz z (List.mem_of_mem_take hz'))
      omega
    · obtain ⟨b, off, rfl, hc⟩ := ints_at hcell (by omega)
      refine ⟨b, off, rfl, fun i hi => ?_⟩
      rw [hc i (by omega)]
      have hi2 : i < len1 := by omega
      simp [List.getD, hi2]
theorem again_ints {H : Type} {enc : TypeId × Value → H} {W W' : World} {v : Value} {d : DataW H} {p : List MemPlace} (h1 : DataW.Trod enc Try.prog W 0 (fun _ => true) true 22 v d p) (bel : Below W.heap.size W W') :
    DataW.Trod enc Try.prog W' 0 (fun b => decide (b < W.heap.size)) true 22 v d p := Below.trod laidOut (by kernel_rfl) (of_decide_eq_true (by kernel_rfl)) h1 bel (place_lt h1)
theorem again_bytes {H : Type} {enc : TypeId × Value → H} {W W' : World} {v : Value} {d : DataW H} {p : List MemPlace} (h1 : DataW.Trod enc Try.prog W 0 (fun _ => true) true 23 v d p) (bel : Below W.heap.size W W') :
    DataW.Trod enc Try.prog W' 0 (fun b => decide (b < W.heap.size)) true 23 v d p := Below.trod laidOut (by kernel_rfl) (of_decide_eq_true (by kernel_rfl)) h1 bel (place_lt h1)
/-- a list of bytes that came in -/
theorem open_bytes {H : Type} {enc : TypeId × Value → H} {W : World} {base : Nat} {v : Value} {d : DataW H} {p : List MemPlace}
    (hok : Value.okWide Try.prog W .any base 23 v) (h1 : DataW.Trod enc Try.prog W 0 (fun _ => true) true 23 v d p) : ∃ l : List Nat, BSl W v l := by
  obtain ⟨a1, len1, cap1, rfl⟩ := okWide_slice Try.underlying23 hok
  obtain ⟨fuel, hf⟩ := h1
  rcases open_ints Try.underlying23 Try.underlying5 (by kernel_rfl) hf with ⟨hcs, _⟩ | ⟨x, l, c, zs, hcs, _, hl, hm, hz, hx, hcell, hwz⟩
  · simp [Value.cells] at hcs
    obtain ⟨rfl, rfl, rfl⟩ := hcs
    exact ⟨[], none, 0, rfl, Nat.le_refl _, by unfold maxLen; omega, fun _ => rfl, by simp, by simp⟩
  · simp [Value.cells] at hcs
    obtain ⟨rfl, rfl, rfl⟩ := hcs
    simp only [if_true] at hz
    have hlen : ((zs.take len1).map Int.toNat).length = len1 := by simp; omega
    refine ⟨(zs.take len1).map Int.toNat, _, cap1, by rw [hlen], by omega, hm, by simp, fun b hb => ?_, fun hp => ?_⟩
    · obtain ⟨n, hn, rfl⟩ := List.mem_map.1 hb
      have := bounds_u8 (hwz n (List.mem_of_mem_take hn))
      omega
    · obtain ⟨b, off, rfl, hc⟩ := ints_at hcell (by omega)
      refine ⟨b, off, rfl, fun i hi => ?_⟩
      rw [hc i (by omega)]
      have hi' : i < zs.length := by omega
      have hb := bounds_u8 (hwz zs[i] (List.getElem_mem hi'))
      have hi2 : i < len1 := by omega
      have e2 : ((zs.take len1).map Int.toNat).getD i 0 = zs[i].toNat := by
        simp [List.getD, hi', hi2]
      have e3 : zs.getD i 0 = zs[i] := by simp [List.getD, hi']
      rw [e2, e3, Int.toNat_of_nonneg hb.1]
end Go.Proofs.Ytepgiomgkgfioaa
namespace Go.Proofs.Ytepgiomgkgfioaa
open Go.RowKit
set_option linter.unusedVariables false
set_option linter.unusedSimpArgs false
set_option maxRecDepth 20000

/-- the law in its run, behind disk.New: w1 the world ahead of it -/
structure NX (w1 wr : World) (L : K.Lay) (S : K.St) : Prop where
  be : Below w1.heap.size w1 wr
  rp : K.Rep wr L S
  lu : ∀ b, L.U b → w1.heap.size ≤ b
section
variable {w1 wr y : World} {L : K.Lay} {S S' : K.St}
theorem NX.grow {U' : Nat → Prop} (h : NX w1 wr L S) (hR : K.Rep y { L with U := U' } S') (hg : K.Grow wr y L.U U') : NX w1 y { L with U := U' } S' := by
  have hs := h.be.size
  refine ⟨h.be.trans ⟨hg.os, hg.tape, hg.output, hg.size, fun k hk => hg.keep k (by omega) fun e => by have := h.lu k e; omega⟩, hR, fun b e => ?_⟩
  by_cases hb : b < wr.heap.size
  · exact h.lu b (hg.new b hb e)
  · omega
theorem NX.below (h : NX w1 wr L S) (hb : Below wr.heap.size wr y) : NX w1 y L S := ⟨h.be.trans (hb.mono h.be.size), h.rp.below hb, h.lu⟩
/-- what NX keeps where one block, none of the disk's and new since w1, has turned -/
theorem NX.one (h : NX w1 wr L S) (ho : y.os = wr.os ∧ y.tape = wr.tape ∧ y.output = wr.output) (hs : wr.heap.size ≤ y.heap.size) {o : Option Nat} (hk : ∀ b, b < wr.heap.size → o ≠ some b → y.heap[b]? = wr.heap[b]?) (hn : ∀ g, o = some g → w1.heap.size ≤ g ∧ ¬ L.U g) : NX w1 y L S := by
  have h0 := h.be.size
  refine ⟨h.be.trans ⟨ho.1, ho.2.1, ho.2.2, hs, fun k hkk => hk k (by omega) fun e => by have := (hn k e).1; omega⟩, h.rp.kept (fun b e => hk b (h.rp.uLt b e) fun e2 => (hn b e2).2 e) hs, h.lu⟩
end
theorem BSl.keptB {w w' : World} {v : Value} {l : List Nat} (h : BSl w v l) (hk : ∀ g, v.ownBlock = some g → w'.heap[g]? = w.heap[g]?) : BSl w' v l := by
  obtain ⟨a, cap, rfl, h1, h2, h3, h4, h5⟩ := h
  refine ⟨a, cap, rfl, h1, h2, h3, h4, fun hp => ?_⟩
  obtain ⟨b, off, rfl, hc⟩ := h5 hp
  refine ⟨b, off, rfl, fun i hi => ?_⟩
  rw [← hc i hi]
  exact World.cell?_of_block (hk b rfl)
/-- the lists that the law makes: gone (gv, xs), back (bv, bs); es: the bytes that were read -/
structure NR (w1 wr : World) (L : K.Lay) (S : K.St) (gv bv : Value) (xs bs : List Value) (es : List (Value × List Nat)) : Prop where
  nx : NX w1 wr L S
  gr : wr.ownsRow 0 4 1 gv xs.length xs
  br : wr.ownsRow 0 23 1 bv bs.length bs
  go : ∀ g, gv.ownBlock = some g → w1.heap.size ≤ g ∧ ¬ L.U g
  bo : ∀ g, bv.ownBlock = some g → w1.heap.size ≤ g ∧ ¬ L.U g
  ne : ∀ g, gv.ownBlock = some g → bv.ownBlock ≠ some g
  el : ∀ e ∈ es, BSl wr e.1 e.2 ∧ ∀ g, e.1.ownBlock = some g → g < wr.heap.size ∧ ¬ L.U g ∧ gv.ownBlock ≠ some g ∧ bv.ownBlock ≠ some g
section
variable {w1 wr y : World} {L : K.Lay} {S S' : K.St} {gv bv gv' bv' : Value} {xs bs : List Value} {es : List (Value × List Nat)}
theorem NR.start (h : NX w1 wr L S) : NR w1 wr L S (.slice none 0 0) (.slice none 0 0) [] [] [] :=
  ⟨h, ⟨rfl, .inl ⟨rfl, rfl⟩⟩, ⟨rfl, .inl ⟨rfl, rfl⟩⟩, fun g e => by simp [Value.ownBlock] at e, fun g e => by simp [Value.ownBlock] at e, fun g e => by simp [Value.ownBlock] at e, fun e he => by simp at he⟩
theorem NR.grow (h : NR w1 wr L S gv bv xs bs es) (hR : K.Rep y L S') (hg : K.Grow wr y L.U L.U) : NR w1 y L S' gv bv xs bs es :=
  ⟨h.nx.grow (U' := L.U) hR hg, mrowKept h.gr fun g e => hg.keep g (h.gr.lt g e).2 (h.go g e).2, mrowKept h.br fun g e => hg.keep g (h.br.lt g e).2 (h.bo g e).2, h.go, h.bo, h.ne,
    fun e he => ⟨(h.el e he).1.keptB fun g e2 => hg.keep g ((h.el e he).2 g e2).1 ((h.el e he).2 g e2).2.1, fun g e2 => ⟨Nat.lt_of_lt_of_le ((h.el e he).2 g e2).1 hg.size, ((h.el e he).2 g e2).2⟩⟩⟩
theorem NR.below (h : NR w1 wr L S gv bv xs bs es) (hb : Below wr.heap.size wr y) : NR w1 y L S gv bv xs bs es :=
  ⟨h.nx.below hb, mrowKept h.gr fun g e => hb.block g (h.gr.lt g e).2, mrowKept h.br fun g e => hb.block g (h.br.lt g e).2, h.go, h.bo, h.ne,
    fun e he => ⟨(h.el e he).1.keptB fun g e2 => hb.block g ((h.el e he).2 g e2).1, fun g e2 => ⟨Nat.lt_of_lt_of_le ((h.el e he).2 g e2).1 hb.size, ((h.el e he).2 g e2).2⟩⟩⟩
theorem NR.alloc (h : NR w1 wr L S gv bv xs bs es) (o : Obj) : NR w1 (wr.alloc o) L S gv bv xs bs es := h.below ((Below.refl _ _).alloc (Nat.le_refl _) o)
/-- more bytes that were read -/
theorem NR.more (h : NR w1 wr L S gv bv xs bs es) {v : Value} {l : List Nat} (hv : BSl wr v l) (hn : ∀ g, v.ownBlock = some g → g < wr.heap.size ∧ ¬ L.U g ∧ gv.ownBlock ≠ some g ∧ bv.ownBlock ≠ some g) : NR w1 wr L S gv bv xs bs (es ++ [(v, l)]) :=
  ⟨h.nx, h.gr, h.br, h.go, h.bo, h.ne, fun e he => by
    rcases List.mem_append.1 he with he | he
    · exact h.el e he
    · simp only [List.mem_singleton] at he; subst he; exact ⟨hv, hn⟩⟩
theorem NR.pushG {x : Value} (h : NR w1 wr L S gv bv xs bs es) (y1 : y.ownsRow 0 4 1 gv' (xs.length + 1) (xs ++ [x])) (y2 : Upon wr y gv gv') : NR w1 y L S gv' bv (xs ++ [x]) bs es := by
  have hw := h.nx.be.size
  have hU : ∀ b, L.U b → b < wr.heap.size := fun b => h.nx.rp.uLt b
  refine ⟨h.nx.one y2.same y2.size (o := gv.ownBlock) y2.block h.go, by rw [List.length_append]; exact y1, mrowKept h.br fun g e => y2.block g (h.br.lt g e).2 fun e2 => h.ne g e2 e, fun g e => ?_, h.bo, fun g e => ?_, fun e he => ?_⟩
  · rcases y2.loc g e with e1 | e1
    · exact h.go g e1
    · exact ⟨by omega, fun hu => by have := hU g hu; omega⟩
  · rcases y2.loc g e with e1 | e1
    · exact h.ne g e1
    · exact fun e2 => by have := (h.br.lt g e2).2; omega
  · obtain ⟨q1, q2⟩ := h.el e he
    refine ⟨q1.keptB fun g e2 => y2.block g (q2 g e2).1 (q2 g e2).2.2.1, fun g e2 => ?_⟩
    obtain ⟨p1, p2, p3, p4⟩ := q2 g e2
    refine ⟨Nat.lt_of_lt_of_le p1 y2.size, p2, fun e3 => ?_, p4⟩
    rcases y2.loc g e3 with e4 | e4
    · exact p3 e4
    · omega
theorem NR.pushB {x : Value} (h : NR w1 wr L S gv bv xs bs es) (y1 : y.ownsRow 0 23 1 bv' (bs.length + 1) (bs ++ [x])) (y2 : Upon wr y bv bv') : NR w1 y L S gv bv' xs (bs ++ [x]) es := by
  have hw := h.nx.be.size
  have hU : ∀ b, L.U b → b < wr.heap.size := fun b => h.nx.rp.uLt b
  refine ⟨h.nx.one y2.same y2.size (o := bv.ownBlock) y2.block h.bo, mrowKept h.gr fun g e => y2.block g (h.gr.lt g e).2 fun e2 => h.ne g e e2, by rw [List.length_append]; exact y1, h.go, fun g e => ?_, fun g e e3 => ?_, fun e he => ?_⟩
  · rcases y2.loc g e with e1 | e1
    · exact h.bo g e1
    · exact ⟨by omega, fun hu => by have := hU g hu; omega⟩
  · rcases y2.loc g e3 with e1 | e1
    · exact h.ne g e e1
    · have := (h.gr.lt g e).2; omega
  · obtain ⟨q1, q2⟩ := h.el e he
    refine ⟨q1.keptB fun g e2 => y2.block g (q2 g e2).1 (q2 g e2).2.2.2, fun g e2 => ?_⟩
    obtain ⟨p1, p2, p3, p4⟩ := q2 g e2
    refine ⟨Nat.lt_of_lt_of_le p1 y2.size, p2, p3, fun e3 => ?_⟩
    rcases y2.loc g e3 with e4 | e4
    · exact p4 e4
    · omega
end
/-- bytes, or none -/
def oL (o : Option (List Nat)) : List Nat := o.getD []
/-- what Read leaves of the law's run -/
def NRead (w1 : World) (L : K.Lay) (m s : Nat) (E : Nat → Option (List Nat)) (gv bv : Value) (xs bs : List Value) (es : List (Value × List Nat)) (k : Nat) (e : Ending) (y : World) : Prop :=
  ∃ v u S', e = .returned (.tuple #[v, u]) ∧ ((E k = none ∧ ∃ g, u = K.errV g) ∨ (E k ≠ none ∧ u = .nilIface)) ∧ NR w1 y L S' gv bv xs bs (es ++ [(v, oL (E k))]) ∧ DI S' m s E
theorem read_nr {w1 wr : World} {L : K.Lay} {S : K.St} {m s : Nat} {E : Nat → Option (List Nat)} {gv bv : Value} {xs bs : List Value} {es : List (Value × List Nat)} (h : NR w1 wr L S gv bv xs bs es) (hd : DI S m s E) {k : Nat} (hk : k < m) :
    Calls Try.prog 13 #[.pointer (some ⟨L.p, 0, none⟩), .int .i64 (k : Int)] wr fun e y => NRead w1 L m s E gv bv xs bs es k e y := by
  refine (K.Read_any h.nx.rp (k : Int)).mono ?_
  rintro e y ⟨v, u, rfl, he, h1, h2, hr, hg⟩
  have hre := hd.rerr hk
  have hv := hd.val hk
  rw [Int.toNat_natCast, hv] at h1
  have hn := h.grow hr hg
  refine ⟨v, u, S.read (k : Int), rfl, ?_, ?_, hd.read _⟩
  · rw [hre] at he
    by_cases hE : E k = none
    · rw [if_pos hE] at he
      rcases he with ⟨e0, -⟩ | ⟨-, g, e1, -⟩
      · exact absurd e0 (by decide)
      · exact .inl ⟨hE, g, e1⟩
    · rw [if_neg hE] at he
      rcases he with ⟨-, e1⟩ | ⟨e0, -⟩
      · exact .inr ⟨hE, e1⟩
      · exact absurd rfl e0
  · cases hE : E k with
    | none =>
      rw [hre, if_pos hE] at h2
      obtain rfl := h2 (by decide)
      exact hn.more ⟨none, 0, rfl, Nat.le_refl _, by unfold maxLen; omega, fun _ => rfl, by simp [oL], fun e => by simp [oL] at e⟩ fun g e => by simp [Value.ownBlock, K.nilS] at e
    | some l =>
      rw [hre, if_neg (by simp [hE])] at h1
      obtain ⟨l', e', g, rfl, hgl, hp, hu⟩ := h1 rfl
      rw [hE] at e'
      obtain rfl := Option.some.inj e'
      refine hn.more hp.bsl fun g' e => ?_
      simp [Value.ownBlock] at e
      subst e
      exact ⟨(Array.getElem?_eq_some_iff.1 hp.1).1, hu, fun e2 => by have := (h.gr.lt _ e2).2; omega, fun e2 => by have := (h.br.lt _ e2).2; omega⟩
theorem spoil_nx {w1 wr : World} {L : K.Lay} {S : K.St} {m s : Nat} {E : Nat → Option (List Nat)} (h : NX w1 wr L S) (hd : DI S m s E) (b : Int) :
    Calls Try.prog 11 #[.pointer (some ⟨L.p, 0, none⟩), .int .i64 b] wr fun e y => ∃ u U' S', e = .returned u ∧ NX w1 y { L with U := U' } S' ∧ DI S' m s (fun k => if (k : Int) = b then none else E k) := by
  refine (K.Spoil_any h.rp b).mono ?_
  rintro e y ⟨u, U', rfl, herr, hr, hg⟩
  exact ⟨u, U', _, rfl, h.grow hr hg, hd.spoil b⟩
theorem through_nx {w1 wr : World} {L : K.Lay} {S : K.St} {m s : Nat} {E : Nat → Option (List Nat)} (h : NX w1 wr L S) (hd : DI S m s E) {i : Nat} (hi : i < m) {v : Value} {l : List Nat} (hv : K.BSl wr v l) (hl : l.length = s) :
    Calls Try.prog 10 #[.pointer (some ⟨L.p, 0, none⟩), .int .i64 (i : Int), v] wr fun e y => e = .returned .nilIface ∧ ∃ U' S', NX w1 y { L with U := U' } S' ∧ DI S' m s (fun k => if k = i then some l else E k) := by
  refine (K.Through_any h.rp (i : Int) v hv).mono ?_
  rintro e y ⟨u, U', rfl, herr, hr, hg⟩
  obtain ⟨p1, p2⟩ := hd.through hi hl
  rw [p1] at herr
  rcases herr with ⟨-, rfl⟩ | ⟨e0, -⟩
  · exact ⟨rfl, U', _, h.grow hr hg, p2⟩
  · exact absurd rfl e0
theorem crash_nx {w w1 wr : World} {L : K.Lay} {S : K.St} {m s : Nat} {E : Nat → Option (List Nat)} (h : NX w1 wr L S) (hd : DI S m s E) (hw : Below w.heap.size w w1) {pv : Value} {ps : List Nat} (hp : BSl w pv ps) :
    Calls Try.prog 12 #[.pointer (some ⟨L.p, 0, none⟩), pv] wr fun e y => e = .returned (.tuple #[]) ∧ ∃ S', NX w1 y L S' ∧ DI S' m s E := by
  have hs := hw.size
  have hv : K.BSl wr pv ps := hp.below (hw.trans (h.be.mono hs))
  refine (K.Crash_any h.rp hv (fun hpl g e => ?_) (fun k => by rw [hd.ca k]; decide)).mono ?_
  · intro hu
    have := h.lu g hu
    obtain ⟨a, cap, rfl, -, -, -, -, h5⟩ := hp
    obtain ⟨b, off, rfl, hc⟩ := h5 hpl
    have hlt : b < w.heap.size := World.block_lt_of_cell? w _ (hc 0 hpl)
    simp [K.blockOf] at e
    subst e
    omega
  · rintro e y ⟨rfl, hr, hg⟩
    exact ⟨rfl, _, h.grow (U' := L.U) hr hg, hd.crash ps⟩
/-- a block of those that Pack made -/
theorem PB.bslK {w : World} {O m s k : Nat} {ws : List Nat} (h : PB w O m s (bkT ws s (ws.length * 8))) (hk : k < m) (hs : s ≤ 1024) : K.BSl w (.slice (some ⟨O + 1 + k, 0, none⟩) s s) (bkT ws s (ws.length * 8) k) := by
  have hl := bkT_len ws s (ws.length * 8) k
  refine ⟨some ⟨O + 1 + k, 0, none⟩, s, by rw [hl], by rw [hl]; exact Nat.le_refl _, by unfold maxLen; omega, by simp, fun x hx => ?_, fun _ => ⟨O + 1 + k, 0, rfl, fun i hi => ?_⟩⟩
  · unfold bkT at hx
    obtain ⟨r, -, rfl⟩ := List.mem_map.1 hx
    split
    · unfold pb; exact Nat.mod_lt _ (by decide)
    · decide
  · rw [Nat.zero_add, cell_of_row _ _ _ _ _ _ (h.blk k hk)]
    rw [hl] at hi
    generalize bkT ws s (ws.length * 8) k = l at *
    simp [byteV, List.getD, show i < l.length by omega]
end Go.Proofs.Ytepgiomgkgfioaa
namespace Go.Proofs.Ytepgiomgkgfioaa
open Go.RowKit
set_option linter.unusedVariables false
set_option linter.unusedSimpArgs false
set_option maxRecDepth 20000

theorem info_bool : (Try.prog.info? 4).map (fun i => (i.zero, i.size, i.bytes)) = some (some (.bool false), 1, 1) := by kernel_rfl
theorem info_bytes : (Try.prog.info? 23).map (fun i => (i.zero, i.size, i.bytes)) = some (some (.slice none 0 0), 1, 24) := by kernel_rfl
def E3 (f : Nat → List Nat) (G : Nat → Bool) (k : Nat) : Option (List Nat) := if G k = true then none else some (f k)
def gL (G : Nat → Bool) (j : Nat) : List Value := (List.range j).map fun k => .bool (G k)
theorem gL_len (G : Nat → Bool) (j : Nat) : (gL G j).length = j := by simp [gL]
theorem gL_succ (G : Nat → Bool) (j : Nat) : gL G (j + 1) = gL G j ++ [.bool (G j)] := by simp [gL, List.range_succ]
def bL (ws : List Nat) (s : Nat) (G : Nat → Bool) (j : Nat) : List (List Nat) := (List.range j).map (bkG ws s G)
theorem bL_succ (ws : List Nat) (s : Nat) (G : Nat → Bool) (j : Nat) : bL ws s G (j + 1) = bL ws s G j ++ [bkG ws s G j] := by simp [bL, List.range_succ]
theorem oL_E3 (ws : List Nat) (s : Nat) (G : Nat → Bool) (k : Nat) : oL (E3 (bkT ws s (ws.length * 8)) G k) = bkG ws s G k := by
  unfold oL E3 bkG
  split <;> rfl
/-- j blocks are read -/
def N4 (w1 wr : World) (L0 : K.Lay) (m s : Nat) (ws : List Nat) (G : Nat → Bool) (gv bv : Value) (j : Nat) : Prop := ∃ U S es, NR w1 wr { L0 with U := U } S gv bv (gL G j) (es.map Prod.fst) es ∧ es.map Prod.snd = bL ws s G j ∧ DI S m s (E3 (bkT ws s (ws.length * 8)) G)
/-- .. and v too, of which the list gone has i -/
def N5 (w1 wr : World) (L0 : K.Lay) (m s : Nat) (ws : List Nat) (G : Nat → Bool) (gv bv : Value) (i j : Nat) (v : Value) : Prop := ∃ U S es, NR w1 wr { L0 with U := U } S gv bv (gL G i) (es.map Prod.fst) (es ++ [(v, bkG ws s G j)]) ∧ es.map Prod.snd = bL ws s G j ∧ DI S m s (E3 (bkT ws s (ws.length * 8)) G)
section
variable {w1 wr y : World} {L0 : K.Lay} {m s : Nat} {ws : List Nat} {G : Nat → Bool} {gv bv gv' bv' : Value} {i j : Nat} {v : Value}
theorem N4.be (h : N4 w1 wr L0 m s ws G gv bv j) : Below w1.heap.size w1 wr := by obtain ⟨U, S, es, h1, -⟩ := h; exact h1.nx.be
theorem N4.grow (h : N4 w1 wr L0 m s ws G gv bv j) : wr.ownsRow 0 4 1 gv j (gL G j) := by obtain ⟨U, S, es, h1, -⟩ := h; have := h1.gr; rwa [gL_len] at this
theorem N4.brow (h : N4 w1 wr L0 m s ws G gv bv j) : ∃ vs, wr.ownsRow 0 23 1 bv j vs := by
  obtain ⟨U, S, es, h1, h2, -⟩ := h
  have h3 := h1.br
  have h4 := congrArg List.length h2
  simp only [List.length_map, bL, List.length_range] at h3 h4
  rw [h4] at h3
  exact ⟨_, h3⟩
theorem N5.grow (h : N5 w1 wr L0 m s ws G gv bv i j v) : wr.ownsRow 0 4 1 gv i (gL G i) := by obtain ⟨U, S, es, h1, -⟩ := h; have := h1.gr; rwa [gL_len] at this
theorem N5.alloc (h : N5 w1 wr L0 m s ws G gv bv i j v) (o : Obj) : N5 w1 (wr.alloc o) L0 m s ws G gv bv i j v := by
  obtain ⟨U, S, es, h1, h2⟩ := h
  exact ⟨U, S, es, h1.alloc o, h2⟩
theorem N5.drew (h : N5 w1 wr L0 m s ws G gv bv i j v) : N5 w1 wr.drew L0 m s ws G gv bv i j v := by
  obtain ⟨U, S, es, h1, h2⟩ := h
  exact ⟨U, S, es, h1.below (Below.refl _ _).drew, h2⟩
theorem N4.drew (h : N4 w1 wr L0 m s ws G gv bv j) : N4 w1 wr.drew L0 m s ws G gv bv j := by
  obtain ⟨U, S, es, h1, h2⟩ := h
  exact ⟨U, S, es, h1.below (Below.refl _ _).drew, h2⟩
theorem N5.brow (h : N5 w1 wr L0 m s ws G gv bv i j v) : ∃ vs, wr.ownsRow 0 23 1 bv j vs ∧ ∀ y bv', y.ownsRow 0 23 1 bv' (j + 1) (vs ++ [v]) → Upon wr y bv bv' → i = j + 1 → N4 w1 y L0 m s ws G gv bv' (j + 1) := by
  obtain ⟨U, S, es, h1, h2, hd⟩ := h
  have h3 := h1.br
  have h4 := congrArg List.length h2
  simp only [List.length_map, bL, List.length_range] at h3 h4
  rw [h4] at h3
  refine ⟨_, h3, fun y bv' q1 q2 hi => ?_⟩
  subst hi
  refine ⟨U, S, es ++ [(v, bkG ws s G j)], ?_, by rw [List.map_append, h2, bL_succ]; rfl, hd⟩
  rw [List.map_append]
  exact h1.pushB (x := v) (by rw [List.length_map, h4]; exact q1) q2
theorem N5.pushG (h : N5 w1 wr L0 m s ws G gv bv j j v) (q1 : y.ownsRow 0 4 1 gv' (j + 1) (gL G j ++ [.bool (G j)])) (q2 : Upon wr y gv gv') : N5 w1 y L0 m s ws G gv' bv (j + 1) j v := by
  obtain ⟨U, S, es, h1, h2⟩ := h
  refine ⟨U, S, es, ?_, h2⟩
  rw [gL_succ]
  exact h1.pushG (by rw [gL_len]; exact q1) q2
theorem N5.shape (h : N5 w1 wr L0 m s ws G gv bv i j v) : ∃ a n c, v = .slice a n c := by
  obtain ⟨U, S, es, h1, -⟩ := h
  obtain ⟨⟨a, cap, e, -⟩, -⟩ := h1.el (v, bkG ws s G j) (by simp)
  exact ⟨a, _, cap, e⟩
theorem read_n4 (h : N4 w1 wr L0 m s ws G gv bv j) (hj : j < m) : Calls Try.prog 13 #[.pointer (some ⟨L0.p, 0, none⟩), .int .i64 (j : Int)] wr fun e y => ∃ v u, e = .returned (.tuple #[v, u]) ∧ ((G j = true ∧ ∃ g, u = K.errV g) ∨ (G j = false ∧ u = .nilIface)) ∧ N5 w1 y L0 m s ws G gv bv j j v := by
  obtain ⟨U, S, es, h1, h2, h3⟩ := h
  refine (read_nr h1 h3 hj).mono ?_
  rintro e y ⟨v, u, S', rfl, hu, q1, q2⟩
  rw [oL_E3] at q1
  refine ⟨v, u, rfl, ?_, U, S', es, q1, h2, q2⟩
  unfold E3 at hu
  rcases hu with ⟨e1, e2⟩ | ⟨e1, e2⟩
  · refine .inl ⟨?_, e2⟩
    cases hG : G j with
    | true => rfl
    | false => rw [hG, if_neg (by decide)] at e1; cases e1
  · refine .inr ⟨?_, e2⟩
    cases hG : G j with
    | false => rfl
    | true => rw [hG, if_pos rfl] at e1; exact absurd rfl e1
/-- what Unpack is handed -/
theorem N4.ub (h : N4 w1 wr L0 m s ws G gv bv m) (hm : 1 ≤ m) (hs : s ≤ 1024) : ∃ g cap, bv = .slice (some ⟨g, 0, none⟩) m cap ∧ UB wr g 0 m s (bkG ws s G) := by
  obtain ⟨U, S, es, h1, h2, -⟩ := h
  have h4 := congrArg List.length h2
  simp only [List.length_map, bL, List.length_range] at h4
  have hbr := h1.br
  rw [List.length_map, h4] at hbr
  have hbr2 := hbr
  rcases hbr.2 with ⟨_, e⟩ | ⟨g, cap, cur, rfl, _, hg, q1, q2, _⟩
  · omega
  · refine ⟨g, cap, rfl, fun k hk => ?_⟩
    have hke : k < es.length := by omega
    have hc := hbr2.cellAt (g := g) k (by omega)
    rw [List.getElem?_map, List.getElem?_eq_getElem hke] at hc
    have hl : (es[k]).2 = bkG ws s G k := by
      have h5 := congrArg (fun l => l[k]?) h2
      simp only [List.getElem?_map, List.getElem?_eq_getElem hke, bL, List.getElem?_range hk, Option.map_some, Option.some.injEq] at h5
      exact h5
    obtain ⟨⟨a, c, e, p1, p2, p3, p4, p5⟩, _⟩ := h1.el _ (List.getElem_mem hke)
    rw [hl] at e p1 p4 p5
    refine ⟨a, c, ?_, (hbr2.lt g rfl).2, p1, ?_, p4, fun h0 => ?_⟩
    · rw [Nat.zero_add, hc]
      simp only [Option.map_some]
      rw [e]
    · unfold bkG
      split
      · exact .inl rfl
      · exact .inr (bkT_len ws s _ k)
    · obtain ⟨b, off, ha, hc2⟩ := p5 h0
      exact ⟨b, off, ha, World.block_lt_of_cell? wr _ (hc2 0 h0), hc2⟩
theorem N4.gone (h : N4 w1 wr L0 m s ws G gv bv m) (hm : 1 ≤ m) : ∃ g cap, gv = .slice (some ⟨g, 0, none⟩) m cap ∧ m ≤ cap ∧ cap ≤ maxLen ∧ g < wr.heap.size ∧ ∀ k, k < m → wr.cell? ⟨g, k, none⟩ = some (.bool (G k)) := by
  have hg := h.grow
  have hg2 := hg
  rcases hg.2 with ⟨_, e⟩ | ⟨g, cap, cur, rfl, _, _, q1, q2, _⟩
  · omega
  · refine ⟨g, cap, rfl, q1, q2, (hg2.lt g rfl).2, fun k hk => ?_⟩
    rw [hg2.cellAt (g := g) k (by omega)]
    unfold gL
    rw [List.getElem?_map, List.getElem?_range hk]
    rfl
end
theorem cells_one (w : World) (x : Value) (t : TypeId) : ∀ j u, [x][j]? = some u → (w.alloc (.cells #[x] t)).cell? ((⟨w.heap.size, 0, none⟩ : Addr).add j) = some u := fun j u hu => by
  rw [Addr.add_lit, Nat.zero_add, cell_of_row _ _ _ _ _ _ (Go.heap_alloc_new w _)]
  simpa using hu
end Go.Proofs.Ytepgiomgkgfioaa
