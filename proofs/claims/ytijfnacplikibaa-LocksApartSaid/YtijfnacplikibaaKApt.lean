import Derived.Test.YtijfnacplikibaaKApM
import Derived.Test.YtijfnacplikibaaKDIs
namespace Go.Proofs.Ytijfnacplikibaa
open Go.RowKit
set_option linter.unusedVariables false
set_option linter.unusedSimpArgs false
set_option maxRecDepth 20000

theorem box_set {w w2 : World} {a b : Int} (h : Below (w.alloc (.cells #[.int .i64 a, .int .i64 b] 23)).heap.size (w.alloc (.cells #[.int .i64 a, .int .i64 b] 23)) w2) (z : Int) : Below w.heap.size w (w2.setCell ⟨w.heap.size, 1, none⟩ (.int .i64 z)) ∧ w.heap.size < w2.heap.size ∧ w2.frozen? ⟨w.heap.size, 1, none⟩ = false ∧ (w2.cell? ⟨w.heap.size, 0, none⟩ = some (.int .i64 a) ∧ w2.cell? ⟨w.heap.size, 1, none⟩ = some (.int .i64 b)) ∧ ∀ x, Below (w2.setCell ⟨w.heap.size, 1, none⟩ (.int .i64 z)).heap.size (w2.setCell ⟨w.heap.size, 1, none⟩ (.int .i64 z)) x → x.cell? ⟨w.heap.size, 0, none⟩ = some (.int .i64 a) ∧ x.cell? ⟨w.heap.size, 1, none⟩ = some (.int .i64 z) := by
  have hg : w2.heap[w.heap.size]? = some (.cells #[.int .i64 a, .int .i64 b] 23 (0, 0)) := (h.block _ (by simp)).trans (Go.heap_alloc_new w _)
  have hlt := (Array.getElem?_eq_some_iff.1 hg).1
  have hg2 : (w2.setCell ⟨w.heap.size, 1, none⟩ (.int .i64 z)).heap[w.heap.size]? = some (.cells #[.int .i64 a, .int .i64 z] 23 (0, 0)) := Go.heap_setCell_same w2 _ 1 _ 23 _ hg
  have hb0 : Below w.heap.size w w2 := ((Below.refl w.heap.size w).alloc (Nat.le_refl _) (.cells #[.int .i64 a, .int .i64 b] 23)).trans (h.mono (by simp))
  refine ⟨hb0.setCell (Nat.le_refl _) _, hlt, frozen_of_row _ _ _ _ 23 hg, ⟨by rw [cell_of_row _ _ _ _ _ _ hg]; rfl, by rw [cell_of_row _ _ _ _ _ _ hg]; rfl⟩, fun x hx => ?_⟩
  have hgx := (hx.block w.heap.size (by rw [World.size_setCell]; exact hlt)).trans hg2
  exact ⟨by rw [cell_of_row _ _ _ _ _ _ hgx]; rfl, by rw [cell_of_row _ _ _ _ _ _ hgx]; rfl⟩
theorem op_cells {x : World} {g : Nat} {k : Int} {s : Bool} {e m o : Int} (h : x.heap[g]? = some (.cells #[.int .i64 k, .bool s, .int .i64 e, .int .i64 m, .int .i64 o] 30 (0, 0))) : (x.cell? ⟨g, 0, none⟩ = some (.int .i64 k) ∧ x.cell? ⟨g, 1, none⟩ = some (.bool s)) ∧ x.cell? ⟨g, 2, none⟩ = some (.int .i64 e) ∧ x.cell? ⟨g, 3, none⟩ = some (.int .i64 m) ∧ x.cell? ⟨g, 4, none⟩ = some (.int .i64 o) :=
  ⟨⟨by rw [cell_of_row _ _ _ _ _ _ h]; rfl, by rw [cell_of_row _ _ _ _ _ _ h]; rfl⟩, by rw [cell_of_row _ _ _ _ _ _ h]; rfl, by rw [cell_of_row _ _ _ _ _ _ h]; rfl, by rw [cell_of_row _ _ _ _ _ _ h]; rfl⟩
section
variable {w x : World} {n : Nat} {ws : Int} {B : Nat} {pa ba : Nat} {Va : Nat → Value} {La : LL} {wta : Int} {pb bb : Nat} {Vb : Nat → Value} {Lb : LL} {wtb : Int}
theorem A2.acquireK (h : A2 w x n ws B pa ba Va La wta pb bb Vb Lb wtb) (hB : B ≤ 3900000000000) (e md o : Int) : Calls Try.prog 12 #[.pointer (some ⟨pa, 0, none⟩), .int .i64 e, .int .i64 md, .int .i64 o] x fun e' y => e' = .returned (.tuple #[.bool (acq n La ws wta e o md).gr, .int .i64 (acq n La ws wta e o md).err]) ∧ ∃ Va', A2 w y n ws (B + 1) pa ba Va' (acq n La ws wta e o md).L (acq n La ws wta e o md).wt pb bb Vb Lb wtb ∧ ∀ g, g < x.heap.size → ¬ TU pa ba n Va g → y.heap[g]? = x.heap[g]? := by
  refine (h.a.acquire (by omega) e md o).mono ?_
  rintro e' y ⟨rfl, V', hA, hTr⟩
  exact ⟨rfl, V', h.stepF hA (Nat.le_succ _) hTr, fun g h1 h2 => hTr.chg.keep g h1 fun hu => hu.elim h2 id⟩
theorem A2.releaseK (h : A2 w x n ws B pa ba Va La wta pb bb Vb Lb wtb) (hB : B ≤ 3900000000000) (e o : Int) : Calls Try.prog 16 #[.pointer (some ⟨pa, 0, none⟩), .int .i64 e, .int .i64 o] x fun e' y => ∃ v Va', e' = .returned (.tuple #[v, .int .i64 (rls n La wta e o).err]) ∧ A2 w y n ws B pa ba Va' (rls n La wta e o).L (rls n La wta e o).wt pb bb Vb Lb wtb ∧ (∀ g, g < x.heap.size → ¬ TU pa ba n Va g → y.heap[g]? = x.heap[g]?) ∧ IRow y v (rls n La wta e o).inn ∧ (∀ u l, IRow x u l → IRow y u l) := by
  refine (h.a.release hB e o).mono ?_
  rintro e' y ⟨v, V', rfl, hA, hTr, hI, hN⟩
  exact ⟨v, V', rfl, h.stepF hA (Nat.le_refl _) hTr, fun g h1 h2 => hTr.chg.keep g h1 fun hu => hu.elim h2 id, hI, fun u l hu => h.a.irow hu hTr⟩
end
set_option maxHeartbeats 4000000 in
theorem apart_law (w : World) (a b e : Int) (v : Value) (os : List OpV) (hv : OSl w v os) (hl : os.length ≤ 3518437208883) : Calls Try.prog 4 #[.agg #[.int .i64 a, .int .i64 b], v, .int .i64 e] w fun e' w' => e' = .returned (.bool true) ∧ Below w.heap.size w w' := by
  have HB0 := hide ((Below.refl w.heap.size w).alloc (Nat.le_refl _) (.cells #[.int .i64 a, .int .i64 b] 23))
  have HM := hide fun x => may_any x a b
  have HC0 := hide (box_at (w := w) (a := a) (b := b))
  obtain ⟨av, cv, rfl, hv1, hv2, hv3⟩ := hv
  unfold maxLen at hv2
  cases hk : okN a b with
  | false =>
    rw [hk] at HM
    clear hv3
    go_enter Try.func4, Try.ntmps4
    go_wp2_with (go_at_call 9; refine (HM.out _).mono ?_; rintro e' w2 ⟨rfl, hb2⟩; have HB2 := hide (HB0.out.trans (hb2.mono (by simp))); clear HM hb2)
    go_ret
    exact ⟨rfl, HB2.out⟩
  | true =>
    rw [hk] at HM
    obtain ⟨h1, h2, h3, h4⟩ := okN_yes hk
    obtain ⟨n, rfl⟩ : ∃ n : Nat, a = (n : Int) := ⟨a.toNat, by omega⟩
    by_cases hgo : 0 ≤ e ∧ e < (n : Int) ∧ os.length ≤ 512
    · obtain ⟨ex, rfl⟩ : ∃ ex : Nat, e = (ex : Int) := ⟨e.toNat, by omega⟩
      have hk2 : okN n 512 = true := by simp [okN]; omega
      have HTB := hide fun x => table_any x n 512 hk2
      have HOS0 := hide fun (w1 : World) (h : Below w.heap.size w w1) => ops_at h hv3
      have hex : ex < n := by omega
      have hN512 : os.length ≤ 512 := hgo.2.2
      have hx0 : ¬ (ex : Int) < 0 := by omega
      have hx1 : ¬ (n : Int) ≤ (ex : Int) := by omega
      have hx2 : ¬ (512 : Int) < (os.length : Int) := by omega
      clear hv3 hk hk2 hgo
      generalize hN : os.length = N at *
      clear hN
      go_enter Try.func4, Try.ntmps4
      go_wp2_with (go_at_call 9; refine (HM.out _).mono ?_; rintro e' w2 ⟨rfl, hb2⟩; have HBS := hide (box_set hb2 512); obtain ⟨-, -, fz, ⟨c0, c1⟩, -⟩ := HBS.out; clear HM hb2)
      obtain ⟨hb1, -, -, -, hbx⟩ := HBS.out
      have HB1 := hide hb1
      have HCX := hide hbx
      clear HB0 HC0 HBS hb1 hbx
      generalize w2.setCell ⟨w.heap.size, 1, none⟩ (.int .i64 512) = w1 at *
      have HOS := hide (HOS0.out w1 HB1.out)
      have HW5 : Hid ((0 : Int) ≤ 512 ∧ (512 : Int) ≤ 512) := hide ⟨by omega, by omega⟩
      obtain ⟨x0, x1⟩ := HCX.out w1 (Below.refl _ _)
      clear HOS0
      go_wp2_with (first
        | (go_at_call 10; refine (HTB.out w1).mono ?_; rintro e' w3 ⟨p, bb, rfl, hT3, hb3, hp3, hbb3⟩; have HAS := hide (as_new (w := w1) hT3 hb3 hp3 hbb3 HW5.out); obtain ⟨x2, x3⟩ := HCX.out _ HAS.out.bel; clear hT3 hb3 hp3 hbb3)
        | (go_at_call 10; refine (HTB.out w3).mono ?_; rintro e' w4 ⟨q, cc, rfl, hT4, hb4, hp4, hbb4⟩; have HA2 := hide (a2_new HAS.out hT4 hb4 hp4 hbb4); clear HTB hT4 hb4 hp4 hbb4 HAS))
      go_loopw [10] (fun x wr => ∃ (i : Nat) (Va Vb : Nat → Value) (La Lb : LL) (wa wb : Int), i ≤ N ∧ x = .int .i64 (i : Int) ∧ A2 w1 wr n 512 i p bb Va La wa q cc Vb Lb wb ∧ Ag La Lb ex ∧ Few i La wa ∧ Few i Lb wb) (fun x _ => N - (intOf x).toNat)
      case atStart => exact ⟨0, _, _, _, _, _, _, Nat.zero_le _, rfl, HA2.out, ⟨rfl, rfl⟩, ⟨fun _ => ⟨rfl, rfl⟩, .inr rfl⟩, ⟨fun _ => ⟨rfl, rfl⟩, .inr rfl⟩⟩
      case round =>
        obtain ⟨i, Va, Vb, La, Lb, wa, wb, hi, rfl, hA, hag, hfa, hfb⟩ := hrel
        have HA := hide hA
        have HAG := hide hag
        have HFA := hide hfa
        have HFB := hide hfb
        clear hA HA2 hag hfa hfb
        by_cases hlt : i < N
        · obtain ⟨g, off, rfl, ⟨e0, e1⟩, e2, e3, e4⟩ := HOS.out _ HA.out.a.bel i hlt
          generalize os.getD i default = s at *
          obtain ⟨kind, snd, ee, md, oo⟩ := s
          dsimp only at e0 e1 e2 e3 e4
          have hii : 0 ≤ (i : Int) ∧ (i : Int) < (N : Int) := ⟨by omega, by omega⟩
          have hb9 := (Below.refl wr.heap.size wr).alloc (Nat.le_refl _) (.cells #[.int .i64 kind, .bool snd, .int .i64 ee, .int .i64 md, .int .i64 oo] 30)
          have HAX := hide (HA.out.below hb9)
          clear hb9
          have HOB : Hid ((wr.alloc (.cells #[.int .i64 kind, .bool snd, .int .i64 ee, .int .i64 md, .int .i64 oo] 30)).heap[wr.heap.size]? = some (.cells #[.int .i64 kind, .bool snd, .int .i64 ee, .int .i64 md, .int .i64 oo] 30 (0, 0))) := hide (Go.heap_alloc_new wr _)
          have HLT : Hid (wr.heap.size < (wr.alloc (.cells #[.int .i64 kind, .bool snd, .int .i64 ee, .int .i64 md, .int .i64 oo] 30)).heap.size) := hide (by simp)
          have HTA : Hid (¬ TU p bb n Va wr.heap.size) := hide fun hu => Nat.lt_irrefl _ (HA.out.a.t.lt _ hu)
          have HTB : Hid (¬ TU q cc n Vb wr.heap.size) := hide fun hu => Nat.lt_irrefl _ (HA.out.b.t.lt _ hu)
          have hwa0 : 0 ≤ wa := by have := HA.out.a.wf.sum; omega
          have hwb0 : 0 ≤ wb := by have := HA.out.b.wf.sum; omega
          by_cases hee : ee = (ex : Int)
          · subst hee
            have z1 : ((ex : Int) != (ex : Int)) = false := by simp
            by_cases k3 : kind = 3
            · subst k3
              have HN := hide (HAX.out.mono (Nat.le_succ i))
              go_wp2_with fail
              go_roundw
              case rel => exact ⟨i + 1, _, _, _, _, _, _, by omega, by go_num, HN.out, HAG.out, HFA.out.same, HFB.out.same⟩
              case measure => simp [intOf]; omega
            · have z3 : (kind == 3) = false := by simpa using k3
              by_cases k1 : kind = 1
              · subst k1
                have HQA := hide (HAX.out.acquireK (by omega) (ex : Int) md oo)
                have HQB := hide fun y V' L' wt' (h : A2 w1 y n 512 (i + 1) p bb V' L' wt' q cc Vb Lb wb) => h.symm.acquireK (by omega) (ex : Int) md oo
                obtain ⟨q1, q2, q3⟩ := acq_ag (n := n) (La := La) (Lb := Lb) (ws := 512) (wa := wa) (wb := wb) (e := ex) (o := oo) (md := md) hex HAG.out (HFA.out.lt (by omega)) (HFB.out.lt (by omega))
                rw [← q1, ← q2] at HQB
                have HGA := hide q3
                have HWA := hide (acq_wf HA.out.a.wf (ex : Int) oo md)
                have HWB := hide (acq_wf HA.out.b.wf (ex : Int) oo md)
                have HFA2 := hide (HFA.out.acq (n := n) (ws := 512) hwa0 (ex : Int) oo md)
                have HFB2 := hide (HFB.out.acq (n := n) (ws := 512) hwb0 (ex : Int) oo md)
                clear q1 q2 q3 HFA HFB HAG HAX
                generalize acq n La 512 wa (ex : Int) oo md = R1 at *
                generalize acq n Lb 512 wb (ex : Int) oo md = R2 at *
                obtain ⟨er1, gr1, L1, wt1⟩ := R1
                obtain ⟨er2, gr2, L2, wt2⟩ := R2
                dsimp only at HQA HQB HGA HWA HWB HFA2 HFB2
                have zg : (gr1 != gr1) = false := by simp
                have ze : (er1 != er1) = false := by simp
                go_wp2_with (first
                  | (go_at_call 12; refine HQA.out.mono ?_; rintro e' w5 ⟨rfl, V5, hA5, hk5⟩; have HA5 := hide hA5; have HO5 := hide ((hk5 _ HLT.out HTA.out).trans HOB.out); obtain ⟨⟨f0, f1⟩, f2, f3, f4⟩ := op_cells HO5.out; clear hA5 hk5 HQA HA)
                  | (go_at_call 12; refine (HQB.out _ _ _ _ HA5.out).mono ?_; rintro e' w6 ⟨rfl, V6, hA6, hk6⟩; have HA6 := hide (hA6.symm.rebound HWA.out HWB.out); obtain ⟨⟨f5, f6⟩, f7, f8, f9⟩ := op_cells ((hk6 _ (World.block_lt_of_cell? _ _ f0) HTB.out).trans HO5.out); clear hA6 hk6 HQB HA5))
                go_roundw
                case rel => exact ⟨i + 1, V5, V6, _, _, _, _, by omega, by go_num, HA6.out, HGA.out, HFA2.out, HFB2.out⟩
                case measure => simp [intOf]; omega
              · have z4 : (kind == 1) = false := by simpa using k1
                by_cases k2 : kind = 2
                · subst k2
                  have HQA := hide ((HAX.out.mono (Nat.le_succ i)).releaseK (by omega) (ex : Int) oo)
                  have HQB := hide fun y V' L' wt' (h : A2 w1 y n 512 (i + 1) p bb V' L' wt' q cc Vb Lb wb) => h.symm.releaseK (by omega) (ex : Int) oo
                  obtain ⟨q1, q2, q3⟩ := rls_ag (n := n) (La := La) (Lb := Lb) (wa := wa) (wb := wb) (e := ex) (o := oo) hex HAG.out
                  rw [← q1, ← q2] at HQB
                  have HGA := hide q3
                  have HFA2 := hide (HFA.out.rls (n := n) (rls_wt0 HA.out.a.wf) (ex : Int) oo)
                  have HFB2 := hide (HFB.out.rls (n := n) (rls_wt0 HA.out.b.wf) (ex : Int) oo)
                  clear q1 q2 q3 HFA HFB HAG HAX
                  generalize rls n La wa (ex : Int) oo = R1 at *
                  generalize rls n Lb wb (ex : Int) oo = R2 at *
                  obtain ⟨er1, in1, L1, wt1⟩ := R1
                  obtain ⟨er2, in2, L2, wt2⟩ := R2
                  dsimp only at HQA HQB HGA HFA2 HFB2
                  have ze : (er1 != er1) = false := by simp
                  have HSA := hide fun x a v (h1 : IRow x a in1) (h2 : IRow x v in1) => same_any x a v in1 in1 h1 h2
                  rw [show decide (in1 = in1) = true by simp] at HSA
                  go_wp2_with (first
                    | (go_at_call 16; refine HQA.out.mono ?_; rintro e' w5 ⟨v5, V5, rfl, hA5, hk5, hI5, -⟩; have HA5 := hide hA5; have HI5 := hide hI5; have HO5 := hide ((hk5 _ HLT.out HTA.out).trans HOB.out); obtain ⟨⟨f0, f1⟩, f2, f3, f4⟩ := op_cells HO5.out; clear hA5 hk5 hI5 HQA HA)
                    | (go_at_call 16; refine (HQB.out _ _ _ _ HA5.out).mono ?_; rintro e' w6 ⟨v6, V6, rfl, hA6, -, hI6, hu6⟩; have HA6 := hide hA6.symm; have HI6 := hide hI6; have HI5 := hide (hu6 _ _ HI5.out); clear hA6 hI6 hu6 HQB HA5)
                    | (go_at_call 17; refine (HSA.out _ _ _ HI5.out HI6.out).mono ?_; rintro e' w7 ⟨rfl, hb7⟩; have HA7 := hide (HA6.out.below hb7); clear hb7 HSA))
                  go_roundw
                  case rel => exact ⟨i + 1, V5, V6, _, _, _, _, by omega, by go_num, HA7.out, HGA.out, HFA2.out, HFB2.out⟩
                  case measure => simp [intOf]; omega
                · have z5 : (kind == 2) = false := by simpa using k2
                  have HN := hide (HAX.out.mono (Nat.le_succ i))
                  go_wp2_with fail
                  go_roundw
                  case rel => exact ⟨i + 1, _, _, _, _, _, _, by omega, by go_num, HN.out, HAG.out, HFA.out.same, HFB.out.same⟩
                  case measure => simp [intOf]; omega
          · have z1 : (ee != (ex : Int)) = true := by simpa using hee
            by_cases k3 : kind = 3
            · subst k3
              have HN := hide (HAX.out.mono (Nat.le_succ i))
              go_wp2_with fail
              go_roundw
              case rel => exact ⟨i + 1, _, _, _, _, _, _, by omega, by go_num, HN.out, HAG.out, HFA.out.same, HFB.out.same⟩
              case measure => simp [intOf]; omega
            · have z3 : (kind != 3) = true := by simpa using k3
              have HCL := hide (HAX.out.call (by omega) kind snd ee md oo)
              have HGA := hide (cal_other (n := n) (L := La) (ws := 512) (wt := wa) (kind := kind) (e := ee) (md := md) (o := oo) hex hee k3)
              have HFA2 := hide (HFA.out.cal HA.out.a.wf kind ee md oo k3)
              generalize cal n La 512 wa kind ee md oo = R1 at *
              obtain ⟨L1, wt1⟩ := R1
              dsimp only at HCL HGA HFA2
              have HGB : Hid (Ag L1 Lb ex) := hide ⟨HGA.out.1.trans HAG.out.1, HGA.out.2.trans HAG.out.2⟩
              go_wp2_with (go_at_call 11; refine HCL.out.mono ?_; rintro e' w5 ⟨rfl, V5, hA5⟩; have HA5 := hide hA5; clear hA5 HCL)
              go_roundw
              case rel => exact ⟨i + 1, V5, _, _, _, _, _, by omega, by go_num, HA5.out, HGB.out, HFA2.out, HFB.out.same⟩
              case measure => simp [intOf]; omega
        · have hnl : ¬ (i : Int) < (N : Int) := by omega
          have HQA := hide (HA.out.acquire (by omega) (ex : Int) 2 7)
          have HQB := hide fun y V' L' wt' (h : A2 w1 y n 512 (i + 1) p bb V' L' wt' q cc Vb Lb wb) => h.symm.acquire (by omega) (ex : Int) 2 7
          obtain ⟨q1, q2, q3⟩ := acq_ag (n := n) (La := La) (Lb := Lb) (ws := 512) (wa := wa) (wb := wb) (e := ex) (o := 7) (md := 2) hex HAG.out (HFA.out.lt (by omega)) (HFB.out.lt (by omega))
          rw [← q1, ← q2] at HQB
          have HGA := hide q3
          have HNE := hide (acq_hold HA.out.a.ok 512 wa 7 hex)
          clear q1 q2 q3 HFA HFB HAG HOS
          generalize acq n La 512 wa (ex : Int) 7 2 = R1 at *
          generalize acq n Lb 512 wb (ex : Int) 7 2 = R2 at *
          obtain ⟨er1, gr1, L1, wt1⟩ := R1
          obtain ⟨er2, gr2, L2, wt2⟩ := R2
          dsimp only at HQA HQB HGA HNE
          have HHA := hide fun x V' V'' (h : A2 w1 x n 512 (i + 2) p bb V' L1 wt1 q cc V'' L2 wt2) => h.holders (by omega) hex
          have HHB := hide fun x V' V'' (h : A2 w1 x n 512 (i + 2) p bb V' L1 wt1 q cc V'' L2 wt2) => h.symm.holders (by omega) hex
          have HWA := hide fun x V' V'' (h : A2 w1 x n 512 (i + 2) p bb V' L1 wt1 q cc V'' L2 wt2) => h.waiters (by omega) hex
          have HWB := hide fun x V' V'' (h : A2 w1 x n 512 (i + 2) p bb V' L1 wt1 q cc V'' L2 wt2) => h.symm.waiters (by omega) hex
          rw [← HGA.out.1] at HHB
          rw [← HGA.out.2] at HWB
          have hpos : (0 : Int) < (((L1 (ex * 2)).map Prod.fst).length : Int) := by
            have := List.length_pos_iff.2 HNE.out
            rw [List.length_map]; omega
          clear HGA HNE
          generalize (L1 (ex * 2)).map Prod.fst = lh at *
          generalize (L1 (ex * 2 + 1)).map Prod.fst = lw at *
          generalize modeOf (L1 (ex * 2)) = mo at *
          have hmm : (mo == mo) = true := by simp
          have hgg : (gr1 == gr1) = true := by simp
          have hrr : (er1 == er1) = true := by simp
          have HSA := hide fun x a v l (h1 : IRow x a l) (h2 : IRow x v l) => same_any x a v l l h1 h2
          have HS4 := hide fun x a v (h1 : IRow x a lh) (h2 : IRow x v lh) => HSA.out x a v lh h1 h2
          have HS5 := hide fun x a v (h1 : IRow x a lw) (h2 : IRow x v lw) => HSA.out x a v lw h1 h2
          rw [show decide (lh = lh) = true by simp] at HS4
          rw [show decide (lw = lw) = true by simp] at HS5
          have HNU := hide fun x z => num_any x z
          clear HSA
          go_wp2_with (first
            | (go_at_call 12; refine HQA.out.mono ?_; rintro e' w5 ⟨rfl, V5, hA5⟩; have HA5 := hide hA5; clear hA5 HQA HA)
            | (go_at_call 12; refine (HQB.out _ _ _ _ HA5.out).mono ?_; rintro e' w6 ⟨rfl, V6, hA6⟩; have HA6 := hide hA6.symm; clear hA6 HQB HA5)
            | (go_at_call 14; refine (HHA.out _ _ _ HA6.out).mono ?_; rintro e' w14 ⟨v1, rfl, hA14, hC14, hI14⟩; have HA14 := hide hA14; have HI14 := hide hI14; clear hA14 hC14 hI14 HHA)
            | (go_at_call 14; refine (HHB.out _ _ _ HA14.out).mono ?_; rintro e' w15 ⟨v2, rfl, hA15, hC15, hI15⟩; have HA15 := hide hA15.symm; have HJ15 := hide hI15; have HI15 := hide (HA14.out.b.irowA HI14.out hC15); clear hA15 hC15 hI15 HHB)
            | (go_at_call 13; refine (HWA.out _ _ _ HA15.out).mono ?_; rintro e' w16 ⟨v3, rfl, hA16, hC16, hI16⟩; have HA16 := hide hA16; have HK16 := hide hI16; have HI16 := hide (HA15.out.a.irowA HI15.out hC16); have HJ16 := hide (HA15.out.a.irowA HJ15.out hC16); clear hA16 hC16 hI16 HWA)
            | (go_at_call 13; refine (HWB.out _ _ _ HA16.out).mono ?_; rintro e' w17 ⟨v4, rfl, hA17, hC17, hI17⟩; have HA17 := hide hA17.symm; have HM17 := hide hI17; have HI17 := hide (HA16.out.b.irowA HI16.out hC17); have HJ17 := hide (HA16.out.b.irowA HJ16.out hC17); have HK17 := hide (HA16.out.b.irowA HK16.out hC17); obtain ⟨a1, c1, ev, -, -⟩ := rowForm HI17.out; subst ev; clear hA17 hC17 hI17 HWB HI14 HI15 HI16)
            | (go_at_call 15; refine (HNU.out _ _).mono ?_; rintro e' wq ⟨rfl, hwq⟩; have hwq2 := hwq.symm; clear hwq; subst hwq2)
            | (go_at_call 17; refine (HS4.out _ _ _ HI17.out HJ17.out).mono ?_; rintro e' w18 ⟨rfl, hb18⟩; have HA18 := hide (HA17.out.below hb18); have HK18 := hide (HK17.out.kept (w' := w18) fun g hg => hb18.block g (HK17.out.lt hg)); have HM18 := hide (HM17.out.kept (w' := w18) fun g hg => hb18.block g (HM17.out.lt hg)); clear hb18 HS4)
            | (go_at_call 17; refine (HS5.out _ _ _ HK18.out HM18.out).mono ?_; rintro e' w19 ⟨rfl, hb19⟩; have HA19 := hide (HA18.out.below hb19); have HFB := hide (HB1.out.trans (HA19.out.a.bel.mono HB1.out.size)); clear hb19 HS5))
          go_ret
          exact ⟨rfl, HFB.out⟩
    · have hx : e < 0 ∨ (¬ e < 0 ∧ (n : Int) ≤ e) ∨ (¬ e < 0 ∧ ¬ (n : Int) ≤ e ∧ (512 : Int) < (os.length : Int)) := by omega
      clear hv3 hk hgo
      generalize hN : os.length = N at *
      clear hN
      rcases hx with hx | ⟨hx, hy⟩ | ⟨hx, hy, hz⟩
      all_goals
        go_enter Try.func4, Try.ntmps4
        go_wp2_with (go_at_call 9; refine (HM.out _).mono ?_; rintro e' w2 ⟨rfl, hb2⟩; have HB2 := hide (HB0.out.trans (hb2.mono (by simp))); obtain ⟨c0, c1⟩ := HC0.out _ hb2; clear HM hb2)
        go_ret
        exact ⟨rfl, HB2.out⟩
end Go.Proofs.Ytijfnacplikibaa
