import Derived.Test.YtijfnacplikibaaKDIm
import Derived.Test.YtijfnacplikibaaKSame
namespace Go.Proofs.Ytijfnacplikibaa
open Go.RowKit
set_option linter.unusedVariables false
set_option linter.unusedSimpArgs false
set_option maxRecDepth 20000

/-- an operation of the script, in any world that grew out of w -/
theorem ops_at {w w1 : World} {av : Option Addr} {os : List OpV} (hb0 : Below w.heap.size w w1) (hv3 : 0 < os.length → ∃ b off, av = some ⟨b, off, none⟩ ∧ ∀ i (h : i < os.length), (w.cell? ⟨b, off + i * 5, none⟩ = some (.int .i64 os[i].kind) ∧ w.cell? ⟨b, off + i * 5 + 1, none⟩ = some (.bool os[i].snd)) ∧ w.cell? ⟨b, off + i * 5 + 2, none⟩ = some (.int .i64 os[i].ext) ∧ w.cell? ⟨b, off + i * 5 + 3, none⟩ = some (.int .i64 os[i].mode) ∧ w.cell? ⟨b, off + i * 5 + 4, none⟩ = some (.int .i64 os[i].owner)) :
    ∀ x, Below w1.heap.size w1 x → ∀ i, i < os.length → ∃ g off, av = some ⟨g, off, none⟩ ∧ (x.cell? ⟨g, off + i * 5, none⟩ = some (.int .i64 (os.getD i default).kind) ∧ x.cell? ⟨g, off + i * 5 + 1, none⟩ = some (.bool (os.getD i default).snd)) ∧ x.cell? ⟨g, off + i * 5 + 2, none⟩ = some (.int .i64 (os.getD i default).ext) ∧ x.cell? ⟨g, off + i * 5 + 3, none⟩ = some (.int .i64 (os.getD i default).mode) ∧ x.cell? ⟨g, off + i * 5 + 4, none⟩ = some (.int .i64 (os.getD i default).owner) := fun x hx i hi => by
  obtain ⟨g, off, rfl, hc⟩ := hv3 (by omega)
  have hb' : Below w.heap.size w x := hb0.trans (hx.mono hb0.size)
  have hlt := World.block_lt_of_cell? w _ (hc 0 (by omega)).1.1
  obtain ⟨⟨c0, c1⟩, c2, c3, c4⟩ := hc i hi
  rw [show os.getD i default = os[i] by simp [List.getD, hi]]
  exact ⟨g, off, rfl, ⟨(below_cell hb' hlt _).trans c0, (below_cell hb' hlt _).trans c1⟩, (below_cell hb' hlt _).trans c2, (below_cell hb' hlt _).trans c3, (below_cell hb' hlt _).trans c4⟩
theorem box_at {w : World} {a b : Int} : ∀ x, Below (w.alloc (.cells #[.int .i64 a, .int .i64 b] 23)).heap.size (w.alloc (.cells #[.int .i64 a, .int .i64 b] 23)) x → x.cell? ⟨w.heap.size, 0, none⟩ = some (.int .i64 a) ∧ x.cell? ⟨w.heap.size, 1, none⟩ = some (.int .i64 b) := fun x hx => by
  have hg : x.heap[w.heap.size]? = some (.cells #[.int .i64 a, .int .i64 b] 23 (0, 0)) := (hx.block _ (by simp)).trans (Go.heap_alloc_new w _)
  exact ⟨by rw [cell_of_row _ _ _ _ _ _ hg]; rfl, by rw [cell_of_row _ _ _ _ _ _ hg]; rfl⟩
section
variable {w x : World} {n : Nat} {ws : Int} {B : Nat} {pa ba : Nat} {Va : Nat → Value} {La : LL} {wta : Int} {pb bb : Nat} {Vb : Nat → Value} {Lb : LL} {wtb : Int}
theorem A2.rebound {B' : Nat} (h : A2 w x n ws B pa ba Va La wta pb bb Vb Lb wtb) (ha : WF n La ws wta B') (hb : WF n Lb ws wtb B') : A2 w x n ws B' pa ba Va La wta pb bb Vb Lb wtb := ⟨⟨h.a.t, ha, h.a.ok, h.a.bel, h.a.lo⟩, ⟨h.b.t, hb, h.b.ok, h.b.bel, h.b.lo⟩, h.ap⟩
theorem A2.call (h : A2 w x n ws B pa ba Va La wta pb bb Vb Lb wtb) (hB : B ≤ 3900000000000) (kind : Int) (snd : Bool) (e md o : Int) : Calls Try.prog 11 #[.pointer (some ⟨pa, 0, none⟩), .agg #[.int .i64 kind, .bool snd, .int .i64 e, .int .i64 md, .int .i64 o]] x fun e' y => e' = .returned (.tuple #[]) ∧ ∃ Va', A2 w y n ws (B + 1) pa ba Va' (cal n La ws wta kind e md o).1 (cal n La ws wta kind e md o).2 pb bb Vb Lb wtb := by
  refine (call_any x pa ba n Va La ws wta kind snd e md o B h.a.t h.a.wf hB).mono ?_
  rintro e' y ⟨rfl, V', hT, hTr⟩
  exact ⟨rfl, V', h.stepF (h.a.step hT (cal_wf h.a.wf kind e md o) (cal_ok h.a.ok ws wta kind e md o) hTr fun g h => h.elim) (Nat.le_succ _) hTr⟩
theorem A2.acquire (h : A2 w x n ws B pa ba Va La wta pb bb Vb Lb wtb) (hB : B ≤ 3900000000000) (e md o : Int) : Calls Try.prog 12 #[.pointer (some ⟨pa, 0, none⟩), .int .i64 e, .int .i64 md, .int .i64 o] x fun e' y => e' = .returned (.tuple #[.bool (acq n La ws wta e o md).gr, .int .i64 (acq n La ws wta e o md).err]) ∧ ∃ Va', A2 w y n ws (B + 1) pa ba Va' (acq n La ws wta e o md).L (acq n La ws wta e o md).wt pb bb Vb Lb wtb := by
  refine (h.a.acquire (by omega) e md o).mono ?_
  rintro e' y ⟨rfl, V', hA, hTr⟩
  exact ⟨rfl, V', h.stepF hA (Nat.le_succ _) hTr⟩
theorem A2.release (h : A2 w x n ws B pa ba Va La wta pb bb Vb Lb wtb) (hB : B ≤ 3900000000000) (e o : Int) : Calls Try.prog 16 #[.pointer (some ⟨pa, 0, none⟩), .int .i64 e, .int .i64 o] x fun e' y => ∃ v Va', e' = .returned (.tuple #[v, .int .i64 (rls n La wta e o).err]) ∧ A2 w y n ws B pa ba Va' (rls n La wta e o).L (rls n La wta e o).wt pb bb Vb Lb wtb ∧ Tr (fun _ => False) x y (TU pa ba n Va) (TU pa ba n Va') ∧ IRow y v (rls n La wta e o).inn ∧ ∀ g, v.ownBlock = some g → x.heap.size ≤ g := by
  refine (h.a.release hB e o).mono ?_
  rintro e' y ⟨v, V', rfl, hA, hTr, hI, hN⟩
  exact ⟨v, V', rfl, h.stepF hA (Nat.le_refl _) hTr, hTr, hI, hN⟩
theorem A2.drop (h : A2 w x n ws B pa ba Va La wta pb bb Vb Lb wtb) (hB : B ≤ 3900000000000) (o : Int) : Calls Try.prog 19 #[.pointer (some ⟨pa, 0, none⟩), .int .i64 o] x fun e' y => ∃ v Va', e' = .returned v ∧ A2 w y n ws B pa ba Va' (drp n La wta o n).L (drp n La wta o n).wt pb bb Vb Lb wtb ∧ IRow y v (drp n La wta o n).inn := by
  refine (h.a.drop hB o).mono ?_
  rintro e' y ⟨v, V', rfl, hA, hTr, hI, hN⟩
  exact ⟨v, V', rfl, h.stepF hA (Nat.le_refl _) hTr, hI⟩
theorem A2.holders (h : A2 w x n ws B pa ba Va La wta pb bb Vb Lb wtb) (hB : B ≤ 3900000000000) {e : Nat} (he : e < n) : Calls Try.prog 14 #[.pointer (some ⟨pa, 0, none⟩), .int .i64 (e : Int)] x fun e' y => ∃ v, e' = .returned (.tuple #[v, .int .i64 (modeOf (La (e * 2))), .int .i64 0]) ∧ A2 w y n ws B pa ba Va La wta pb bb Vb Lb wtb ∧ Chg (· = pa) x y ∧ IRow y v ((La (e * 2)).map Prod.fst) := by
  refine (h.a.holders (by omega) he).mono ?_
  rintro e' y ⟨v, rfl, hA, hC, hI, hN⟩
  exact ⟨v, rfl, h.askA hA hC, hC, hI⟩
theorem A2.waiters (h : A2 w x n ws B pa ba Va La wta pb bb Vb Lb wtb) (hB : B ≤ 3900000000000) {e : Nat} (he : e < n) : Calls Try.prog 13 #[.pointer (some ⟨pa, 0, none⟩), .int .i64 (e : Int)] x fun e' y => ∃ v, e' = .returned (.tuple #[v, .int .i64 0]) ∧ A2 w y n ws B pa ba Va La wta pb bb Vb Lb wtb ∧ Chg (· = pa) x y ∧ IRow y v ((La (e * 2 + 1)).map Prod.fst) := by
  refine (h.a.waiters (by omega) he).mono ?_
  rintro e' y ⟨v, rfl, hA, hC, hI, hN⟩
  exact ⟨v, rfl, h.askA hA hC, hC, hI⟩
end
set_option maxHeartbeats 4000000 in
theorem dropIs_law (w : World) (a b o : Int) (v : Value) (os : List OpV) (hv : OSl w v os) (hl : os.length ≤ 3518437208883) : Calls Try.prog 6 #[.agg #[.int .i64 a, .int .i64 b], v, .int .i64 o] w fun e' w' => e' = .returned (.bool true) ∧ Below w.heap.size w w' := by
  have HB0 := hide ((Below.refl w.heap.size w).alloc (Nat.le_refl _) (.cells #[.int .i64 a, .int .i64 b] 23))
  have HM := hide fun x => may_any x a b
  obtain ⟨av, cv, rfl, hv1, hv2, hv3⟩ := hv
  cases hk : okN a b with
  | false =>
    rw [hk] at HM
    clear hv3
    go_enter Try.func6, Try.ntmps6
    go_wp2_with (go_at_call 9; refine (HM.out _).mono ?_; rintro e' w2 ⟨rfl, hb2⟩; have HB2 := hide (HB0.out.trans (hb2.mono (by simp))); clear HM hb2)
    go_ret
    exact ⟨rfl, HB2.out⟩
  | true =>
    rw [hk] at HM
    obtain ⟨h1, h2, h3, h4⟩ := okN_yes hk
    obtain ⟨n, rfl⟩ : ∃ n : Nat, a = (n : Int) := ⟨a.toNat, by omega⟩
    have HC0 := hide (box_at (w := w) (a := (n : Int)) (b := b))
    have HTB := hide fun x => table_any x n b hk
    have HOS := hide (ops_at HB0.out hv3)
    clear hv3 hk
    generalize hN : os.length = N at *
    clear hN
    unfold maxLen at hv2
    have hw1 : IntKind.i64.wrap ((n : Int) - 1) = ((n - 1 : Nat) : Int) := by simp [IntKind.wrap, IntKind.bits, IntKind.signed]; omega
    have hw2 : (n : Int) - 1 = ((n - 1 : Nat) : Int) := by omega
    go_enter Try.func6, Try.ntmps6
    go_wp2_with (first
      | (go_at_call 9; refine (HM.out _).mono ?_; rintro e' w2 ⟨rfl, hb2⟩; have HB2 := hide hb2; obtain ⟨c0, c1⟩ := HC0.out _ hb2; clear HM hb2)
      | (go_at_call 10; refine (HTB.out _).mono ?_; rintro e' w3 ⟨p, bb, rfl, hT3, hb3, hp3, hbb3⟩; have HAS := hide (as_new (w := w.alloc (.cells #[.int .i64 (n : Int), .int .i64 b] 23)) hT3 (HB2.out.trans (hb3.mono HB2.out.size)) (Nat.le_trans HB2.out.size hp3) (Nat.le_trans HB2.out.size hbb3) ⟨h3, h4⟩); obtain ⟨x0, x1⟩ := HC0.out _ HAS.out.bel; clear hT3 hb3 hp3 hbb3 HB2)
      | (go_at_call 10; refine (HTB.out _).mono ?_; rintro e' w4 ⟨q, cc, rfl, hT4, hb4, hp4, hbb4⟩; have HA2 := hide (a2_new HAS.out hT4 hb4 hp4 hbb4); clear HTB hT4 hb4 hp4 hbb4 HAS))
    generalize w.alloc (.cells #[.int .i64 (n : Int), .int .i64 b] 23) = w1 at *
    go_loopw [10] (fun x wr => ∃ (i : Nat) (Va Vb : Nat → Value) (L : LL) (wt : Int), i ≤ N ∧ x = .int .i64 (i : Int) ∧ A2 w1 wr n b i p bb Va L wt q cc Vb L wt) (fun x _ => N - (intOf x).toNat)
    case atStart => exact ⟨0, _, _, _, _, Nat.zero_le _, rfl, HA2.out⟩
    case round =>
      obtain ⟨i, Va, Vb, L, wt, hi, rfl, hA⟩ := hrel
      have HA := hide hA
      clear hA HA2
      by_cases hlt : i < N
      · obtain ⟨g, off, rfl, ⟨e0, e1⟩, e2, e3, e4⟩ := HOS.out _ HA.out.a.bel i hlt
        have HCL := hide (HA.out.call (by omega) (os.getD i default).kind (os.getD i default).snd (os.getD i default).ext (os.getD i default).mode (os.getD i default).owner)
        have HWF := hide (cal_wf HA.out.a.wf (os.getD i default).kind (os.getD i default).ext (os.getD i default).mode (os.getD i default).owner)
        have HCB := hide fun y V' L' wt' (h : A2 w1 y n b (i + 1) p bb V' L' wt' q cc Vb L wt) => h.symm.call (by omega) (os.getD i default).kind (os.getD i default).snd (os.getD i default).ext (os.getD i default).mode (os.getD i default).owner
        have HOS2 := hide fun x (hx : Below w1.heap.size w1 x) => HOS.out x hx i hlt
        generalize os.getD i default = s at *
        obtain ⟨kind, snd, ee, md, oo⟩ := s
        dsimp only at e0 e1 e2 e3 e4 HCL HCB HWF HOS2
        have hii : 0 ≤ (i : Int) ∧ (i : Int) < (N : Int) := ⟨by omega, by omega⟩
        go_wp2_with (first
          | (go_at_call 11; refine HCL.out.mono ?_; rintro e' w5 ⟨rfl, V5, hA5⟩; have HA5 := hide hA5; obtain ⟨g', off', eg, ⟨f0, f1⟩, f2, f3, f4⟩ := HOS2.out _ hA5.a.bel; simp only [Option.some.injEq, Addr.mk.injEq] at eg; obtain ⟨rfl, rfl, -⟩ := eg; clear hA5 HCL)
          | (go_at_call 11; refine (HCB.out _ _ _ _ HA5.out).mono ?_; rintro e' w6 ⟨rfl, V6, hA6⟩; have HA6 := hide (hA6.symm.rebound HWF.out HWF.out); clear hA6 HCB))
        go_roundw
        case rel => exact ⟨i + 1, V5, V6, _, _, by omega, by go_num, HA6.out⟩
        case measure => simp [intOf]; omega
      · have hnl : ¬ (i : Int) < (N : Int) := by omega
        have hn1 : n - 1 < n := by omega
        obtain ⟨z0, z1⟩ := HC0.out _ HA.out.a.bel
        have HQA := hide (HA.out.acquire (by omega) ((n - 1 : Nat) : Int) 1 o)
        have HWF := hide (acq_wf HA.out.a.wf ((n - 1 : Nat) : Int) o 1)
        have HQB := hide fun y V' L' wt' (h : A2 w1 y n b (i + 1) p bb V' L' wt' q cc Vb L wt) => h.symm.acquire (by omega) ((n - 1 : Nat) : Int) 1 o
        have HOK := hide (ok_acq HA.out.a.ok b wt ((n - 1 : Nat) : Int) o 1)
        have HNO := hide fun h0 h1 => acq_none (n := n) (L := L) (ws := b) (wt := wt) (o := o) hn1 h0 h1
        generalize acq n L b wt ((n - 1 : Nat) : Int) o 1 = A1 at *
        obtain ⟨er1, gr1, L1, wt1⟩ := A1
        dsimp only at HQA HQB HWF HNO HOK
        have HNU := hide fun x z => num_any x z
        have HDR := hide fun y V' V'' (h : A2 w1 y n b (i + 1) p bb V' L1 wt1 q cc V'' L1 wt1) => h.drop (by omega) o
        clear HOS
        go_wp2_with (first
          | (go_at_call 12; refine HQA.out.mono ?_; rintro e' w5 ⟨rfl, V5, hA5⟩; have HA5 := hide hA5; obtain ⟨z2, z3⟩ := HC0.out _ hA5.a.bel; clear hA5 HQA HA)
          | (go_at_call 12; refine (HQB.out _ _ _ _ HA5.out).mono ?_; rintro e' w6 ⟨rfl, V6, hA6⟩; have HA6 := hide (hA6.symm.rebound HWF.out HWF.out); obtain ⟨z4, z5⟩ := HC0.out _ hA6.a.bel; clear hA6 HQB HA5)
          | (go_at_call 19; refine (HDR.out _ _ _ HA6.out).mono ?_; rintro e' w7 ⟨xv, V7, rfl, hA7, hI7⟩; have HA7 := hide hA7; have HI7 := hide hI7; obtain ⟨z6, z7⟩ := HC0.out _ hA7.a.bel; clear hA7 hI7 HDR HA6))
        have hw512 : wt1 ≤ 512 := by have h8 := HWF.out.le; omega
        have HDI : Hid (DI w1 n b (i + 1) p bb q cc L1 wt1 o w7.heap.size xv (.slice none 0 0) false 0 w7) := hide ⟨V7, V6, HA7.out, HI7.out, IRow.nil _, fun g e => by simp [Value.ownBlock] at e, fun g hg => HI7.out.lt hg, HA7.out.a.bel.size, Nat.le_refl _, fun _ => ⟨fun e he => by omega, rfl⟩⟩
        generalize hX0 : w7.heap.size = X0 at *
        clear hX0 HA7 HI7
        go_loopw [12, 13, 14] (fun yv sm x wr => ∃ (j : Nat) (s : Bool), j ≤ n ∧ sm = .bool s ∧ x = .int .i64 (j : Int) ∧ DI w1 n b (i + 1) p bb q cc L1 wt1 o X0 xv yv s j wr) (fun _ _ x _ => n - (intOf x).toNat)
        case atStart => exact ⟨0, false, Nat.zero_le _, rfl, rfl, HDI.out⟩
        case round =>
          obtain ⟨j, sm, hj, rfl, rfl, hdi⟩ := hrel
          have HD := hide hdi
          obtain ⟨y0, y1⟩ := HC0.out _ hdi.bel
          clear hdi HDI
          by_cases hjn : j < n
          · cases hp : (has (L1 (j * 2)) o || has (L1 (j * 2 + 1)) o) with
            | true =>
              have HRE := hide (HD.out.relY hjn (by omega) hw512 hp)
              clear hp HD
              go_wp2_with (first
                | (go_at_call 16; refine HRE.out.mono ?_; rintro e' w8 ⟨iv, il, rfl, hI8, hY8, hln8, hb8, hnx⟩; have HI8 := hide hI8; have HY8 := hide hY8; have HLN := hide hln8; have HNX := hide hnx; obtain ⟨y2, y3⟩ := HC0.out _ hb8; clear hI8 hY8 hln8 hnx hb8 HRE)
                | (go_at_call 15; refine (HNU.out _ _).mono ?_; rintro e' wq ⟨rfl, hwq⟩; have hwq2 := hwq.symm; clear hwq; subst hwq2)
                | (at_builtin; refine wpList_appendI _ rfl (.tmp 91) (.tmp 92) rfl _ _ _ _ rfl rfl HY8.out HI8.out HLN.out ?_; intro yv9 w9 hY9 ha9; have HN := hide (HNX.out _ _ hY9 ha9); clear hY9 ha9 HNX))
              go_roundw
              case rel => exact ⟨j + 1, true, by omega, rfl, by go_num, HN.out⟩
              case measure => simp [intOf]; omega
            | false =>
              have HRE := hide (HD.out.relN hjn (by omega) hp)
              clear hp HD
              go_wp2_with (first
                | (go_at_call 16; refine HRE.out.mono ?_; rintro e' w8 ⟨iv, rfl, hn8⟩; have HN := hide hn8; clear hn8 HRE)
                | (go_at_call 15; refine (HNU.out _ _).mono ?_; rintro e' wq ⟨rfl, hwq⟩; have hwq2 := hwq.symm; clear hwq; subst hwq2))
              go_roundw
              case rel => exact ⟨j + 1, sm, by omega, rfl, by go_num, HN.out⟩
              case measure => simp [intOf]; omega
          · have ejn : j = n := by omega
            have hnl2 : ¬ (j : Int) < (n : Int) := by omega
            have HD' := HD.out
            rw [ejn] at HD'
            obtain ⟨f1, f2, f3, f4, f5, f6⟩ := HD'.fin HOK.out
            have F1 := hide f1
            have F2 := hide f2
            have F3 := hide f3
            have F4 := hide f4
            have F5 := hide f5
            have F6 := hide f6
            have HEQ : Hid (decide ((drp n L1 wt1 o n).inn = (drp n L1 wt1 o n).inn) = true) := hide (by simp)
            clear f1 f2 f3 f4 f5 f6 HD' HD
            generalize drp n L1 wt1 o n = A9 at *
            obtain ⟨er9, in9, L9, wt9⟩ := A9
            dsimp only at F1 F2 F3 F4 F5 F6 HEQ
            have HSM := hide fun x a v l k (h1 : IRow x a l) (h2 : IRow x v k) => same_any x a v l k h1 h2
            have HHS := hide fun x a l z (h1 : IRow x a l) => has_any x a l z h1
            obtain ⟨Va9, Vb9, hA9⟩ := F4.out
            have HA9 := hide hA9
            have HWB : Hid (sm = false → b ≤ wt9) := hide fun e => by
              obtain ⟨k1, k2⟩ := F5.out e
              have k3 := k1 (n - 1) (by omega)
              unfold noP at k3
              rw [Bool.or_eq_false_iff] at k3
              have := HNO.out k3.1 k3.2
              omega
            have HWG := hide fun x (h : A2 w1 x n b (i + 1) p bb Va9 L9 wt9 q cc Vb9 L9 wt9) => h.a.waiting
            clear F4 F5 hA9 HNO HOK
            have hnot : ∀ (x : Bool) (w : World), (Op.unary .not (.bool x)).run Try.prog w = .ok (.bool (!x)) w := fun _ _ => rfl
            have HAD := hide (HA9.out.below (y := wr.drew) ⟨rfl, rfl, rfl, Nat.le_refl _, fun _ _ => rfl⟩)
            have F1D : Hid (IRow wr.drew xv in9) := hide (F1.out.kept fun _ _ => rfl)
            have F2D : Hid (IRow wr.drew _ in9) := hide (F2.out.kept fun _ _ => rfl)
            have HS2 := hide (HSM.out _ _ _ _ _ F1D.out F2D.out)
            rw [HEQ.out] at HS2
            have HS3 := hide fun (k : Nat) => same_drew (wr.drewN k) _ _ _ _ (F1.out.kept (w' := wr.drewN k) fun _ _ => rfl) (F2.out.kept (w' := wr.drewN k) fun _ _ => rfl)
            rw [HEQ.out] at HS3
            have HH2 := hide fun x (h1 : IRow x xv in9) => HHS.out x xv in9 o h1
            rw [F3.out] at HH2
            have HH3 := hide fun (k : Nat) => HH2.out (wr.drewN k) (F1.out.kept fun _ _ => rfl)
            cases sm with
            | true =>
              go_wp2_with fail
              go_quiet (first
                | (go_at_call 17; exact Calls.quiet_of (HS3.out _))
                | (go_at_call 20; exact Calls.quiet_of_same (HH3.out _)))
              have HA12 := hide (HA9.out.below (y := wr.drewN nq) ⟨rfl, rfl, rfl, Nat.le_refl _, fun _ _ => rfl⟩)
              generalize wr.drewN nq = w12 at *
              obtain ⟨z8, z9⟩ := HC0.out _ HA12.out.a.bel
              have HEQ2 : Hid (∀ l : List Int, decide (l = l) = true) := hide fun l => by simp
              clear HS2 HS3 HH2 HH3 HSM F1 F2 F1D F2D F3 HAD HA9 HWG HWB HEQ
              go_wp2_with fail
              go_loopw [17] (fun x wr => ∃ j : Nat, j ≤ n ∧ x = .int .i64 (j : Int) ∧ A2 w1 wr n b (i + 1) p bb Va9 L9 wt9 q cc Vb9 L9 wt9) (fun x _ => n - (intOf x).toNat)
              case atStart => exact ⟨0, Nat.zero_le _, rfl, HA12.out⟩
              case round =>
                obtain ⟨e9, he9, rfl, hA13⟩ := hrel
                have HA13 := hide hA13
                obtain ⟨d8, d9⟩ := HC0.out _ hA13.a.bel
                clear hA13 HA12 z8 z9
                by_cases hlt9 : e9 < n
                · obtain ⟨g8, g9⟩ := F6.out e9 hlt9
                  have G8 := hide g8
                  have G9 := hide g9
                  have HHA := hide (HA13.out.holders (by omega) hlt9)
                  have HHB := hide fun x (h : A2 w1 x n b (i + 1) p bb Va9 L9 wt9 q cc Vb9 L9 wt9) => h.symm.holders (by omega) hlt9
                  have HWA := hide fun x (h : A2 w1 x n b (i + 1) p bb Va9 L9 wt9 q cc Vb9 L9 wt9) => h.waiters (by omega) hlt9
                  have HWB := hide fun x (h : A2 w1 x n b (i + 1) p bb Va9 L9 wt9 q cc Vb9 L9 wt9) => h.symm.waiters (by omega) hlt9
                  have HSA := hide fun x a v l (h1 : IRow x a l) (h2 : IRow x v l) => same_any x a v l l h1 h2
                  have HHX := hide fun x a (h1 : IRow x a ((L9 (e9 * 2)).map Prod.fst)) => has_any x a ((L9 (e9 * 2)).map Prod.fst) o h1
                  have HHY := hide fun x a (h1 : IRow x a ((L9 (e9 * 2 + 1)).map Prod.fst)) => has_any x a ((L9 (e9 * 2 + 1)).map Prod.fst) o h1
                  have hnn : (modeOf (L9 (e9 * 2)) != modeOf (L9 (e9 * 2))) = false := by simp
                  rw [G8.out] at HHX
                  rw [G9.out] at HHY
                  generalize (L9 (e9 * 2)).map Prod.fst = lh at *
                  generalize (L9 (e9 * 2 + 1)).map Prod.fst = lw at *
                  generalize modeOf (L9 (e9 * 2)) = mo at *
                  have HS4 := hide fun x a v (h1 : IRow x a lh) (h2 : IRow x v lh) => HSA.out x a v lh h1 h2
                  have HS5 := hide fun x a v (h1 : IRow x a lw) (h2 : IRow x v lw) => HSA.out x a v lw h1 h2
                  rw [show decide (lh = lh) = true by simp] at HS4
                  rw [show decide (lw = lw) = true by simp] at HS5
                  clear g8 g9 G8 G9 F6 HSA HEQ2
                  go_wp2_with (first
                    | (go_at_call 14; refine HHA.out.mono ?_; rintro e' w14 ⟨v1, rfl, hA14, hC14, hI14⟩; have HA14 := hide hA14; have HI14 := hide hI14; clear hA14 hC14 hI14 HHA)
                    | (go_at_call 14; refine (HHB.out _ HA14.out).mono ?_; rintro e' w15 ⟨v2, rfl, hA15, hC15, hI15⟩; have HA15 := hide hA15.symm; have HJ15 := hide hI15; have HI15 := hide (HA14.out.b.irowA HI14.out hC15); clear hA15 hC15 hI15 HHB)
                    | (go_at_call 13; refine (HWA.out _ HA15.out).mono ?_; rintro e' w16 ⟨v3, rfl, hA16, hC16, hI16⟩; have HA16 := hide hA16; have HK16 := hide hI16; have HI16 := hide (HA15.out.a.irowA HI15.out hC16); have HJ16 := hide (HA15.out.a.irowA HJ15.out hC16); clear hA16 hC16 hI16 HWA)
                    | (go_at_call 13; refine (HWB.out _ HA16.out).mono ?_; rintro e' w17 ⟨v4, rfl, hA17, hC17, hI17⟩; have HA17 := hide hA17.symm; have HM17 := hide hI17; have HI17 := hide (HA16.out.b.irowA HI16.out hC17); have HJ17 := hide (HA16.out.b.irowA HJ16.out hC17); have HK17 := hide (HA16.out.b.irowA HK16.out hC17); clear hA17 hC17 hI17 HWB)
                    | (go_at_call 15; refine (HNU.out _ _).mono ?_; rintro e' wq ⟨rfl, hwq⟩; have hwq2 := hwq.symm; clear hwq; subst hwq2)
                    | (go_at_call 17; refine (HS4.out _ _ _ HI17.out HJ17.out).mono ?_; rintro e' w18 ⟨rfl, hb18⟩; have HA18 := hide (HA17.out.below hb18); have HI18 := hide (HI17.out.kept (w' := w18) fun g hg => hb18.block g (HI17.out.lt hg)); have HK18 := hide (HK17.out.kept (w' := w18) fun g hg => hb18.block g (HK17.out.lt hg)); have HM18 := hide (HM17.out.kept (w' := w18) fun g hg => hb18.block g (HM17.out.lt hg)); clear hb18 HS4)
                    | (go_at_call 17; refine (HS5.out _ _ _ HK18.out HM18.out).mono ?_; rintro e' w19 ⟨rfl, hb19⟩; have HA19 := hide (HA18.out.below hb19); have HI19 := hide (HI18.out.kept (w' := w19) fun g hg => hb19.block g (HI18.out.lt hg)); have HK19 := hide (HK18.out.kept (w' := w19) fun g hg => hb19.block g (HK18.out.lt hg)); clear hb19 HS5)
                    | (go_at_call 20; refine (HHX.out _ _ HI19.out).mono ?_; rintro e' wq ⟨rfl, hwq⟩; have hwq2 := hwq.symm; clear hwq; subst hwq2; clear HHX)
                    | (go_at_call 20; refine (HHY.out _ _ HK19.out).mono ?_; rintro e' wq ⟨rfl, hwq⟩; have hwq2 := hwq.symm; clear hwq; subst hwq2))
                  go_roundw
                  case rel => exact ⟨e9 + 1, by omega, by go_num, HA19.out⟩
                  case measure => simp [intOf]; omega
                · have hnl9 : ¬ (e9 : Int) < (n : Int) := by omega
                  have HFB := hide (HB0.out.trans (HA13.out.a.bel.mono HB0.out.size))
                  go_wp2_with fail
                  go_ret
                  exact ⟨rfl, HFB.out⟩
            | false =>
              have hwb := HWB.out rfl
              have hlt3 : ¬ wt9 < b := by omega
              go_wp2_with fail
              go_region_held3 (fun z => z.cell? ⟨w.heap.size, 1, none⟩ = some (.int .i64 b)) (first | exact y1 | exact y5 | exact y7 | assumption)
                (first
                  | (go_at_call 17; refine HS2.out.mono ?_; rintro e' w10 ⟨rfl, hb10⟩; have HA10 := hide (HAD.out.below hb10); have F10 : Hid (IRow w10 xv in9) := hide (F1D.out.kept fun g hg => hb10.block g (F1D.out.lt hg)); obtain ⟨y4, y5⟩ := HC0.out _ HA10.out.a.bel; clear hb10)
                  | (go_at_call 20; refine (HH2.out _ F10.out).mono ?_; rintro e' wq ⟨rfl, hwq⟩; have hwq2 := hwq.symm; clear hwq; subst hwq2)
                  | (go_at_call 21; refine (HWG.out _ HA10.out).mono ?_; rintro e' w12 ⟨rfl, hA12, hC12⟩; have HA12 := hide (HA10.out.askA hA12 hC12); obtain ⟨y6, y7⟩ := HC0.out _ HA12.out.a.bel; clear hA12 hC12))
              obtain ⟨z8, z9⟩ := HC0.out _ HA12.out.a.bel
              have HEQ2 : Hid (∀ l : List Int, decide (l = l) = true) := hide fun l => by simp
              clear HS2 HS3 HH2 HH3 HSM F1 F2 F1D F2D F3 HAD HA9 HWG HWB HEQ
              go_wp2_with fail
              go_loopw [17] (fun x wr => ∃ j : Nat, j ≤ n ∧ x = .int .i64 (j : Int) ∧ A2 w1 wr n b (i + 1) p bb Va9 L9 wt9 q cc Vb9 L9 wt9) (fun x _ => n - (intOf x).toNat)
              case atStart => exact ⟨0, Nat.zero_le _, rfl, HA12.out⟩
              case round =>
                obtain ⟨e9, he9, rfl, hA13⟩ := hrel
                have HA13 := hide hA13
                obtain ⟨d8, d9⟩ := HC0.out _ hA13.a.bel
                clear hA13 HA12 z8 z9
                by_cases hlt9 : e9 < n
                · obtain ⟨g8, g9⟩ := F6.out e9 hlt9
                  have G8 := hide g8
                  have G9 := hide g9
                  have HHA := hide (HA13.out.holders (by omega) hlt9)
                  have HHB := hide fun x (h : A2 w1 x n b (i + 1) p bb Va9 L9 wt9 q cc Vb9 L9 wt9) => h.symm.holders (by omega) hlt9
                  have HWA := hide fun x (h : A2 w1 x n b (i + 1) p bb Va9 L9 wt9 q cc Vb9 L9 wt9) => h.waiters (by omega) hlt9
                  have HWB := hide fun x (h : A2 w1 x n b (i + 1) p bb Va9 L9 wt9 q cc Vb9 L9 wt9) => h.symm.waiters (by omega) hlt9
                  have HSA := hide fun x a v l (h1 : IRow x a l) (h2 : IRow x v l) => same_any x a v l l h1 h2
                  have HHX := hide fun x a (h1 : IRow x a ((L9 (e9 * 2)).map Prod.fst)) => has_any x a ((L9 (e9 * 2)).map Prod.fst) o h1
                  have HHY := hide fun x a (h1 : IRow x a ((L9 (e9 * 2 + 1)).map Prod.fst)) => has_any x a ((L9 (e9 * 2 + 1)).map Prod.fst) o h1
                  have hnn : (modeOf (L9 (e9 * 2)) != modeOf (L9 (e9 * 2))) = false := by simp
                  rw [G8.out] at HHX
                  rw [G9.out] at HHY
                  generalize (L9 (e9 * 2)).map Prod.fst = lh at *
                  generalize (L9 (e9 * 2 + 1)).map Prod.fst = lw at *
                  generalize modeOf (L9 (e9 * 2)) = mo at *
                  have HS4 := hide fun x a v (h1 : IRow x a lh) (h2 : IRow x v lh) => HSA.out x a v lh h1 h2
                  have HS5 := hide fun x a v (h1 : IRow x a lw) (h2 : IRow x v lw) => HSA.out x a v lw h1 h2
                  rw [show decide (lh = lh) = true by simp] at HS4
                  rw [show decide (lw = lw) = true by simp] at HS5
                  clear g8 g9 G8 G9 F6 HSA HEQ2
                  go_wp2_with (first
                    | (go_at_call 14; refine HHA.out.mono ?_; rintro e' w14 ⟨v1, rfl, hA14, hC14, hI14⟩; have HA14 := hide hA14; have HI14 := hide hI14; clear hA14 hC14 hI14 HHA)
                    | (go_at_call 14; refine (HHB.out _ HA14.out).mono ?_; rintro e' w15 ⟨v2, rfl, hA15, hC15, hI15⟩; have HA15 := hide hA15.symm; have HJ15 := hide hI15; have HI15 := hide (HA14.out.b.irowA HI14.out hC15); clear hA15 hC15 hI15 HHB)
                    | (go_at_call 13; refine (HWA.out _ HA15.out).mono ?_; rintro e' w16 ⟨v3, rfl, hA16, hC16, hI16⟩; have HA16 := hide hA16; have HK16 := hide hI16; have HI16 := hide (HA15.out.a.irowA HI15.out hC16); have HJ16 := hide (HA15.out.a.irowA HJ15.out hC16); clear hA16 hC16 hI16 HWA)
                    | (go_at_call 13; refine (HWB.out _ HA16.out).mono ?_; rintro e' w17 ⟨v4, rfl, hA17, hC17, hI17⟩; have HA17 := hide hA17.symm; have HM17 := hide hI17; have HI17 := hide (HA16.out.b.irowA HI16.out hC17); have HJ17 := hide (HA16.out.b.irowA HJ16.out hC17); have HK17 := hide (HA16.out.b.irowA HK16.out hC17); clear hA17 hC17 hI17 HWB)
                    | (go_at_call 15; refine (HNU.out _ _).mono ?_; rintro e' wq ⟨rfl, hwq⟩; have hwq2 := hwq.symm; clear hwq; subst hwq2)
                    | (go_at_call 17; refine (HS4.out _ _ _ HI17.out HJ17.out).mono ?_; rintro e' w18 ⟨rfl, hb18⟩; have HA18 := hide (HA17.out.below hb18); have HI18 := hide (HI17.out.kept (w' := w18) fun g hg => hb18.block g (HI17.out.lt hg)); have HK18 := hide (HK17.out.kept (w' := w18) fun g hg => hb18.block g (HK17.out.lt hg)); have HM18 := hide (HM17.out.kept (w' := w18) fun g hg => hb18.block g (HM17.out.lt hg)); clear hb18 HS4)
                    | (go_at_call 17; refine (HS5.out _ _ _ HK18.out HM18.out).mono ?_; rintro e' w19 ⟨rfl, hb19⟩; have HA19 := hide (HA18.out.below hb19); have HI19 := hide (HI18.out.kept (w' := w19) fun g hg => hb19.block g (HI18.out.lt hg)); have HK19 := hide (HK18.out.kept (w' := w19) fun g hg => hb19.block g (HK18.out.lt hg)); clear hb19 HS5)
                    | (go_at_call 20; refine (HHX.out _ _ HI19.out).mono ?_; rintro e' wq ⟨rfl, hwq⟩; have hwq2 := hwq.symm; clear hwq; subst hwq2; clear HHX)
                    | (go_at_call 20; refine (HHY.out _ _ HK19.out).mono ?_; rintro e' wq ⟨rfl, hwq⟩; have hwq2 := hwq.symm; clear hwq; subst hwq2))
                  go_roundw
                  case rel => exact ⟨e9 + 1, by omega, by go_num, HA19.out⟩
                  case measure => simp [intOf]; omega
                · have hnl9 : ¬ (e9 : Int) < (n : Int) := by omega
                  have HFB := hide (HB0.out.trans (HA13.out.a.bel.mono HB0.out.size))
                  go_wp2_with fail
                  go_ret
                  exact ⟨rfl, HFB.out⟩
end Go.Proofs.Ytijfnacplikibaa
