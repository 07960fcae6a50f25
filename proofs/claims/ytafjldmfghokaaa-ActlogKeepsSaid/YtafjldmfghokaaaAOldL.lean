import Derived.Test.YtafjldmfghokaaaAOld
namespace Go.Proofs.Ytafjldmfghokaaa
open Go.RowKit Go.Sort
set_option linter.unusedVariables false
set_option linter.unusedSimpArgs false
set_option maxRecDepth 20000

/-- a list of ints that came in -/
def ISl (w : World) (v : Value) (zs : List Int) : Prop :=
  ∃ a cap, v = .slice a zs.length cap ∧ zs.length ≤ cap ∧ cap ≤ maxLen ∧ (∀ z ∈ zs, i64ok z) ∧ (0 < zs.length → ∃ b off, a = some ⟨b, off, none⟩ ∧ ∀ i, i < zs.length → w.cell? ⟨b, off + i, none⟩ = some (.int .i64 (zs.getD i 0)))
theorem ptrI (W : World) : (binOp .eql 25 (.pointer none) (.pointer none)).run Try.prog W = .ok (.bool true) W := by kernel_rfl
theorem ptrI' (W : World) (a : Addr) : (binOp .eql 25 (.pointer (some a)) (.pointer none)).run Try.prog W = .ok (.bool false) W := by kernel_rfl
theorem old_no {w : World} {sv : Value} {zs : List Int} (n : Int) (hn : ¬ (1 ≤ n ∧ n ≤ 16)) (hs : ISl w sv zs) :
    Calls Try.prog 4 #[.int .i64 n, sv] w fun e w' => e = .returned (.bool true) ∧ Below w.heap.size w w' := by
  have q1 := ptrI
  have HN := hide (newI_no w n hn)
  have HNU := hide (num_any w 1)
  have HB := hide (Below.refl w.heap.size w)
  obtain ⟨a, cap, rfl, h1, h2, -, -⟩ := hs
  unfold maxLen at h2
  generalize zs.length = len at *
  by_cases hlt : n < 1
  · go_enter Try.func4, Try.ntmps4
    go_wp2_with (first
      | (go_at_call 11; refine HN.out.mono ?_; rintro e w1 ⟨rfl, rfl⟩)
      | (go_at_call 12; refine HNU.out.mono ?_; rintro e w1 ⟨rfl, rfl⟩))
    go_ret
    exact ⟨rfl, HB.out⟩
  · have hgt : 16 < n := by omega
    go_enter Try.func4, Try.ntmps4
    go_wp2_with (first
      | (go_at_call 11; refine HN.out.mono ?_; rintro e w1 ⟨rfl, rfl⟩)
      | (go_at_call 12; refine HNU.out.mono ?_; rintro e w1 ⟨rfl, rfl⟩))
    go_ret
    exact ⟨rfl, HB.out⟩
set_option maxHeartbeats 8000000 in
theorem old_any {w : World} {sv : Value} {zs : List Int} (n : Nat) (hn1 : 1 ≤ n) (hn2 : n ≤ 16) (hs : ISl w sv zs) (hz : zs.length ≤ 1000000000000000) :
    Calls Try.prog 4 #[.int .i64 (n : Int), sv] w fun e w' => e = .returned (.bool true) ∧ Below w.heap.size w w' := by
  obtain ⟨i0, hi, hz0, hz1, hz2⟩ := info_parts info_use
  have q2 := ptrI'
  have HN := hide (newI_any w n hn1 hn2)
  have HNU := hide fun (x : World) (e : Int) => num_any x e
  obtain ⟨a, cap, rfl, h1, h2, h3, h4⟩ := hs
  unfold maxLen at h2
  have HZ : Hid (∀ i, i < zs.length → i64ok (zs.getD i 0)) := hide fun i hi => h3 _ (by simp [List.getD, hi])
  have HC : Hid (0 < zs.length → _) := hide h4
  clear h3 h4
  generalize zs.length = len at *
  go_enter Try.func4, Try.ntmps4
  go_wp2_with (first
    | (go_at_call 11; refine HN.out.mono ?_; rintro e w1 ⟨rfl, g1, g2⟩; have HOS := hide (OS.start g1 hn1 hn2 g2 (Nat.le_succ _) (Nat.le_refl _)); clear g1 g2)
    | (go_at_call 12; refine (HNU.out _ _).mono ?_; rintro e w2 ⟨rfl, rfl⟩))
  clear HN
  generalize w.heap.size + 1 = p at *
  go_loopw [9, 10] (fun y x wr => ∃ (i : Nat) (L : List Us), i ≤ len ∧ x = .int .i64 (i : Int) ∧ OS w wr n p y L L i) (fun _ x _ => len - (intOf x).toNat)
  case atStart => exact ⟨0, [], Nat.zero_le _, rfl, HOS.out⟩
  case round =>
    clear HOS
    obtain ⟨i, L, hin, rfl, hos⟩ := hrel
    have HOS := hide hos
    obtain ⟨bl1, bl2⟩ := hos.len
    obtain ⟨ab, cb, eb, hb1, hb2⟩ := hos.bk.form
    subst eb
    unfold maxLen at hb2
    have hbe := hos.be
    have HGB := hide hos.gb
    clear hos
    by_cases hlt : i < len
    · obtain ⟨b, off, rfl, hc⟩ := HC.out (by omega)
      have c0 := hc i hlt
      have c1 : wr.cell? ⟨b, off + i, none⟩ = some (.int .i64 (zs.getD i 0)) := by rw [hbe.cell (p := ⟨b, off + i, none⟩) (World.block_lt_of_cell? w _ c0)]; exact c0
      have hzi := HZ.out i hlt
      clear hc c0 HC HZ
      generalize zs.getD i 0 = z at *
      unfold i64ok at hzi
      by_cases hneg : z < 0
      · have hk : i64ok (-1 - z) := by unfold i64ok; omega
        have HK := hide hk
        have HFI := hide (find_any HOS.out.bk (by omega) (-1 - z))
        clear hk
        generalize hkey : -1 - z = key at *
        have HKEY := hide hkey
        clear hkey
        have hsub : (-1 : Int) - z = key := HKEY.out
        go_wp2_with (first
          | (go_at_call 13; refine HFI.out.mono ?_; rintro e w1 ⟨r, rfl, rfl, hfr⟩; have HFR := hide hfr; clear hfr))
        rcases HFR.out with ⟨j, u, hj, hku, rfl⟩ | ⟨hno, rfl⟩
        · obtain ⟨g, cap', cs, eg, -, -, s0, s1, s2, s3⟩ := HOS.out.bk.at hj
          simp only [Value.slice.injEq] at eg
          obtain ⟨rfl, -, -⟩ := eg
          have hjl : j < L.length := (List.getElem?_eq_some_iff.1 hj).1
          obtain ⟨gb1, gb2⟩ := HGB.out u (List.mem_of_getElem? hj)
          have HJ := hide hj
          by_cases hbk : u.back < u.got
          · have HP : Hid (∀ m, Calls Try.prog 14 #[.pointer (some ⟨p, 0, none⟩), .int .i64 key] (w1.drewN m) fun e w' => e = .returned (.int .i64 0) ∧ OS w w' n p (.slice (some ⟨g, 0, none⟩) L.length cb) (L.set j { u with back := u.back + 1, at_ := i }) L (i + 1)) := hide fun m => (HOS.out.below (below_drewN (Below.refl _ _) m)).putAt' (by omega) HK.out hku hj hbk
            have HAT : Hid (∀ w2, OS w w2 n p (.slice (some ⟨g, 0, none⟩) L.length cb) (L.set j { u with back := u.back + 1, at_ := i }) L (i + 1) → w2.cell? ⟨g, j * 4 + 2, none⟩ = some (.int .i64 (u.back : Int)) ∧ w2.frozen? ⟨g, j * 4 + 2, none⟩ = false ∧ (w2.setCell ⟨g, j * 4 + 2, none⟩ (.int .i64 ((u.back : Int) + 1))).cell? ⟨g, j * 4 + 3, none⟩ = some (.int .i64 (u.at_ : Int)) ∧ (w2.setCell ⟨g, j * 4 + 2, none⟩ (.int .i64 ((u.back : Int) + 1))).frozen? ⟨g, j * 4 + 3, none⟩ = false ∧ OS w ((w2.setCell ⟨g, j * 4 + 2, none⟩ (.int .i64 ((u.back : Int) + 1))).setCell ⟨g, j * 4 + 3, none⟩ (.int .i64 (i : Int))) n p (.slice (some ⟨g, 0, none⟩) L.length cb) (L.set j { u with back := u.back + 1, at_ := i }) (L.set j { u with back := u.back + 1, at_ := i }) (i + 1)) := hide fun w2 h2 => by
              obtain ⟨g2, cap2, cs2, eg2, -, hcs2, t0, t1, t2, t3⟩ := h2.bk.at hj
              simp only [Value.slice.injEq, Option.some.injEq, Addr.mk.injEq] at eg2
              obtain ⟨⟨rfl, -, -⟩, -, -⟩ := eg2
              have o1 := h2.store (f := 2) (u' := { u with back := u.back + 1 }) hj (by decide) (x := .int .i64 ((u.back : Int) + 1)) (by simp [Us.cells])
              have hj2 : (L.set j { u with back := u.back + 1 })[j]? = some { u with back := u.back + 1 } := by rw [List.getElem?_set_self hjl]
              obtain ⟨g3, cap3, cs3, eg3, -, hcs3, y0, y1, y2, y3⟩ := o1.bk.at hj2
              simp only [Value.slice.injEq, Option.some.injEq, Addr.mk.injEq] at eg3
              obtain ⟨⟨rfl, -, -⟩, -, -⟩ := eg3
              have el : (L.set j { u with back := u.back + 1 }).length = L.length := by simp
              rw [← el] at o1
              have o2 := o1.store (f := 3) (u' := { u with back := u.back + 1, at_ := i }) hj2 (by decide) (x := .int .i64 (i : Int)) (by simp [Us.cells])
              rw [el, List.set_set] at o2
              exact ⟨t2, frozen_of_row _ _ _ _ 33 hcs2, y3, frozen_of_row _ _ _ _ 33 hcs3, o2⟩
            have b1 : (u.back : Int) < (u.got : Int) := by omega
            clear hbk hj hku HGB
            generalize u.back = ub1 at *
            generalize u.got = ug1 at *
            go_quiet (fail)
            go_wp2_with (first
              | (go_at_call 14; refine (HP.out _).mono ?_; rintro e w2 ⟨rfl, h2⟩; obtain ⟨d1, d2, d3, d4, d5⟩ := HAT.out w2 h2; have HF := hide d5; clear h2 d5)
              | (go_at_call 12; refine (HNU.out _ _).mono ?_; rintro e w9 ⟨rfl, rfl⟩))
            go_roundw
            case rel => exact ⟨i + 1, _, by omega, by go_num, HF.out⟩
            case measure => simp [intOf]; omega
          · have HP : Hid (∀ m, Calls Try.prog 14 #[.pointer (some ⟨p, 0, none⟩), .int .i64 key] (w1.drewN m) fun e w' => e = .returned (.int .i64 42) ∧ OS w w' n p (.slice (some ⟨g, 0, none⟩) L.length cb) L L (i + 1)) := hide fun m => (HOS.out.below (below_drewN (Below.refl _ _) m)).putNo (by omega) HK.out fun v hv ev => by
              obtain ⟨jv, hjv⟩ := List.getElem?_of_mem hv
              have := HOS.out.kd jv j v u hjv hj (ev.trans hku.symm)
              subst this
              rw [hj] at hjv
              have := Option.some.inj hjv
              subst this
              exact hbk
            clear hj hku HGB
            generalize u.back = ub1 at *
            generalize u.got = ug1 at *
            go_quiet (fail)
            go_wp2_with (first
              | (go_at_call 14; refine (HP.out _).mono ?_; rintro e w2 ⟨rfl, h2⟩; have HF := hide h2; clear h2)
              | (go_at_call 12; refine (HNU.out _ _).mono ?_; rintro e w9 ⟨rfl, rfl⟩))
            go_roundw
            case rel => exact ⟨i + 1, _, by omega, by go_num, HF.out⟩
            case measure => simp [intOf]; omega
        · have HP : Hid (∀ m, Calls Try.prog 14 #[.pointer (some ⟨p, 0, none⟩), .int .i64 key] (w1.drewN m) fun e w' => e = .returned (.int .i64 42) ∧ OS w w' n p (.slice ab L.length cb) L L (i + 1)) := hide fun m => (HOS.out.below (below_drewN (Below.refl _ _) m)).putNo (by omega) HK.out fun v hv ev => absurd ev (hno v hv)
          clear hno HGB
          go_quiet (fail)
          go_wp2_with (first
            | (go_at_call 14; refine (HP.out _).mono ?_; rintro e w2 ⟨rfl, h2⟩; have HF := hide h2; clear h2)
            | (go_at_call 12; refine (HNU.out _ _).mono ?_; rintro e w9 ⟨rfl, rfl⟩))
          go_roundw
          case rel => exact ⟨i + 1, _, by omega, by go_num, HF.out⟩
          case measure => simp [intOf]; omega
      · have HK := hide hzi
        have HFI := hide (find_any HOS.out.bk (by omega) z)
        have HOL := hide (oldest_any HOS.out.bk (by omega))
        go_wp2_with (first
          | (go_at_call 13; refine HFI.out.mono ?_; rintro e w1 ⟨r, rfl, rfl, hfr⟩; have HFR := hide hfr; clear hfr)
          | (go_at_call 15; refine HOL.out.mono ?_; rintro e w2 ⟨k, s, rfl, hq, hor⟩; have HOR := hide hor; have HO2 := hide (HOS.out.below hq.2); clear hq hor))
        rcases HFR.out with ⟨j, u, hj, hku, rfl⟩ | ⟨hno, rfl⟩
        · obtain ⟨g, cap', cs, eg, -, -, s0, s1, s2, s3⟩ := HOS.out.bk.at hj
          simp only [Value.slice.injEq] at eg
          obtain ⟨rfl, -, -⟩ := eg
          have hjl : j < L.length := (List.getElem?_eq_some_iff.1 hj).1
          obtain ⟨gb1, gb2⟩ := HGB.out u (List.mem_of_getElem? hj)
          have HG : Hid (Calls Try.prog 16 #[.pointer (some ⟨p, 0, none⟩), .int .i64 z] w2 fun e w' => ∃ (slot : Nat) (old : Int), e = .returned (.tuple #[.int .i64 (slot : Int), .bool false, .int .i64 old, .bool false, .int .i64 0]) ∧ OS w w' n p (.slice (some ⟨g, 0, none⟩) L.length cb) (L.set j { u with got := u.got + 1 }) L (i + 1)) := hide (HO2.out.getHot' (by omega) HK.out hku hj)
          have HAT : Hid (∀ w3, OS w w3 n p (.slice (some ⟨g, 0, none⟩) L.length cb) (L.set j { u with got := u.got + 1 }) L (i + 1) → w3.cell? ⟨g, j * 4 + 1, none⟩ = some (.int .i64 (u.got : Int)) ∧ w3.frozen? ⟨g, j * 4 + 1, none⟩ = false ∧ OS w (w3.setCell ⟨g, j * 4 + 1, none⟩ (.int .i64 ((u.got : Int) + 1))) n p (.slice (some ⟨g, 0, none⟩) L.length cb) (L.set j { u with got := u.got + 1 }) (L.set j { u with got := u.got + 1 }) (i + 1)) := hide fun w3 h2 => by
            obtain ⟨g2, cap2, cs2, eg2, -, hcs2, t0, t1, t2, t3⟩ := h2.bk.at hj
            simp only [Value.slice.injEq, Option.some.injEq, Addr.mk.injEq] at eg2
            obtain ⟨⟨rfl, -, -⟩, -, -⟩ := eg2
            exact ⟨t1, frozen_of_row _ _ _ _ 33 hcs2, h2.store (f := 1) (u' := { u with got := u.got + 1 }) hj (by decide) (x := .int .i64 ((u.got : Int) + 1)) (by simp [Us.cells])⟩
          have HLS : Hid ((L.set j { u with got := u.got + 1 }).length = L.length) := hide (by simp)
          clear hj hku HGB s0 s1 s2 s3
          generalize u.got = ug1 at *
          go_wp2_with (first
            | (go_at_call 16; refine HG.out.mono ?_; rintro e w3 ⟨slot, old, rfl, h2⟩; obtain ⟨d1, d2, d3⟩ := HAT.out w3 h2; have HKE := hide d3.keys; rw [HLS.out] at HKE; clear h2 d3)
            | (go_at_call 18; refine (HKE.out).mono ?_; rintro e w8 ⟨ak, ck, rfl, hk8⟩; have HF8 := hide hk8; clear hk8)
            | (go_at_call 12; refine (HNU.out _ _).mono ?_; rintro e w9 ⟨rfl, rfl⟩))
          go_roundw
          case rel => exact ⟨i + 1, _, by omega, by go_num, HF8.out⟩
          case measure => simp [intOf]; omega
        · by_cases hll : L.length < n
          · have HG := hide (HO2.out.getNew (by omega) HK.out hno hll)
            have HFN : Hid ((L ++ [(⟨z, 1, 0, 0⟩ : Us)]).length = L.length + 1 ∧ flat (L ++ [(⟨z, 1, 0, 0⟩ : Us)]) = flat L ++ [.int .i64 z, .int .i64 1, .int .i64 0, .int .i64 0]) := hide ⟨by simp, by rw [flat_snoc]; rfl⟩
            have HBK : Hid (∀ w3 v' w4, OS w w3 n p (.slice ab L.length cb) (L ++ [⟨z, 1, 0, 0⟩]) L (i + 1) → w4.ownsRow w.heap.size 33 4 v' (L.length + 1) (flat L ++ [.int .i64 z, .int .i64 1, .int .i64 0, .int .i64 0]) → (w3.alloc (.cells #[.int .i64 z, .int .i64 1, .int .i64 0, .int .i64 0] 33)).grownBy w4 (Value.slice ab L.length cb).ownBlock → OS w w4 n p v' (L ++ [⟨z, 1, 0, 0⟩]) (L ++ [⟨z, 1, 0, 0⟩]) (i + 1)) := hide fun w3 v' w4 h3 h4 h5 => h3.book (by unfold BkR; rw [HFN.out.1, HFN.out.2]; exact h4) ⟨h5.os, h5.tape, h5.output, by have := h5.size; rw [World.size_alloc] at this; omega, fun b hb hn => by rw [h5.block b (by rw [World.size_alloc]; omega) (fun e => hn e.symm), Below.heap_alloc _ _ b hb]⟩
            have HO3 : Hid (∀ w3, OS w w3 n p (.slice ab L.length cb) (L ++ [⟨z, 1, 0, 0⟩]) L (i + 1) → (w3.alloc (.cells #[.int .i64 z, .int .i64 1, .int .i64 0, .int .i64 0] 33)).ownsRow w.heap.size 33 4 (.slice ab L.length cb) L.length (flat L) ∧ w.heap.size ≤ (w3.alloc (.cells #[.int .i64 z, .int .i64 1, .int .i64 0, .int .i64 0] 33)).heap.size) := hide fun w3 h3 => ⟨World.ownsRow.alloc h3.bk _, by rw [World.size_alloc]; have := h3.be.size; omega⟩
            clear hno HGB
            generalize flat L = xs at *
            go_wp2_with (first
              | (go_at_call 16; refine HG.out.mono ?_; rintro e w3 ⟨slot, old, rfl, h2⟩; have HO4 := hide h2; obtain ⟨o3, o4⟩ := HO3.out w3 h2; clear h2)
              | (go_at_call 12; refine (HNU.out _ _).mono ?_; rintro e w9 ⟨rfl, rfl⟩)
              | (at_builtin; (refine wpList_append_own_wide _ rfl (.tmp 168) (.tmp 171) 30 rfl w.heap.size 33 i0 (.agg #[.int .i64 0, .int .i64 0, .int .i64 0, .int .i64 0]) 4 32 Try.underlying30 hi hz0 hz1 hz2 rfl (by decide) _ _ _ rfl o3 ⟨_, 0, none⟩ 1 1 [.int .i64 z, .int .i64 1, .int .i64 0, .int .i64 0] rfl rfl (cells_new4 _ _ _ _ _ _) (by simp [Value.oneCell']) (by unfold maxLen; omega) (by omega) o4 ?_)))
            intro v' w4 y1 y2 y3
            have hos5 := HBK.out _ _ _ HO4.out y1 y2
            obtain ⟨av, cv, ev, hv1, hv2⟩ := hos5.bk.form
            rw [HFN.out.1] at ev hv1
            subst ev
            unfold maxLen at hv2
            have HKE := hide hos5.keys
            rw [HFN.out.1] at HKE
            clear y1 y2 y3 hos5 o3 o4
            go_wp2_with (first
              | (go_at_call 18; refine (HKE.out).mono ?_; rintro e w8 ⟨ak, ck, rfl, hk8⟩; have HF8 := hide hk8; clear hk8))
            go_roundw
            case rel => exact ⟨i + 1, _, by omega, by go_num, HF8.out⟩
            case measure => simp [intOf]; omega
          · cases s with
            | false =>
              have HG := hide (HO2.out.getNone (by omega) HK.out hno hll HOR.out)
              clear hno HGB
              go_wp2_with (first
                | (go_at_call 16; refine HG.out.mono ?_; rintro e w3 ⟨slot, old, rfl, h2⟩; have HKE := hide h2.keys; clear h2)
                | (go_at_call 18; refine (HKE.out).mono ?_; rintro e w8 ⟨ak, ck, rfl, hk8⟩; have HF8 := hide hk8; clear hk8)
                | (go_at_call 12; refine (HNU.out _ _).mono ?_; rintro e w9 ⟨rfl, rfl⟩))
              go_roundw
              case rel => exact ⟨i + 1, _, by omega, by go_num, HF8.out⟩
              case measure => simp [intOf]; omega
            | true =>
              have HG := hide (HO2.out.getOld (by omega) HK.out hno hll HOR.out)
              have HWO : Hid (∀ w3, OS w w3 n p (.slice ab L.length cb) (L.filter (fun u => decide (u.key ≠ k)) ++ [⟨z, 1, 0, 0⟩]) L (i + 1) → Calls Try.prog 17 #[.slice ab L.length cb, .int .i64 k] w3 fun e w' => ∃ v', e = .returned v' ∧ BkR w.heap.size w' v' (L.filter (fun u => decide (u.key ≠ k))) ∧ Below w3.heap.size w3 w') := hide fun w3 h3 => without_any h3.bk (by omega) h3.be.size k
              have HFN : Hid ((L.filter (fun u => decide (u.key ≠ k)) ++ [(⟨z, 1, 0, 0⟩ : Us)]).length = (L.filter (fun u => decide (u.key ≠ k))).length + 1 ∧ flat (L.filter (fun u => decide (u.key ≠ k)) ++ [(⟨z, 1, 0, 0⟩ : Us)]) = flat (L.filter (fun u => decide (u.key ≠ k))) ++ [.int .i64 z, .int .i64 1, .int .i64 0, .int .i64 0]) := hide ⟨by simp, by rw [flat_snoc]; rfl⟩
              have hfl : (L.filter (fun u => decide (u.key ≠ k))).length ≤ 16 := Nat.le_trans (List.length_filter_le _ _) (by omega)
              have HBK : Hid (∀ w3 w5 bw v' w4, OS w w3 n p (.slice ab L.length cb) (L.filter (fun u => decide (u.key ≠ k)) ++ [⟨z, 1, 0, 0⟩]) L (i + 1) → BkR w.heap.size w5 bw (L.filter (fun u => decide (u.key ≠ k))) → Below w3.heap.size w3 w5 → w4.ownsRow w.heap.size 33 4 v' ((L.filter (fun u => decide (u.key ≠ k))).length + 1) (flat (L.filter (fun u => decide (u.key ≠ k))) ++ [.int .i64 z, .int .i64 1, .int .i64 0, .int .i64 0]) → (w5.alloc (.cells #[.int .i64 z, .int .i64 1, .int .i64 0, .int .i64 0] 33)).grownBy w4 bw.ownBlock → OS w w4 n p v' (L.filter (fun u => decide (u.key ≠ k)) ++ [⟨z, 1, 0, 0⟩]) (L.filter (fun u => decide (u.key ≠ k)) ++ [⟨z, 1, 0, 0⟩]) (i + 1)) := hide fun w3 w5 bw v' w4 h3 h6 h7 h4 h5 => ((h3.below h7).book h6 (Chg.refl _ _)).book (by unfold BkR; rw [HFN.out.1, HFN.out.2]; exact h4) ⟨h5.os, h5.tape, h5.output, by have := h5.size; rw [World.size_alloc] at this; omega, fun b hb hn => by rw [h5.block b (by rw [World.size_alloc]; omega) (fun e => hn e.symm), Below.heap_alloc _ _ b hb]⟩
              have HO3 : Hid (∀ w3 w5 bw, OS w w3 n p (.slice ab L.length cb) (L.filter (fun u => decide (u.key ≠ k)) ++ [⟨z, 1, 0, 0⟩]) L (i + 1) → BkR w.heap.size w5 bw (L.filter (fun u => decide (u.key ≠ k))) → Below w3.heap.size w3 w5 → (w5.alloc (.cells #[.int .i64 z, .int .i64 1, .int .i64 0, .int .i64 0] 33)).ownsRow w.heap.size 33 4 bw (L.filter (fun u => decide (u.key ≠ k))).length (flat (L.filter (fun u => decide (u.key ≠ k)))) ∧ w.heap.size ≤ (w5.alloc (.cells #[.int .i64 z, .int .i64 1, .int .i64 0, .int .i64 0] 33)).heap.size) := hide fun w3 w5 bw h3 h6 h7 => ⟨World.ownsRow.alloc h6 _, by rw [World.size_alloc]; have := h3.be.size; have := h7.size; omega⟩
              clear hno HGB
              generalize L.filter (fun u => decide (u.key ≠ k)) = F at *
              generalize flat F = xs at *
              go_wp2_with (first
                | (go_at_call 16; refine HG.out.mono ?_; rintro e w3 ⟨slot, rfl, h2⟩; have HO4 := hide h2; have HW4 := hide (HWO.out w3 h2); clear h2)
                | (go_at_call 12; refine (HNU.out _ _).mono ?_; rintro e w9 ⟨rfl, rfl⟩)
                | (go_at_call 17; refine HW4.out.mono ?_; rintro e w5 ⟨bw, rfl, y6, y7⟩; obtain ⟨o3, o4⟩ := HO3.out _ _ _ HO4.out y6 y7; have HY := hide (And.intro y6 y7); obtain ⟨aw, cw, ew, hw1, hw2⟩ := y6.form; subst ew; unfold maxLen at hw2; clear y6 y7)
                | (at_builtin; (refine wpList_append_own_wide _ rfl (.tmp 193) (.tmp 196) 30 rfl w.heap.size 33 i0 (.agg #[.int .i64 0, .int .i64 0, .int .i64 0, .int .i64 0]) 4 32 Try.underlying30 hi hz0 hz1 hz2 rfl (by decide) _ _ _ rfl o3 ⟨_, 0, none⟩ 1 1 [.int .i64 z, .int .i64 1, .int .i64 0, .int .i64 0] rfl rfl (cells_new4 _ _ _ _ _ _) (by simp [Value.oneCell']) (by unfold maxLen; omega) (by omega) o4 ?_)))
              intro v' w4 y1 y2 y3
              have hos5 := HBK.out _ _ _ _ _ HO4.out HY.out.1 HY.out.2 y1 y2
              obtain ⟨av, cv, ev, hv1, hv2⟩ := hos5.bk.form
              rw [HFN.out.1] at ev hv1
              subst ev
              unfold maxLen at hv2
              have HKE := hide hos5.keys
              rw [HFN.out.1] at HKE
              clear y1 y2 y3 hos5 o3 o4
              go_wp2_with (first
                | (go_at_call 18; refine (HKE.out).mono ?_; rintro e w8 ⟨ak, ck, rfl, hk8⟩; have HF8 := hide hk8; clear hk8))
              go_roundw
              case rel => exact ⟨i + 1, _, by omega, by go_num, HF8.out⟩
              case measure => simp [intOf]; omega
    · have ei : i = len := by omega
      subst ei
      have HF := hide hbe
      go_wp2_with fail
      go_ret
      exact ⟨rfl, HF.out⟩
end Go.Proofs.Ytafjldmfghokaaa
