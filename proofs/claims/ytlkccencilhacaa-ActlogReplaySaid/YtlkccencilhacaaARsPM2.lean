import Derived.Test.YtlkccencilhacaaARsPM1
import Derived.Test.YtlkccencilhacaaABook3
import Derived.Test.YtlkccencilhacaaAOwn
import Derived.Deep.Slices
namespace Go.Proofs.Ytlkccencilhacaa
open Go.RowKit Go.Sort
open Num
set_option linter.unusedVariables false
set_option linter.unusedSimpArgs false
set_option maxRecDepth 20000

theorem RF.fown {w x : World} {us : List Value} {bs : List (List Nat)} {fv ov : Value} {fs os : List Value} {n : Nat} (h : RF w x us bs fv ov fs os) (hn : fs.length = n) (o : Obj) : (x.alloc o).ownsRow 0 23 1 fv n fs := by
  subst hn; exact (h.below ((Below.refl _ _).alloc (Nat.le_refl _) o)).fr
theorem RF.oown {w x : World} {us : List Value} {bs : List (List Nat)} {fv ov : Value} {fs os : List Value} {n : Nat} (h : RF w x us bs fv ov fs os) (hn : os.length = n) (o : Obj) : (x.alloc o).ownsRow 0 23 1 ov n os := by
  subst hn; exact (h.below ((Below.refl _ _).alloc (Nat.le_refl _) o)).orow
theorem UB.own0 {x : World} {lo : Nat} {v : Value} {l : List Nat} {n : Nat} (h : UB x lo v l) (hn : l.length = n) (o : Obj) : (x.alloc o).ownsRow 0 5 1 v n (l.map byV) := by
  subst hn; exact ((h.mono (Nat.zero_le _)).below ((Below.refl _ _).alloc (Nat.le_refl _) o)).row
theorem rowSome {w : World} {base c : Nat} {e : TypeId} {v : Value} {n : Nat} {xs : List Value} (h : w.ownsRow base e c v n xs) (hn : 0 < n) : ∃ g cap, v = .slice (some ⟨g, 0, none⟩) n cap ∧ n ≤ cap := by
  rcases h.2 with ⟨e1, e2⟩ | ⟨g', cap', cur, e1, _, hg, hc, _⟩
  · omega
  · exact ⟨g', cap', e1, hc⟩
theorem RF.rsl2 {w x : World} {us : List Value} {bs : List (List Nat)} {fv : Value} {g cap m n : Nat} {fs os : List Value} {W : World} (h : RF w x us bs fv (.slice (some ⟨g, 0, none⟩) m cap) fs os) (hm : os.length = m) (hn : bs.length = n) (hf : fs.length = n) (ho : n ≤ m) (hu : ∀ k, k < bs.length → BSl W (us.getD k undef) (bs.getD k [])) : RSl x (.slice (some ⟨g, 0, none⟩) n cap) bs := by
  subst hm hn
  exact h.rsl (n := 0) hf ho hu
theorem RF.last {w x : World} {us : List Value} {bs : List (List Nat)} {fv v : Value} {g cap m n : Nat} {fs os : List Value} (h : RF w x us bs fv (.slice (some ⟨g, 0, none⟩) m cap) fs (os ++ [v])) (hn : os.length = n) : x.cell? ⟨g, n, none⟩ = some v := by
  subst hn
  have hr := h.orow
  obtain ⟨a, c, e, -⟩ := rowForm hr
  simp only [Value.slice.injEq] at e
  obtain ⟨-, rfl, -⟩ := e
  rw [hr.cellAt os.length (by simp), List.getElem?_append_right (Nat.le_refl _), Nat.sub_self]
  rfl
theorem rowAt {w : World} {e : TypeId} {g n cap j : Nat} {xs : List Value} {v : Value} (h : w.ownsRow 0 e 1 (.slice (some ⟨g, 0, none⟩) n cap) xs.length xs) (hj : xs[j]? = some v) : w.cell? ⟨g, j, none⟩ = some v := by
  obtain ⟨a, c, e, -⟩ := rowForm h
  simp only [Value.slice.injEq] at e
  obtain ⟨-, rfl, -⟩ := e
  have hl := (List.getElem?_eq_some_iff.1 hj).1
  rw [h.cellAt j (by omega)]
  exact hj
theorem step_appendG {P : Program} {w : World} {ops : Array Oper} {o : Oper} {a : Act} {K : Act → World → Prop} {Q : Exit → Act → World → Prop} {E : Prop} (hw : Region.wanted o (yielded ops a.tmps) = true) (s x : Operand) (t : TypeId)
    (ho : o.op = .call { callee := .builtin .append, args := #[s, x], argTypes := #[t, t] })
    (e : TypeId) (i : TypeInfo) (z : Value) (size bytes : Nat) (ht : P.underlying t = some (.slice e)) (hi : P.info? e = some i) (hz : i.zero = some z) (hsize : i.size = size) (hby : i.bytes = bytes) (hzs : z.cells.size = size) (hsz : 0 < size)
    (v : Value) (n : Nat) (xs : List Value) (hs : a.eval s = v) (hown : w.ownsRow 0 e size v n xs) (ad : Addr) (m c : Nat) (news : List Value) (hx : a.eval x = .slice (some ad) m c) (hl : news.length = m * size) (hm : 0 < m) (hnews : ∀ j u, news[j]? = some u → w.cell? (ad.add j) = some u) (h1 : ∀ u ∈ news, u.oneCell' = true) (h63 : n + m ≤ maxLen) (hbytes : ((n + m) + (n + m) / 4 + 192) * bytes ≤ 281474976710656)
    (h : ∀ v' w', w'.ownsRow 0 e size v' (n + m) (xs ++ news) → UponC w w' v v' → K (a.put o.dst v') w') :
    if Region.wanted o (yielded ops a.tmps) = true then Oper.wp P o a w K Q else E := by
  rw [if_pos hw]
  obtain ⟨v', w', hr, h2, h3⟩ := run_appendC (P := P) w t o.type e i z size bytes ht hi hz hsize hby hzs hsz v n xs hown ad m c news hl hm hnews h1 h63 hbytes
  unfold Oper.wp execOp
  simp only [ho, resolve, invoke, builtin, Sem.run_bind, Sem.run_pure, Result.andThen_ok, List.map_toArray, List.map_cons, List.map_nil, hs, hx, hr]
  exact h v' w' h2 h3
set_option maxHeartbeats 1000000 in
theorem sameBytesR_any {w : World} {u v : Value} {l : List Nat} (hu : BSl w u l) (hv : BSl w v l) : Calls Try.prog 13 #[u, v] w fun e w' => e = .returned (.bool true) ∧ ∃ m, w' = w.drewN m := by
  obtain ⟨a1, c1, rfl, b1, b2, -, hb, hc1⟩ := hu
  obtain ⟨a2, c2, rfl, b3, b4, -, -, hc2⟩ := hv
  unfold maxLen at b2 b4
  have HC : Hid (∀ j, j < l.length → ∃ g o g' o', a1 = some ⟨g, o, none⟩ ∧ a2 = some ⟨g', o', none⟩ ∧ w.cell? ⟨g, o + j, none⟩ = some (.int .u8 ((l.getD j 0 : Nat) : Int)) ∧ w.cell? ⟨g', o' + j, none⟩ = some (.int .u8 ((l.getD j 0 : Nat) : Int))) := hide fun j hj => by
    obtain ⟨g, o, e, hc⟩ := hc1 (by omega)
    obtain ⟨g', o', e', hc'⟩ := hc2 (by omega)
    exact ⟨g, o, g', o', e, e', hc j hj, hc' j hj⟩
  clear hc1 hc2 hb
  generalize l.length = n at *
  go_enter Try.func13, Try.ntmps13
  go_wp2_with fail
  go_loopw [5] (fun x wr => ∃ j : Nat, j ≤ n ∧ x = .int .i64 (j : Int) ∧ (∃ m, wr = w.drewN m)) (fun x _ => n - (intOf x).toNat)
  case atStart => exact ⟨0, Nat.zero_le _, rfl, ⟨0, rfl⟩⟩
  case round =>
    obtain ⟨j, hj, rfl, ⟨m0, rfl⟩⟩ := hrel
    by_cases hlt : j < n
    · obtain ⟨g, o, g', o', rfl, rfl, d1, d2⟩ := HC.out j hlt
      clear HC
      generalize l.getD j 0 = x at *
      have hne : (((x : Nat) : Int) != ((x : Nat) : Int)) = false := by simp
      go_wp2_with fail
      go_quiet (fail)
      go_wp2_with fail
      go_roundw
      case rel => exact ⟨j + 1, by omega, by go_num, ⟨_, rfl⟩⟩
      case measure => simp [intOf]; omega
    · go_wp2_with fail
      go_ret
      exact ⟨rfl, _, rfl⟩
theorem UB.ownY {x : World} {lo : Nat} {v : Value} {l : List Nat} {n : Nat} (h : UB x lo v l) (hn : l.length = n) : x.ownsRow 0 5 1 v n (l.map byV) := by
  subst hn; exact (h.mono (Nat.zero_le _)).row
theorem UB.pushY {x w6 : World} {lo : Nat} {v v6 : Value} {l : List Nat} (h : UB x lo v l) (hlo : lo ≤ x.heap.size) (ho : w6.ownsRow 0 5 1 v6 (l.length + 8) (l.map byV ++ T8.map byV)) (hu : UponC x w6 v v6) : UB w6 lo v6 (l ++ T8) := by
  refine ⟨⟨by have := ho.1; simp [T8] at this ⊢, ?_⟩, fun b hb => ?_⟩
  · rw [List.map_append]
    rcases ho.2 with ⟨e, h0⟩ | ⟨g, cap, cur, e, hg, r⟩
    · omega
    · refine .inr ⟨g, cap, cur, by rw [e]; simp [T8], ?_, by simpa [T8] using r⟩
      rcases hu.loc g (by rw [e]; rfl) with e2 | e2
      · exact h.own e2
      · rw [e2]; omega
  · rcases List.mem_append.1 hb with hb | hb
    · exact h.lt b hb
    · simp [T8] at hb; omega
theorem UB.pushBY {w x w6 : World} {v v6 : Value} {l : List Nat} (h : UB x w.heap.size v l) (hb : Below w.heap.size w x) (hu : UponC x w6 v v6) : Below w.heap.size w w6 := by
  obtain ⟨e1, e2, e3⟩ := hu.same
  refine ⟨e1.trans hb.os, e2.trans hb.tape, e3.trans hb.output, Nat.le_trans hb.size hu.size, fun b hb' => ?_⟩
  rw [hu.block b (by have := hb.size; omega) (fun e => by have := h.own e; omega)]
  exact hb.block b hb'
theorem eqNilB_none (W : World) (n c : Nat) : (binOp .eql 23 (.slice none n c) (.slice none 0 0)).run Try.prog W = .ok (.bool true) W := Lib.run_eql_slice_nil (P := Try.prog) W 23 5 none n c 0 0 Try.underlying23
theorem eqNilB_some (W : World) (a : Addr) (n c : Nat) : (binOp .eql 23 (.slice (some a) n c) (.slice none 0 0)).run Try.prog W = .ok (.bool false) W := Lib.run_eql_slice_nil (P := Try.prog) W 23 5 (some a) n c 0 0 Try.underlying23
set_option maxHeartbeats 8000000 in
theorem replayLaw (w : World) (slots ext : Int) (ra : Option Addr) (rcap : Nat) (us : List Value) (bs : List (List Nat)) (h : RIn w ra rcap us bs) :
    Calls Try.prog 3 #[.int .i64 slots, .int .i64 ext, .slice ra bs.length rcap] w fun e w' => e = .returned (.bool true) ∧ Below w.heap.size w w' := by
  have HIN := hide fun x (hx : Below w.heap.size w x) => h.below hx
  have hnm := h.ln
  obtain ⟨iu, hu0, hu1, hu2, hu3⟩ := info_parts info_u8
  have q1 := eqNilB_none
  have q2 := eqNilB_some
  obtain ⟨ib, hb0, hb1, hb2, hb3⟩ := info_parts info_bys
  have HST := hide (RF.start w us bs)
  have HAT : Hid (∀ x, Below w.heap.size w x → 0 < bs.length → ∃ O off, ra = some ⟨O, off, none⟩ ∧ ∀ k, k < bs.length → x.cell? ⟨O, off + k, none⟩ = some (us.getD k undef)) := hide fun x hx hp => by
    obtain ⟨O, off, e, -, hc⟩ := (h.below hx).at_ hp
    exact ⟨O, off, e, hc⟩
  clear h
  generalize hn : bs.length = n at *
  have HN := hide hn
  clear hn
  go_enter Try.func3, Try.ntmps3
  go_wp2_with fail
  go_loopw [7, 8, 9] (fun ov fv x wr => ∃ (i : Nat) (fs os : List Value), i ≤ n ∧ x = .int .i64 (i : Int) ∧ fs.length = i ∧ os.length = i ∧ RF w wr us bs fv ov fs os) (fun _ _ x _ => n - (intOf x).toNat)
  case atStart => exact ⟨0, [], [], by omega, rfl, rfl, rfl, HST.out⟩
  case round =>
    clear HST
    obtain ⟨i, fs, os, hi, rfl, hfl, hol, hrf⟩ := hrel
    obtain ⟨fa, fcap, hfv, -, -⟩ := rowForm hrf.fr
    obtain ⟨oa, ocap, hov, -, -⟩ := rowForm hrf.orow
    rw [hfl] at hfv
    rw [hol] at hov
    subst hfv hov
    have HRF := hide hrf
    have HFL := hide hfl
    have HOL := hide hol
    clear hrf hfl hol
    by_cases hlt : i < n
    · have hil : (i : Int) < (n : Int) := by omega
      obtain ⟨O, off, rfl, hc⟩ := HAT.out wr HRF.out.be (by omega)
      have HC := hide hc
      have k0 := hc i hlt
      obtain ⟨hbs, hll⟩ := (HIN.out wr HRF.out.be).el i (by rw [HN.out]; exact hlt)
      have HCP := hide (copiedW_any _ _ wr hbs hll)
      obtain ⟨l, hl⟩ : ∃ l, bs.getD i [] = l := ⟨_, rfl⟩
      rw [hl] at HCP hll hbs
      have HLE := hide hl
      clear hl hc
      obtain ⟨L, hL⟩ : ∃ L, l.length = L := ⟨_, rfl⟩
      have HLL := hide hL
      obtain ⟨ua, uc, hu, u1, u2, u3, -, u5⟩ := hbs
      rw [hL] at hu u1 hll
      have HU := hide hu
      rw [hu] at k0 HCP
      have HUN : Hid (ua = none → L = 0) := hide fun e => by have := u3 e; omega
      clear hu u3 u5 hL
      have HT8 : Hid (T8.map byV = [.int .u8 1, .int .u8 2, .int .u8 3, .int .u8 4, .int .u8 5, .int .u8 6, .int .u8 7, .int .u8 8]) := hide rfl
      cases ua with
      | none =>
        go_wp2_with (first
          | (go_at_call 8; refine HCP.out.mono ?_; rintro e y ⟨v1, rfl, hv1, hby⟩; obtain ⟨a1, c1, hv9⟩ := hv1.form; rw [HLL.out] at hv9; subst hv9; have HV1 := hide hv1; have HBY := hide hby; clear hv1 hby HCP)
          | (at_builtin; refine wpList_appendC _ rfl (.tmp 28) (.tmp 29) 23 rfl 5 iu (.int .u8 0) 1 1 Try.underlying23 hu0 hu1 hu2 hu3 rfl (by decide) (.slice a1 L c1) L (l.map byV) rfl (HV1.out.own0 HLL.out _) ⟨y.heap.size, 0, none⟩ 8 8 [.int .u8 1, .int .u8 2, .int .u8 3, .int .u8 4, .int .u8 5, .int .u8 6, .int .u8 7, .int .u8 8] rfl rfl (by decide) (fun j u hj => by rw [Addr.add_lit, Nat.zero_add]; exact (rangeTake (Go.heap_alloc_new y (.cells #[.int .u8 1, .int .u8 2, .int .u8 3, .int .u8 4, .int .u8 5, .int .u8 6, .int .u8 7, .int .u8 8] 5)) rfl) j u hj ▸ (by simp)) (by intro u hu; simp only [List.mem_cons, List.not_mem_nil, or_false] at hu; rcases hu with rfl | rfl | rfl | rfl | rfl | rfl | rfl | rfl <;> rfl) (by unfold maxLen; omega) (by omega) ?_; intro v6 w6 ho6 hu6; have HU6 := hide (HV1.out.push HBY.out.size (by rw [HLL.out]; exact ho6) hu6); have HB6 := hide (HV1.out.pushB HBY.out hu6); obtain ⟨X, cx, hv6, hcx1, hcx2, -⟩ := HU6.out.form8; rw [HLL.out] at hv6 hcx1; subst hv6; have HR6 := hide (HRF.out.below HB6.out); clear ho6 hu6)
          | (at_builtin; refine wpList_appendC _ rfl (.tmp 31) (.tmp 33) 22 rfl 23 ib (.slice none 0 0) 1 24 Try.underlying22 hb0 hb1 hb2 hb3 rfl (by decide) (.slice fa i fcap) i fs rfl (HR6.out.fown HFL.out _) ⟨w6.heap.size, 0, none⟩ 1 1 [.slice (some ⟨X, 0, none⟩) (L + 8) cx] rfl rfl (by decide) (new1 w6 _ 23) (by intro u hu; simp only [List.mem_cons, List.not_mem_nil, or_false] at hu; rcases hu with rfl <;> rfl) (by unfold maxLen; omega) (by omega) ?_; intro v7 w7 ho7 hu7; have HR7 := hide (HR6.out.pushF (l := l) HFL.out HOL.out HLE.out (by rw [HLL.out]; exact HU6.out.mono HRF.out.be.size) (by rw [HLL.out]; exact ho7) hu7); rw [HLL.out] at HR7; have k7 : w7.cell? ⟨O, off + i, none⟩ = some (.slice none L uc) := (by obtain ⟨O', off', e9, hc9⟩ := HAT.out w7 HR7.out.be (by omega); cases e9; rw [hc9 i hlt, HU.out]); clear ho7 hu7)
          | (at_builtin; refine wpList_appendC _ rfl (.tmp 40) (.tmp 41) 22 rfl 23 ib (.slice none 0 0) 1 24 Try.underlying22 hb0 hb1 hb2 hb3 rfl (by decide) (.slice oa i ocap) i os rfl (HR7.out.oown HOL.out _) ⟨w7.heap.size, 0, none⟩ 1 1 [.slice none 0 0] rfl rfl (by decide) (new1 w7 _ 23) (by intro u hu; simp only [List.mem_cons, List.not_mem_nil, or_false] at hu; rcases hu with rfl <;> rfl) (by unfold maxLen; omega) (by omega) ?_; intro v8 w8 ho8 hu8; have HR8 := hide (HR7.out.pushO (v := .slice none 0 0) HOL.out (fun _ X' cap' he => by rw [List.getElem?_append_right (by rw [HFL.out]; exact Nat.le_refl _), HFL.out, Nat.sub_self] at he; simp only [List.getElem?_cons_zero, Option.some.injEq, Value.slice.injEq, Addr.mk.injEq] at he; obtain ⟨⟨rfl, -, -⟩, -, rfl⟩ := he; rw [HU.out, HLE.out, HLL.out]; rfl) ho8 hu8); clear ho8 hu8))
        go_roundw
        case rel => exact ⟨i + 1, fs ++ [.slice (some ⟨X, 0, none⟩) (L + 8) cx], os ++ [.slice none 0 0], by omega, by go_num, by rw [List.length_append, HFL.out]; rfl, by rw [List.length_append, HOL.out]; rfl, HR8.out⟩
        case measure => simp [intOf]; omega
      | some ad =>
        go_wp2_with (first
          | (go_at_call 8; refine HCP.out.mono ?_; rintro e y ⟨v1, rfl, hv1, hby⟩; obtain ⟨a1, c1, hv9⟩ := hv1.form; rw [HLL.out] at hv9; subst hv9; have HV1 := hide hv1; have HBY := hide hby; clear hv1 hby HCP)
          | (at_builtin; refine wpList_appendC _ rfl (.tmp 28) (.tmp 29) 23 rfl 5 iu (.int .u8 0) 1 1 Try.underlying23 hu0 hu1 hu2 hu3 rfl (by decide) (.slice a1 L c1) L (l.map byV) rfl (HV1.out.own0 HLL.out _) ⟨y.heap.size, 0, none⟩ 8 8 [.int .u8 1, .int .u8 2, .int .u8 3, .int .u8 4, .int .u8 5, .int .u8 6, .int .u8 7, .int .u8 8] rfl rfl (by decide) (fun j u hj => by rw [Addr.add_lit, Nat.zero_add]; exact (rangeTake (Go.heap_alloc_new y (.cells #[.int .u8 1, .int .u8 2, .int .u8 3, .int .u8 4, .int .u8 5, .int .u8 6, .int .u8 7, .int .u8 8] 5)) rfl) j u hj ▸ (by simp)) (by intro u hu; simp only [List.mem_cons, List.not_mem_nil, or_false] at hu; rcases hu with rfl | rfl | rfl | rfl | rfl | rfl | rfl | rfl <;> rfl) (by unfold maxLen; omega) (by omega) ?_; intro v6 w6 ho6 hu6; have HU6 := hide (HV1.out.push HBY.out.size (by rw [HLL.out]; exact ho6) hu6); have HB6 := hide (HV1.out.pushB HBY.out hu6); obtain ⟨X, cx, hv6, hcx1, hcx2, -⟩ := HU6.out.form8; rw [HLL.out] at hv6 hcx1; subst hv6; have HR6 := hide (HRF.out.below HB6.out); clear ho6 hu6)
          | (at_builtin; refine wpList_appendC _ rfl (.tmp 31) (.tmp 33) 22 rfl 23 ib (.slice none 0 0) 1 24 Try.underlying22 hb0 hb1 hb2 hb3 rfl (by decide) (.slice fa i fcap) i fs rfl (HR6.out.fown HFL.out _) ⟨w6.heap.size, 0, none⟩ 1 1 [.slice (some ⟨X, 0, none⟩) (L + 8) cx] rfl rfl (by decide) (new1 w6 _ 23) (by intro u hu; simp only [List.mem_cons, List.not_mem_nil, or_false] at hu; rcases hu with rfl <;> rfl) (by unfold maxLen; omega) (by omega) ?_; intro v7 w7 ho7 hu7; have HR7 := hide (HR6.out.pushF (l := l) HFL.out HOL.out HLE.out (by rw [HLL.out]; exact HU6.out.mono HRF.out.be.size) (by rw [HLL.out]; exact ho7) hu7); rw [HLL.out] at HR7; have k7 : w7.cell? ⟨O, off + i, none⟩ = some (.slice (some ad) L uc) := (by obtain ⟨O', off', e9, hc9⟩ := HAT.out w7 HR7.out.be (by omega); cases e9; rw [hc9 i hlt, HU.out]); clear ho7 hu7)
          | (at_builtin; refine wpList_appendC _ rfl (.tmp 43) (.tmp 51) 22 rfl 23 ib (.slice none 0 0) 1 24 Try.underlying22 hb0 hb1 hb2 hb3 rfl (by decide) (.slice oa i ocap) i os rfl (HR7.out.oown HOL.out _) ⟨w7.heap.size, 0, none⟩ 1 1 [.slice (some ⟨X, 0, none⟩) L cx] rfl rfl (by decide) (new1 w7 _ 23) (by intro u hu; simp only [List.mem_cons, List.not_mem_nil, or_false] at hu; rcases hu with rfl <;> rfl) (by unfold maxLen; omega) (by omega) ?_; intro v8 w8 ho8 hu8; have HR8 := hide (HR7.out.pushO (v := .slice (some ⟨X, 0, none⟩) L cx) HOL.out (fun _ X' cap' he => by rw [List.getElem?_append_right (by rw [HFL.out]; exact Nat.le_refl _), HFL.out, Nat.sub_self] at he; simp only [List.getElem?_cons_zero, Option.some.injEq, Value.slice.injEq, Addr.mk.injEq] at he; obtain ⟨⟨rfl, -, -⟩, -, rfl⟩ := he; rw [HU.out, HLE.out, HLL.out]; rfl) ho8 hu8); clear ho8 hu8))
        go_roundw
        case rel => exact ⟨i + 1, fs ++ [.slice (some ⟨X, 0, none⟩) (L + 8) cx], os ++ [.slice (some ⟨X, 0, none⟩) L cx], by omega, by go_num, by rw [List.length_append, HFL.out]; rfl, by rw [List.length_append, HOL.out]; rfl, HR8.out⟩
        case measure => simp [intOf]; omega
    · have hin : i = n := by omega
      have HRn : Hid (RF w wr us bs (.slice fa n fcap) (.slice oa n ocap) fs os) := hide (by have := HRF.out; rw [hin] at this; exact this)
      have HFn : Hid (fs.length = n) := hide (HFL.out.trans hin)
      have HOn : Hid (os.length = n) := hide (HOL.out.trans hin)
      have HR9 : Hid (RF w (wr.alloc (.cells #[.int .u8 9] 5)) us bs (.slice fa n fcap) (.slice oa n ocap) fs os) := hide (HRn.out.below ((Below.refl _ _).alloc (Nat.le_refl _) _))
      have HNW : Hid (∀ j u, [Value.slice (some ⟨wr.heap.size, 0, none⟩) 1 1][j]? = some u → ((wr.alloc (.cells #[.int .u8 9] 5)).alloc (.cells #[.slice (some ⟨wr.heap.size, 0, none⟩) 1 1] 23)).cell? ((⟨wr.heap.size + 1, 0, none⟩ : Addr).add j) = some u) := hide (by
        have := new1 (wr.alloc (.cells #[.int .u8 9] 5)) (.slice (some ⟨wr.heap.size, 0, none⟩) 1 1) 23
        rw [World.size_alloc] at this
        exact this)
      have HB0 := hide (Go.heap_alloc_new wr (.cells #[.int .u8 9] 5))
      rw [hin] at HFL HOL ⊢
      clear HRF HRn hin hlt
      go_wp2_with (first
        | (at_builtin; refine wpList_appendC _ rfl (.tmp 53) (.tmp 55) 22 rfl 23 ib (.slice none 0 0) 1 24 Try.underlying22 hb0 hb1 hb2 hb3 rfl (by decide) (.slice oa n ocap) n os rfl (HR9.out.oown HOn.out _) ⟨wr.heap.size + 1, 0, none⟩ 1 1 [.slice (some ⟨wr.heap.size, 0, none⟩) 1 1] rfl rfl (by decide) HNW.out (by intro u hu; simp only [List.mem_cons, List.not_mem_nil, or_false] at hu; rcases hu with rfl <;> rfl) (by unfold maxLen; omega) (by omega) ?_; intro v10 w10 ho10 hu10; have HR10 := hide (HR9.out.pushO (v := .slice (some ⟨wr.heap.size, 0, none⟩) 1 1) HOn.out (fun hh => by have := HFn.out; omega) ho10 hu10); have HB9 := hide ((upon_u8 HR9.out.orow hu10 _ _ HB0.out).trans HB0.out); obtain ⟨og, oc2, hv10, hoc⟩ := rowSome HR10.out.orow (by simp); rw [List.length_append, HOn.out] at hv10 hoc; have hoc2 : n ≤ oc2 := Nat.le_trans (Nat.le_succ n) hoc; clear hoc; subst hv10; clear ho10 hu10)
        | (go_at_call 9; refine (pRep w10 (some ⟨og, 0, none⟩) n oc2 bs slots ext HN.out.symm (HR10.out.rsl2 (W := w10) (by rw [List.length_append, HOn.out]) HN.out HFn.out (Nat.le_succ _) (fun k hk => ((HIN.out w10 HR10.out.be).el k hk).1))).mono ?_; rintro e w11 ⟨gv, z, N, E, rfl, hb11, hrow11, hans⟩; have HANS := hide hans; have HROW := hide hrow11; have HR11 := hide (HR10.out.below hb11); have HB11 := hide ((hb11.block _ (Array.getElem?_eq_some_iff.1 HB9.out).1).trans HB9.out); clear hans hrow11 hb11)
        | (go_at_call 10; refine (dRep w11 ra n rcap bs slots ext HN.out.symm (fun hh => by have := (HIN.out w11 HR11.out.be).rsl (by rw [HN.out]; exact hh); rw [HN.out] at this; exact this)).mono ?_; rintro e w12 ⟨wv, z', N', E', rfl, hb12, hrow12, hans⟩; obtain ⟨rfl, rfl, rfl⟩ := HANS.out.uniq hans; have HROW2 := hide hrow12; have HROW1 := hide (rowKept HROW.out (w' := w12) (fun g hg => by obtain ⟨cs, hc⟩ := rowCells HROW.out hg; exact hb12.block _ (Array.getElem?_eq_some_iff.1 hc).1)); have HR12 := hide (HR11.out.below hb12); have HB12 := hide ((hb12.block _ (Array.getElem?_eq_some_iff.1 HB11.out).1).trans HB11.out); clear hans hrow12 hb12 HANS HROW HR11 HB11)
        | (go_at_call 11; refine (sameIntsS_any HROW1.out HROW2.out).mono ?_; rintro e w13 ⟨rfl, hm⟩; have hb13 := below_some hm; have HR13 := hide (HR12.out.below hb13); have HB13 := hide ((hb13.block _ (Array.getElem?_eq_some_iff.1 HB12.out).1).trans HB12.out); have kn := HR13.out.last HOn.out; have k9 : w13.cell? ⟨wr.heap.size, 0, none⟩ = some (.int .u8 9) := cell_of_row _ _ _ _ _ _ HB13.out; clear hm hb13 HROW1 HROW2 HR12 HB12)
        | (go_at_call 12; refine (num_any _ _).mono ?_; rintro e y ⟨rfl, hy⟩; have hy := hy.symm; subst hy))
      have HRL := hide HR13.out
      clear HR13 HB13 kn k9 HNW HB0 HB9 HR9 HR10
      go_loopw [17] (fun x wr2 => ∃ j : Nat, j ≤ n ∧ x = .int .i64 (j : Int) ∧ RF w wr2 us bs (.slice fa n fcap) (.slice (some ⟨og, 0, none⟩) (n + 1) oc2) fs (os ++ [.slice (some ⟨wr.heap.size, 0, none⟩) 1 1])) (fun x _ => n - (intOf x).toNat)
      case atStart => exact ⟨0, by omega, rfl, HRL.out⟩
      case round =>
        clear HRL
        rename_i wr2
        obtain ⟨j, hj, rfl, hrf⟩ := hrel
        have HRF := hide hrf
        by_cases hlt : j < n
        · have hjl : (j : Int) < (n : Int) := by omega
          have hjl1 : (j : Int) < (n : Int) + 1 := by omega
          obtain ⟨X, cx, e1, e2, e3⟩ := hrf.ef j (by rw [HFn.out]; exact hlt)
          have e3 := e3 (by rw [List.length_append, HOn.out]; simp; omega)
          obtain ⟨fg, fc2, hfa, -⟩ := rowSome hrf.fr (by rw [HFn.out]; omega)
          simp only [Value.slice.injEq] at hfa
          obtain ⟨rfl, -, -⟩ := hfa
          obtain ⟨O, off, rfl, hc⟩ := HAT.out _ hrf.be (by omega)
          obtain ⟨hbs, hll⟩ := (HIN.out _ hrf.be).el j (by rw [HN.out]; exact hlt)
          have kr := hc j hlt
          have kf := rowAt hrf.fr e1
          have ko := rowAt hrf.orow e3
          clear hc hrf e1 e3
          obtain ⟨l, hl⟩ : ∃ l, bs.getD j [] = l := ⟨_, rfl⟩
          rw [hl] at hll hbs kf ko e2
          have HLE := hide hl
          clear hl
          obtain ⟨L, hL⟩ : ∃ L, l.length = L := ⟨_, rfl⟩
          have HLL := hide hL
          obtain ⟨ua, uc, hu, u1, u2, u3, -, u5⟩ := hbs
          rw [hL] at hu u1 hll kf ko e2
          rw [hu] at kr ko
          have HU := hide hu
          obtain ⟨oa', oc', ho'⟩ : ∃ a c, oV (.slice ua L uc) X L cx = .slice a L c := by
            cases ua with
            | none => exact ⟨none, 0, by have := u3 rfl; unfold oV; rw [show L = 0 by omega]⟩
            | some ad => exact ⟨_, _, rfl⟩
          rw [ho'] at ko
          have HE2 := hide e2
          have HCP := hide fun x (hx : Below wr.heap.size wr x) => copiedW_any (.slice ua L uc) l x (by have := (HIN.out x (HRF.out.be.trans (hx.mono HRF.out.be.size))).el j (by rw [HN.out]; exact hlt); rw [HLE.out, HU.out] at this; exact this.1) (by rw [HLL.out]; exact hll)
          have HSY : Hid (∀ y, Below wr.heap.size wr y → y.cell? ⟨og, j, none⟩ = some (.slice oa' L oc') ∧ y.cell? ⟨O, off + j, none⟩ = some (.slice ua L uc) ∧ y.cell? ⟨fg, j, none⟩ = some (.slice (some ⟨X, 0, none⟩) (L + 8) cx)) := hide fun y hy => ⟨(hy.cell (p := ⟨og, j, none⟩) (World.block_lt_of_cell? wr _ ko)).trans ko, (hy.cell (p := ⟨O, off + j, none⟩) (World.block_lt_of_cell? wr _ kr)).trans kr, (hy.cell (p := ⟨fg, j, none⟩) (World.block_lt_of_cell? wr _ kf)).trans kf⟩
          have bel0 := (Below.refl wr.heap.size wr).drew
          have bel1 := ((Below.refl wr.heap.size wr).alloc (Nat.le_refl _) (.cells #[.int .u8 1, .int .u8 2, .int .u8 3, .int .u8 4, .int .u8 5, .int .u8 6, .int .u8 7, .int .u8 8] 5)).drew
          clear hu u1 u2 u3 u5 hL ho' e2
          go_wp2_with fail
          go_region_held3 (fun z => z.cell? ⟨og, j, none⟩ = some (.slice oa' L oc') ∧ z.cell? ⟨O, off + j, none⟩ = some (.slice ua L uc) ∧ z.cell? ⟨fg, j, none⟩ = some (.slice (some ⟨X, 0, none⟩) (L + 8) cx)) (first | exact ⟨ko, kr, kf⟩ | exact ⟨ko1, kr1, kf1⟩ | exact ⟨ko2, kr2, kf2⟩ | go_keep) (first
            | (go_at_call 8; (with_reducible refine (HCP.out _ bel0).mono ?_); rintro e y ⟨v1, rfl, hv1, hby⟩; obtain ⟨a1, c1, hv9⟩ := hv1.form; rw [HLL.out] at hv9; subst hv9; have HV1 := hide (hv1.mono (bel0).size); have HBY := hide ((bel0).trans (hby.mono (bel0).size)); obtain ⟨ko1, kr1, kf1⟩ := HSY.out y HBY.out; clear hv1 hby)
            | (go_at_call 8; (with_reducible refine (HCP.out _ bel1).mono ?_); rintro e y ⟨v1, rfl, hv1, hby⟩; obtain ⟨a1, c1, hv9⟩ := hv1.form; rw [HLL.out] at hv9; subst hv9; have HV1 := hide (hv1.mono (bel1).size); have HBY := hide ((bel1).trans (hby.mono (bel1).size)); obtain ⟨ko1, kr1, kf1⟩ := HSY.out y HBY.out; have HT := hide ((hby.block wr.heap.size (by simp)).trans (Go.heap_alloc_new wr (.cells #[.int .u8 1, .int .u8 2, .int .u8 3, .int .u8 4, .int .u8 5, .int .u8 6, .int .u8 7, .int .u8 8] 5))); clear hv1 hby)
            | (refine step_appendG (by kernel_rfl) (.tmp 137) (.tmp 138) 23 (by rfl) 5 iu (.int .u8 0) 1 1 Try.underlying23 hu0 hu1 hu2 hu3 rfl (by decide) (.slice a1 L c1) L (l.map byV) (by rfl) (HV1.out.ownY HLL.out) ⟨wr.heap.size, 0, none⟩ 8 8 [.int .u8 1, .int .u8 2, .int .u8 3, .int .u8 4, .int .u8 5, .int .u8 6, .int .u8 7, .int .u8 8] (by rfl) rfl (by decide) (fun j u hj => by rw [Addr.add_lit, Nat.zero_add]; exact (rangeTake HT.out rfl) j u hj ▸ (by simp)) (by intro u hu; simp only [List.mem_cons, List.not_mem_nil, or_false] at hu; rcases hu with rfl | rfl | rfl | rfl | rfl | rfl | rfl | rfl <;> rfl) (by unfold maxLen; omega) (by omega) ?_; intro v6 w6 ho6 hu6; have HU6 := hide (HV1.out.pushY HBY.out.size (by rw [HLL.out]; exact ho6) hu6); have HB6 := hide (HV1.out.pushBY (w := wr) HBY.out hu6); obtain ⟨ko2, kr2, kf2⟩ := HSY.out w6 HB6.out; obtain ⟨X6, cx6, hv6, -, -, -⟩ := HU6.out.form8; rw [HLL.out] at hv6; subst hv6; clear ho6 hu6)
            | (refine step_appendG (by kernel_rfl) (.tmp 137) (.tmp 138) 23 (by rfl) 5 iu (.int .u8 0) 1 1 Try.underlying23 hu0 hu1 hu2 hu3 rfl (by decide) (.slice a1 L c1) L (l.map byV) (by rfl) (HV1.out.own0 HLL.out _) ⟨y.heap.size, 0, none⟩ 8 8 [.int .u8 1, .int .u8 2, .int .u8 3, .int .u8 4, .int .u8 5, .int .u8 6, .int .u8 7, .int .u8 8] (by rfl) rfl (by decide) (fun j u hj => by rw [Addr.add_lit, Nat.zero_add]; exact (rangeTake (Go.heap_alloc_new y (.cells #[.int .u8 1, .int .u8 2, .int .u8 3, .int .u8 4, .int .u8 5, .int .u8 6, .int .u8 7, .int .u8 8] 5)) rfl) j u hj ▸ (by simp)) (by intro u hu; simp only [List.mem_cons, List.not_mem_nil, or_false] at hu; rcases hu with rfl | rfl | rfl | rfl | rfl | rfl | rfl | rfl <;> rfl) (by unfold maxLen; omega) (by omega) ?_; intro v6 w6 ho6 hu6; have HU6 := hide (HV1.out.push HBY.out.size (by rw [HLL.out]; exact ho6) hu6); have HB6 := hide (HV1.out.pushB (w := wr) HBY.out hu6); obtain ⟨ko2, kr2, kf2⟩ := HSY.out w6 HB6.out; obtain ⟨X6, cx6, hv6, -, -, -⟩ := HU6.out.form8; rw [HLL.out] at hv6; subst hv6; clear ho6 hu6)
            | (go_at_call 13; refine (sameBytesR_any ((HE2.out.below HB6.out).sl) HU6.out.sl).mono ?_; rintro e w7 ⟨rfl, hm7⟩; have HB7 := hide (HB6.out.trans ((below_some hm7).mono HB6.out.size)); obtain ⟨ko2, kr2, kf2⟩ := HSY.out w7 HB7.out; clear hm7))
          all_goals
            (go_wp2_with fail
             go_roundw
             case rel => exact ⟨j + 1, by omega, by go_num, HRF.out.below HB7.out⟩
             case measure => simp [intOf]; omega)
        · have hjn : j = n := by omega
          go_wp2_with fail
          go_ret
          exact ⟨rfl, HRF.out.be⟩
end Go.Proofs.Ytlkccencilhacaa
namespace Go.Proofs.Ytlkccencilhacaa
open Go.ChangeShapes Go.WideShapes Go.ChangeAt Go.RowKit
open Num
set_option linter.unusedVariables false
set_option linter.unusedSimpArgs false
set_option maxRecDepth 20000

theorem bytesSl : Try.prog.bytesOf 23 = 24 := by kernel_rfl
theorem bytesU8 : Try.prog.bytesOf 5 = 1 := by kernel_rfl
theorem cellsBy : Try.prog.cellsOf 23 = 1 := by kernel_rfl
theorem weights_all {H : Type} {P : Program} {e : TypeId} : ∀ {l : List (DataW H)} {d : DataW H}, d ∈ l → ∀ n ∈ d.weights P e, n ∈ DataW.weightsAll P e l
  | [], _, h => by cases h
  | x :: r, d, h => fun n hn => by
    simp only [DataW.weightsAll, List.mem_append]
    rcases List.mem_cons.1 h with rfl | h
    · exact .inl hn
    · exact .inr (weights_all h n hn)
theorem again_lists {H : Type} {enc : TypeId × Value → H} {W W' : World} {v : Value} {d : DataW H} {p : List MemPlace} (h1 : DataW.Trod enc Try.prog W 0 (fun _ => true) true 22 v d p) (bel : Below W.heap.size W W') :
    DataW.Trod enc Try.prog W' 0 (fun b => decide (b < W.heap.size)) true 22 v d p := by
  refine Below.trod laidOut (by kernel_rfl) (of_decide_eq_true (by kernel_rfl)) h1 bel ?_
  obtain ⟨m, hm⟩ := h1
  exact DataW.trod_lt m _ _ _ hm
theorem open_fieldB {H : Type} {enc : TypeId × Value → H} {W : World} {n : Nat} {v : Value} {y : DataW H × List MemPlace} (h : DataW.trod enc Try.prog W 0 (fun _ => true) true n 23 [v] = some y) (hw : ∀ k ∈ y.1.weights Try.prog 23, k ≤ reachBytes) : ∃ l : List Nat, BSl W v l ∧ l.length ≤ 140737488351232 := by
  rcases open_ints Try.underlying23 Try.underlying5 (by kernel_rfl) h with ⟨hcs, hy⟩ | ⟨x, len, cap, zs, hcs, _, hl, hm, hz, hx, hcell, hwz⟩
  · simp at hcs
    subst hcs
    exact ⟨[], ⟨none, 0, rfl, Nat.le_refl _, by unfold maxLen; omega, fun _ => rfl, by simp, by simp⟩, by simp⟩
  · simp at hcs
    subst hcs
    simp only [if_true] at hz
    have hlen : ((zs.take len).map Int.toNat).length = len := by simp; omega
    refine ⟨(zs.take len).map Int.toNat, ⟨some x, cap, by rw [hlen], by omega, hm, by simp, fun b hb => ?_, fun hp => ?_⟩, ?_⟩
    · obtain ⟨k, hk, rfl⟩ := List.mem_map.1 hb
      have := bounds_u8 (hwz k (List.mem_of_mem_take hk))
      omega
    · obtain ⟨b, off, rfl, hc⟩ := ints_at hcell (by omega)
      refine ⟨b, off, rfl, fun i hi => ?_⟩
      rw [hc i (by omega)]
      have hi' : i < zs.length := by omega
      have hb := bounds_u8 (hwz zs[i] (List.getElem_mem hi'))
      have hi2 : i < len := by omega
      have e2 : ((zs.take len).map Int.toNat).getD i 0 = zs[i].toNat := by
        simp [List.getD, hi', hi2]
      have e3 : zs.getD i 0 = zs[i] := by simp [List.getD, hi']
      rw [e2, e3, Int.toNat_of_nonneg hb.1]
    · subst hx
      have := hw (zs.length * 1) (by
        simp only [DataW.weights]
        rw [Try.underlying23]
        simp only [lits, List.length_map, List.length_take, List.length_drop, bytesU8]
        rw [show min len zs.length + (zs.length - len) = zs.length by omega]
        exact List.mem_cons_self)
      unfold reachBytes at this
      rw [hlen]; omega
theorem open_ring {H : Type} {enc : TypeId × Value → H} {W : World} {base : Nat} {v : Value} {d : DataW H} {p : List MemPlace} {ts : List TypeId} {ds : List (DataW H)} (j : Nat) (hts : ts[j]? = some 22) (hds : ds[j]? = some d)
    (hsz : (DataW.weightsEach Try.prog ts ds).all (· ≤ reachBytes) = true)
    (hok : Value.okWide Try.prog W .any base 22 v) (h1 : DataW.Trod enc Try.prog W 0 (fun _ => true) true 22 v d p) : ∃ (a : Option Addr) (cap : Nat) (us : List Value) (bs : List (List Nat)), v = .slice a bs.length cap ∧ RIn W a cap us bs := by
  obtain ⟨a1, len1, cap1, rfl⟩ := okWide_slice Try.underlying22 hok
  obtain ⟨fuel, hf⟩ := h1
  rcases Go.Deep.open_slice Try.underlying22 hf with ⟨hcs, _⟩ | ⟨a, len, cap, m, n, D, Pl, hcs, _, hl, hm, hmm, hx, hel⟩
  · simp [Value.cells] at hcs
    obtain ⟨rfl, rfl, rfl⟩ := hcs
    exact ⟨none, 0, [], [], rfl, ⟨Nat.le_refl _, by unfold maxLen; omega⟩, by simp, by simp, by simp⟩
  · simp [Value.cells] at hcs
    obtain ⟨rfl, rfl, rfl⟩ := hcs
    simp only [if_true] at hmm
    subst hmm
    have hwD : ∀ i, i < len1 → ∀ k ∈ (D i).weights Try.prog 23, k ≤ reachBytes := fun i hi k hk => by
      have h0 := List.all_eq_true.1 hsz k (DataW.weights_mem_each hts hds k (by
        simp only [Prod.mk.injEq] at hx
        rw [hx.1]
        simp only [DataW.weights]
        rw [Try.underlying22]
        refine List.mem_cons_of_mem _ (List.mem_append_left _ (weights_all (d := D i) ?_ k hk))
        exact List.mem_map.2 ⟨i, List.mem_range.2 hi, rfl⟩))
      simpa using h0
    have each : ∀ i, i < len1 → ∃ s : Value × List Nat, BSl W s.1 s.2 ∧ s.2.length ≤ 140737488351232 ∧ W.cell? (a.add i) = some s.1 := by
      intro i hi
      obtain ⟨cs', h1, h2⟩ := hel i (by omega)
      rw [cellsBy] at h1
      obtain ⟨_, hlen, hcell⟩ := World.cells?_some h1
      match cs', hlen with
      | [v0], _ =>
        have e0 := hcell 0 (by omega)
        rw [Go.Deep.add_add] at e0
        obtain ⟨l, hb, hbl⟩ := open_fieldB h2 (fun k hk => hwD i hi k hk)
        exact ⟨⟨v0, l⟩, hb, hbl, by simpa using e0⟩
    haveI : Inhabited (Value × List Nat) := ⟨⟨.slice none 0 0, []⟩⟩
    obtain ⟨f, hfa⟩ := Go.Deep.choose_lt each
    have hgd : ∀ i, i < len1 → ((List.range len1).map fun i => (f i).2).getD i [] = (f i).2 := fun i hi => by simp [List.getD, hi]
    have hgu : ∀ i, i < len1 → ((List.range len1).map fun i => (f i).1).getD i undef = (f i).1 := fun i hi => by simp [List.getD, hi]
    have hle : ((List.range len1).map fun i => (f i).2).length = len1 := by simp
    refine ⟨some a, _, (List.range len1).map fun i => (f i).1, (List.range len1).map fun i => (f i).2, by rw [hle], ⟨by rw [hle]; exact hl, hm⟩, ?_, ?_, ?_⟩
    · simp only [Prod.mk.injEq] at hx
      have h0 := List.all_eq_true.1 hsz _ (DataW.weights_mem_each hts hds _ (by
        rw [hx.1]
        simp only [DataW.weights]
        rw [Try.underlying22]
        exact List.mem_cons_self))
      simp only [List.length_map, List.length_range, bytesSl, decide_eq_true_eq] at h0 ⊢
      unfold reachBytes at h0
      omega
    · intro hpos
      rw [hle] at hpos ⊢
      obtain ⟨b, off, spot⟩ := a
      have hspot : spot = none := by simpa [Addr.add] using World.cell?_spot (hfa 0 hpos).2.2
      subst hspot
      have hc0 : W.cell? ⟨b, off + 0, none⟩ = some (f 0).1 := by rw [← Addr.add_lit]; exact (hfa 0 hpos).2.2
      refine ⟨b, off, rfl, World.block_lt_of_cell? W _ hc0, fun i hi => ?_⟩
      rw [hgu i hi, ← Addr.add_lit]
      exact (hfa i hi).2.2
    · intro i hi
      rw [hle] at hi
      rw [hgu i hi, hgd i hi]
      exact ⟨(hfa i hi).1, (hfa i hi).2.1⟩
end Go.Proofs.Ytlkccencilhacaa
