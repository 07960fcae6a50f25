import Derived.Test.YtcdmkbjibcahcabTMb
namespace Go.Proofs.Ytcdmkbjibcahcab
open Go.RowKit
set_option linter.unusedVariables false
set_option linter.unusedSimpArgs false
set_option maxRecDepth 20000

set_option maxHeartbeats 2000000 in
theorem mv_close {w0 x : World} {p bm q b : Nat} {A0 : Nat → Nat → Prop} {v dv : Value} {S : LS} {c N : Nat} (h : PX w0 x p bm v q dv S S b c N A0 []) (hN : N ≤ 10000000000000) (hc : c ≤ 4400000000000) (o1 o2 o3 : Int) (hid : i64ok o2) (told : Bool) : Calls Try.prog 6 #[.agg #[.pointer (some ⟨p, 0, none⟩), .pointer (some ⟨q, 0, none⟩)], .agg #[.int .i64 1, .int .i64 o1, .int .i64 o2, .int .i64 o3], .bool told, .pointer (some ⟨b, 0, none⟩)] x (MvP w0 x p bm q b A0 v dv (c + 1) (N + 1)) := by
  have HP0 := hide (PM.start h (1, o1, o2, o3))
  have hnow := h.al.nw
  have HA : Hid (∀ y, PM w0 x y p bm q b A0 v dv (1, o1, o2, o3) v dv S S c N [] → Calls Try.prog 25 #[.pointer (some ⟨p, 0, none⟩)] y fun e z => e = .returned (.tuple #[.int .i64 (S.now : Int), .int .i64 (joinN S : Int), .bool (decide (0 < joinN S))]) ∧ PM w0 x z p bm q b A0 v dv (1, o1, o2, o3) v dv (closeS S) S c (N + 1) []) := hide fun y hy => hy.close hN
  have HR : Hid (∀ y, PM w0 x y p bm q b A0 v dv (1, o1, o2, o3) v dv (closeS S) S c (N + 1) [] → Calls Try.prog 26 #[.pointer (some ⟨q, 0, none⟩)] y fun e z => e = .returned (.tuple #[.int .i64 (S.now : Int), .int .i64 (joinN S : Int), .bool (decide (0 < joinN S))]) ∧ PM w0 x z p bm q b A0 v dv (1, o1, o2, o3) v dv (closeS S) (closeS S) c (N + 1) []) := hide fun y hy => hy.rclose h.al.ok (by omega)
  clear h hid hnow
  generalize decide (0 < joinN S) = ff at *
  generalize (joinN S : Int) = jj at *
  generalize (S.now : Int) = nn at *
  have e1 : (nn == nn) = true := by simp
  have e2 : (jj == jj) = true := by simp
  have e3 : (ff == ff) = true := by simp
  go_enter Try.func6, Try.ntmps6
  go_wp2_with (first
    | (go_at_call 25; refine (HA.out _ HP0.out).mono ?_; rintro e y1 ⟨rfl, k1⟩; have HP1 := hide k1; have p1 : y1.cell? ⟨x.heap.size, 1, none⟩ = _ := k1.p1; clear k1)
    | (go_at_call 26; refine (HR.out _ HP1.out).mono ?_; rintro e y2 ⟨rfl, k2⟩; have HP2 := hide k2; clear k2))
  go_ret
  exact HP2.out.done (Nat.le_succ c) (Nat.le_refl _)
set_option maxHeartbeats 2000000 in
theorem mv_ack {w0 x : World} {p bm q b : Nat} {A0 : Nat → Nat → Prop} {v dv : Value} {S : LS} {c N : Nat} (h : PX w0 x p bm v q dv S S b c N A0 []) (hN : N ≤ 10000000000000) (hc : c ≤ 4400000000000) (o1 o2 o3 : Int) (hid : i64ok o2) (told : Bool) : Calls Try.prog 6 #[.agg #[.pointer (some ⟨p, 0, none⟩), .pointer (some ⟨q, 0, none⟩)], .agg #[.int .i64 2, .int .i64 o1, .int .i64 o2, .int .i64 o3], .bool told, .pointer (some ⟨b, 0, none⟩)] x (MvP w0 x p bm q b A0 v dv (c + 1) (N + 1)) := by
  have HP0 := hide (PM.start h (2, o1, o2, o3))
  obtain ⟨S', en, r, ha, hr⟩ := ack_both (w0 := w0) (x := x) (p := p) (bm := bm) (q := q) (b := b) (A0 := A0) (vs := v) (ds := dv) (o := (2, o1, o2, o3)) h.al.ok o2 hid
  obtain ⟨ea, eb, ec⟩ := en
  have HA : Hid (∀ y, PM w0 x y p bm q b A0 v dv (2, o1, o2, o3) v dv S S c N [] → Calls Try.prog 27 #[.pointer (some ⟨p, 0, none⟩), .int .i64 o2] y fun e z => e = .returned (.tuple #[.agg #[.int .i64 ea, .int .i64 eb, .int .i64 ec], .int .i64 r]) ∧ PM w0 x z p bm q b A0 v dv (2, o1, o2, o3) v dv S' S c N []) := hide fun y hy => ha _ _ _ _ _ _ _ hN hy
  have HR : Hid (∀ y P, PM w0 x y p bm q b A0 v dv (2, o1, o2, o3) v dv S' S c N P → Calls Try.prog 28 #[.pointer (some ⟨q, 0, none⟩), .int .i64 o2] y fun e z => e = .returned (.tuple #[.agg #[.int .i64 ea, .int .i64 eb, .int .i64 ec], .int .i64 r]) ∧ PM w0 x z p bm q b A0 v dv (2, o1, o2, o3) v dv S' S' c N P) := hide fun y P hy => hr _ _ _ _ _ _ _ hy
  have HSE : Hid (∀ y P, PM w0 x y p bm q b A0 v dv (2, o1, o2, o3) v dv S' S' c N P → Calls Try.prog 29 #[.agg #[.int .i64 ea, .int .i64 eb, .int .i64 ec], .agg #[.int .i64 ea, .int .i64 eb, .int .i64 ec]] y fun e z => e = .returned (.bool true) ∧ PM w0 x z p bm q b A0 v dv (2, o1, o2, o3) v dv S' S' c N P) := hide fun y P hy => by
    have := sameEntry_any y (ea, eb, ec) (ea, eb, ec)
    rw [decide_eq_true rfl] at this
    exact this.mono fun e z k => ⟨k.1, hy.below k.2⟩
  have e1 : (r == r) = true := by simp
  clear h hid ha hr
  go_enter Try.func6, Try.ntmps6
  go_wp2_with (first
    | (go_at_call 27; refine (HA.out _ HP0.out).mono ?_; rintro e y1 ⟨rfl, k0⟩; have k1 := k0.box ea eb ec; have HP1 := hide k1; have p1 : (y1.alloc (.cells #[.int .i64 ea, .int .i64 eb, .int .i64 ec] 56)).cell? ⟨x.heap.size, 1, none⟩ = _ := k1.p1; have q2 : (y1.alloc (.cells #[.int .i64 ea, .int .i64 eb, .int .i64 ec] 56)).cell? ⟨x.heap.size + 1, 2, none⟩ = some (.int .i64 o2) := k1.o2; clear k1 k0)
    | (go_at_call 28; refine (HR.out _ _ HP1.out).mono ?_; rintro e y2 ⟨rfl, k0⟩; obtain ⟨d0, d1, d2⟩ := k0.boxc; have d0' := cell_alloc (.cells #[.int .i64 ea, .int .i64 eb, .int .i64 ec] 56) d0; have d1' := cell_alloc (.cells #[.int .i64 ea, .int .i64 eb, .int .i64 ec] 56) d1; have d2' := cell_alloc (.cells #[.int .i64 ea, .int .i64 eb, .int .i64 ec] 56) d2; have HP2 := hide (k0.box ea eb ec); clear k0)
    | (go_at_call 29; refine (HSE.out _ _ HP2.out).mono ?_; rintro e y4 ⟨rfl, k2⟩; have HP3 := hide k2.drop.drop; clear k2)
    | (go_at_call 10; refine (num_any _ _).mono ?_; rintro e y3 ⟨rfl, h9⟩; have h9s := h9.symm; clear h9; subst h9s))
  go_ret
  exact HP3.out.done (Nat.le_succ c) (Nat.le_succ N)
set_option maxHeartbeats 2000000 in
theorem mv_fail {w0 x : World} {p bm q b : Nat} {A0 : Nat → Nat → Prop} {v dv : Value} {S : LS} {c N : Nat} (h : PX w0 x p bm v q dv S S b c N A0 []) (hN : N ≤ 10000000000000) (hc : c ≤ 4400000000000) (o1 o2 o3 : Int) (hid : i64ok o2) (told : Bool) : Calls Try.prog 6 #[.agg #[.pointer (some ⟨p, 0, none⟩), .pointer (some ⟨q, 0, none⟩)], .agg #[.int .i64 4, .int .i64 o1, .int .i64 o2, .int .i64 o3], .bool told, .pointer (some ⟨b, 0, none⟩)] x (MvP w0 x p bm q b A0 v dv (c + 1) (N + 1)) := by
  have HP0 := hide (PM.start h (4, o1, o2, o3))
  have HA : Hid (∀ y, PM w0 x y p bm q b A0 v dv (4, o1, o2, o3) v dv S S c N [] → Calls Try.prog 32 #[.pointer (some ⟨p, 0, none⟩)] y fun e z => ∃ lv v', e = .returned lv ∧ PM w0 x z p bm q b A0 v dv (4, o1, o2, o3) v' dv (failS S) S c N [(lv, S.es)]) := hide fun y hy => hy.fail hN
  have HR : Hid (∀ y lv v', PM w0 x y p bm q b A0 v dv (4, o1, o2, o3) v' dv (failS S) S c N [(lv, S.es)] → Calls Try.prog 33 #[.pointer (some ⟨q, 0, none⟩)] y fun e z => ∃ l2 dv', e = .returned l2 ∧ PM w0 x z p bm q b A0 v dv (4, o1, o2, o3) v' dv' (failS S) (failS S) c N [(lv, S.es)] ∧ ERow z l2 S.es) := hide fun y lv v' hy => hy.rfail h.al.ok
  clear h hid
  go_enter Try.func6, Try.ntmps6
  go_wp2_with (first
    | (go_at_call 32; refine (HA.out _ HP0.out).mono ?_; rintro e y1 ⟨lv, v1, rfl, k1⟩; have HP1 := hide k1; have p1 : y1.cell? ⟨x.heap.size, 1, none⟩ = _ := k1.p1; clear k1)
    | (go_at_call 33; refine (HR.out _ _ _ HP1.out).mono ?_; rintro e y2 ⟨l2, dv2, rfl, k2, k3⟩; have HP2 := hide k2; have HE2 := hide k3; clear k2 k3)
    | (go_at_call 18; refine (HP2.out.same HE2.out).mono ?_; rintro e y4 ⟨rfl, k2⟩; have HP3 := hide k2; clear k2)
    | (go_at_call 20; refine (HP3.out.keep hc).mono ?_; rintro e y5 ⟨rfl, k2⟩; have HP4 := hide k2; clear k2))
  go_ret
  exact HP4.out.done (Nat.le_refl _) (Nat.le_succ N)
set_option maxHeartbeats 2000000 in
theorem mv_bar {w0 x : World} {p bm q b : Nat} {A0 : Nat → Nat → Prop} {v dv : Value} {S : LS} {c N : Nat} (h : PX w0 x p bm v q dv S S b c N A0 []) (hN : N ≤ 10000000000000) (hc : c ≤ 4400000000000) (o1 o2 o3 : Int) (hid : i64ok o2) (told : Bool) : Calls Try.prog 6 #[.agg #[.pointer (some ⟨p, 0, none⟩), .pointer (some ⟨q, 0, none⟩)], .agg #[.int .i64 3, .int .i64 o1, .int .i64 o2, .int .i64 o3], .bool told, .pointer (some ⟨b, 0, none⟩)] x (MvP w0 x p bm q b A0 v dv (c + 1) (N + 1)) := by
  have HP0 := hide (PM.start h (3, o1, o2, o3))
  have HA : Hid (∀ y, PM w0 x y p bm q b A0 v dv (3, o1, o2, o3) v dv S S c N [] → Calls Try.prog 30 #[.pointer (some ⟨p, 0, none⟩), .int .i64 o2, .int .i64 o3] y fun e z => ∃ lv v', e = .returned (.tuple #[lv, .int .i64 (barE S o2 o3)]) ∧ PM w0 x z p bm q b A0 v dv (3, o1, o2, o3) v' dv (barR S o2 o3) S c N [(lv, barL S o2 o3)]) := hide fun y hy => hy.bar hN _ _
  have HR : Hid (∀ y lv v', PM w0 x y p bm q b A0 v dv (3, o1, o2, o3) v' dv (barR S o2 o3) S c N [(lv, barL S o2 o3)] → Calls Try.prog 31 #[.pointer (some ⟨q, 0, none⟩), .int .i64 o2, .int .i64 o3] y fun e z => ∃ l2 dv', e = .returned (.tuple #[l2, .int .i64 (barE S o2 o3)]) ∧ PM w0 x z p bm q b A0 v dv (3, o1, o2, o3) v' dv' (barR S o2 o3) (barR S o2 o3) c N [(lv, barL S o2 o3)] ∧ ERow z l2 (barL S o2 o3)) := hide fun y lv v' hy => hy.rbar h.al.ok _ _
  clear h hid
  generalize barE S o2 o3 = er at *
  generalize barL S o2 o3 = bl at *
  generalize barR S o2 o3 = S' at *
  have e1 : (er == er) = true := by simp
  go_enter Try.func6, Try.ntmps6
  go_wp2_with (first
    | (go_at_call 30; refine (HA.out _ HP0.out).mono ?_; rintro e y1 ⟨lv, v1, rfl, k1⟩; have HP1 := hide k1; have p1 : y1.cell? ⟨x.heap.size, 1, none⟩ = _ := k1.p1; have q2 : y1.cell? ⟨x.heap.size + 1, 2, none⟩ = some (.int .i64 o2) := k1.o2; have q3 : y1.cell? ⟨x.heap.size + 1, 3, none⟩ = some (.int .i64 o3) := k1.o3; clear k1)
    | (go_at_call 31; refine (HR.out _ _ _ HP1.out).mono ?_; rintro e y2 ⟨l2, dv2, rfl, k2, k3⟩; have HP2 := hide k2; have HE2 := hide k3; clear k2 k3)
    | (go_at_call 18; refine (HP2.out.same HE2.out).mono ?_; rintro e y4 ⟨rfl, k2⟩; have HP3 := hide k2; clear k2)
    | (go_at_call 20; refine (HP3.out.keep hc).mono ?_; rintro e y5 ⟨rfl, k2⟩; have HP4 := hide k2; clear k2)
    | (go_at_call 10; refine (num_any _ _).mono ?_; rintro e y3 ⟨rfl, h9⟩; have h9s := h9.symm; clear h9; subst h9s))
  go_ret
  exact HP4.out.done (Nat.le_refl _) (Nat.le_succ N)
set_option maxHeartbeats 2000000 in
theorem mv_next0 {w0 x : World} {p bm q b : Nat} {A0 : Nat → Nat → Prop} {v dv : Value} {S : LS} {c N : Nat} (h : PX w0 x p bm v q dv S S b c N A0 []) (hN : N ≤ 10000000000000) (hc : c ≤ 4400000000000) (he : S.ls = []) (o1 o2 o3 : Int) (hid : i64ok o2) (told : Bool) : Calls Try.prog 6 #[.agg #[.pointer (some ⟨p, 0, none⟩), .pointer (some ⟨q, 0, none⟩)], .agg #[.int .i64 10, .int .i64 o1, .int .i64 o2, .int .i64 o3], .bool told, .pointer (some ⟨b, 0, none⟩)] x (MvP w0 x p bm q b A0 v dv (c + 1) (N + 1)) := by
  have HP0 := hide (PM.start h (10, o1, o2, o3))
  have HA : Hid (∀ y, PM w0 x y p bm q b A0 v dv (10, o1, o2, o3) v dv S S c N [] → Calls Try.prog 30 #[.pointer (some ⟨p, 0, none⟩), .int .i64 o2, .int .i64 o3] y fun e z => ∃ lv v', e = .returned (.tuple #[lv, .int .i64 (barE S o2 o3)]) ∧ PM w0 x z p bm q b A0 v dv (10, o1, o2, o3) v' dv (barR S o2 o3) S c N [(lv, barL S o2 o3)]) := hide fun y hy => hy.bar hN _ _
  have HR : Hid (∀ y lv v', PM w0 x y p bm q b A0 v dv (10, o1, o2, o3) v' dv (barR S o2 o3) S c N [(lv, barL S o2 o3)] → Calls Try.prog 31 #[.pointer (some ⟨q, 0, none⟩), .int .i64 o2, .int .i64 o3] y fun e z => ∃ l2 dv', e = .returned (.tuple #[l2, .int .i64 (barE S o2 o3)]) ∧ PM w0 x z p bm q b A0 v dv (10, o1, o2, o3) v' dv' (barR S o2 o3) (barR S o2 o3) c N [(lv, barL S o2 o3)] ∧ ERow z l2 (barL S o2 o3)) := hide fun y lv v' hy => hy.rbar h.al.ok _ _
  have HE : Hid (dv = .slice none 0 0 ∨ ∃ a c, dv = .slice a 0 c) := hide (by
    obtain ⟨a, c, e, -⟩ := h.dl.own.form
    rw [he] at e
    exact .inr ⟨a, c, e⟩)
  have d0 := HP0.out.px.dl.c0
  obtain ⟨da, dc, rfl⟩ : ∃ a c, dv = .slice a 0 c := by
    obtain ⟨a, c, e, -⟩ := h.dl.own.form
    rw [he] at e
    exact ⟨a, c, e⟩
  clear h hid HE
  generalize barE S o2 o3 = er at *
  generalize barL S o2 o3 = bl at *
  generalize barR S o2 o3 = S' at *
  have e1 : (er == er) = true := by simp
  go_enter Try.func6, Try.ntmps6
  go_wp2_with (first
    | (go_at_call 30; refine (HA.out _ HP0.out).mono ?_; rintro e y1 ⟨lv, v1, rfl, k1⟩; have HP1 := hide k1; have p1 : y1.cell? ⟨x.heap.size, 1, none⟩ = _ := k1.p1; have q2 : y1.cell? ⟨x.heap.size + 1, 2, none⟩ = some (.int .i64 o2) := k1.o2; have q3 : y1.cell? ⟨x.heap.size + 1, 3, none⟩ = some (.int .i64 o3) := k1.o3; clear k1)
    | (go_at_call 31; refine (HR.out _ _ _ HP1.out).mono ?_; rintro e y2 ⟨l2, dv2, rfl, k2, k3⟩; have HP2 := hide k2; have HE2 := hide k3; clear k2 k3)
    | (go_at_call 18; refine (HP2.out.same HE2.out).mono ?_; rintro e y4 ⟨rfl, k2⟩; have HP3 := hide k2; clear k2)
    | (go_at_call 20; refine (HP3.out.keep hc).mono ?_; rintro e y5 ⟨rfl, k2⟩; have HP4 := hide k2; clear k2)
    | (go_at_call 10; refine (num_any _ _).mono ?_; rintro e y3 ⟨rfl, h9⟩; have h9s := h9.symm; clear h9; subst h9s))
  go_ret
  exact HP4.out.done (Nat.le_refl _) (Nat.le_succ N)
set_option maxHeartbeats 2000000 in
theorem mv_none {w0 x : World} {p bm q b : Nat} {A0 : Nat → Nat → Prop} {v dv : Value} {S : LS} {c N : Nat} (h : PX w0 x p bm v q dv S S b c N A0 []) (hN : N ≤ 10000000000000) (hc : c ≤ 4400000000000) (k : Int) (h0 : k ≠ 0) (h1 : k ≠ 1) (h2 : k ≠ 2) (h3 : k ≠ 3) (h4 : k ≠ 4) (h10 : k ≠ 10) (o1 o2 o3 : Int) (hid : i64ok o2) (told : Bool) : Calls Try.prog 6 #[.agg #[.pointer (some ⟨p, 0, none⟩), .pointer (some ⟨q, 0, none⟩)], .agg #[.int .i64 k, .int .i64 o1, .int .i64 o2, .int .i64 o3], .bool told, .pointer (some ⟨b, 0, none⟩)] x (MvP w0 x p bm q b A0 v dv (c + 1) (N + 1)) := by
  have HP0 := hide (PM.start h (k, o1, o2, o3))
  have e0 : (k == 0) = false := by simpa using h0
  have e1 : (k == 1) = false := by simpa using h1
  have e2 : (k == 2) = false := by simpa using h2
  have e3 : (k == 3) = false := by simpa using h3
  have e4 : (k == 4) = false := by simpa using h4
  have e10 : (k == 10) = false := by simpa using h10
  clear h hid
  go_enter Try.func6, Try.ntmps6
  go_wp2_with fail
  go_ret
  exact HP0.out.done (Nat.le_succ c) (Nat.le_succ N)
end Go.Proofs.Ytcdmkbjibcahcab
