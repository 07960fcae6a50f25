import Derived.Test.YtacjibfmhhmbcabDoorWDs
import Derived.Test.YtacjibfmhhmbcabDoorWRead
import Derived.Test.YtacjibfmhhmbcabDoorWRoom
import Derived.Test.YtacjibfmhhmbcabDoorWDec4
import Derived.Test.YtacjibfmhhmbcabDoorFlipMath
import Derived.Test.YtacjibfmhhmbcabDoorWLaw0
import Derived.Test.YtacjibfmhhmbcabDoorWApp
import Derived.ProofKit
import Derived.OpenShut
import Derived.ChangeOld
import Derived.SizedLaws
import Derived.ChangeSlices
import Derived.Deep.Slices
import Derived.ChangeSame
import Derived.Test.YtacjibfmhhmbcabDoorWMay
import Derived.Test.YtacjibfmhhmbcabDoorCards
import Derived.Test.YtacjibfmhhmbcabDoorTie
import Derived.Lib.LaidTab
namespace Go.Proofs.YtacjibfmhhmbcabDoor
open Go.RowKit
set_option linter.unusedVariables false
set_option linter.unusedSimpArgs false
set_option maxRecDepth 20000

theorem spl_ne {w : World} {v : Value} {L : List (Nat × Nat)} {rb b off cap at' : Nat} {l : List Nat} {stuck : Bool} (h : SpL w v L) (hL : 0 < L.length) (hr : Rd w rb b off cap l at' stuck) : v.ownBlock ≠ some rb := by
  obtain ⟨b0, off0, cap0, rfl, h1, h2, h3, h4⟩ := h
  obtain ⟨c0, _⟩ := h4 0 hL
  intro e
  have e' : b0 = rb := by simpa [Value.ownBlock] using e
  subst e'
  rw [cell_of_row _ _ _ _ _ _ hr.row] at c0
  match off0, c0 with
  | 0, c0 => simp at c0
  | 1, c0 => simp at c0
  | 2, c0 => simp at c0
  | n + 3, c0 => simp at c0
theorem mayL_pos (n a b : Nat) : 0 < (mayL n a b).length := by
  unfold mayL
  split <;> try split <;> try split <;> try split
  all_goals simp
theorem smayL_pos (t : Bool) (e : Nat) : 0 < (smayL t e).length := by unfold smayL; split <;> simp
theorem dmayL_pos (lo hi : Nat) (t : Bool) (e : Nat) : 0 < (dmayL lo hi t e).length := by unfold dmayL; split <;> simp
/-- a number read while a packet is read -/
theorem ds_number {w x : World} {B rb pb b off cap : Nat} {l : List Nat} {at' : Nat} {stuck : Bool} {p : PV} {v : Value} (h : DS w x B rb pb b off cap l at' stuck p v) (sv : Value) (L : List (Nat × Nat)) (hs : SpL x sv L) (hL : 0 < L.length) (width : Nat) (hw : 0 < width) (hw8 : width ≤ 8) :
    Calls Tryd.prog 22 #[.pointer (some ⟨rb, 0, none⟩), .int .i64 (width : Int), sv] x fun e' y => e' = .returned (.int .u64 ((rdS l L width at' stuck).1 : Nat)) ∧ DS w y B rb pb b off cap l (rdS l L width at' stuck).2.1 (rdS l L width at' stuck).2.2 p v := by
  refine (number_all x rb b off cap at' width l L sv stuck h.rd hs (spl_ne hs hL h.rd) hw hw8 h.at_).mono ?_
  rintro e' y ⟨rfl, h1, h2⟩
  exact ⟨rfl, h.num h1 h2 (rdS_le h.at_).2⟩
theorem DS.drew {w x : World} {B rb pb b off cap : Nat} {l : List Nat} {at' : Nat} {stuck : Bool} {p : PV} {v : Value} (h : DS w x B rb pb b off cap l at' stuck p v) : DS w x.drew B rb pb b off cap l at' stuck p v := h.below ⟨rfl, rfl, rfl, Nat.le_refl _, fun _ _ => rfl⟩

set_option maxHeartbeats 2000000 in
theorem field_num (n : Nat) (hn : n < 18) : FieldSpec (.num n) := by
  intro w x B rb pb b off cap l at' stuck p v h
  have HD := hide h.drew
  obtain ⟨c0, c1, c2, c3, c4⟩ := HD.out.pm.five
  obtain ⟨t0, _, _⟩ := HD.out.tab n hn
  obtain ⟨hpl, _, _⟩ := bnd_lt n hn
  have HM := hide (may_any x.drew n p.a p.b p.c p.d p.e HD.out.tab hn h.pm.ok.a h.pm.ok.b)
  have HN := hide fun y sv (hy : DS w y B rb pb b off cap l at' stuck p v) (hs : SpL y sv (mayL n p.a p.b)) => ds_number hy sv _ hs (mayL_pos n p.a p.b) 4 (by decide) (by decide)
  have HX : Hid ((rdS l (mayL n p.a p.b) 4 at' stuck).1 < 4294967296) := hide (rdS_lt h.rd.hb)
  have HF1 : Hid ((fieldF l p at' stuck (.num n)) = (p.set (bnd n).1 (rdS l (mayL n p.a p.b) 4 at' stuck).1, (rdS l (mayL n p.a p.b) 4 at' stuck).2)) := hide rfl
  generalize hL : mayL n p.a p.b = L at *
  generalize hr : rdS l L 4 at' stuck = r at *
  have HCL : Hid (∀ at2 st2 y, DS w y B rb pb b off cap l at2 st2 p v → (y.cell? ⟨pb, 0, none⟩ = some (.int .u32 (p.a : Int)) ∧ y.cell? ⟨pb, 1, none⟩ = some (.int .u32 (p.b : Int)) ∧ y.cell? ⟨pb, 2, none⟩ = some (.int .u32 (p.c : Int)) ∧ y.cell? ⟨pb, 3, none⟩ = some (.int .u32 (p.d : Int)) ∧ y.cell? ⟨pb, 4, none⟩ = some (.int .u32 (p.e : Int))) ∧ y.cell? ⟨0, n * 3, none⟩ = some (.int .i64 ((bnd n).1 : Nat)) ∧ (∃ z, y.cell? ⟨pb, (bnd n).1, none⟩ = some z) ∧ y.frozen? ⟨pb, (bnd n).1, none⟩ = false) := hide fun at2 st2 y hy =>
    ⟨hy.pm.five, (hy.tab n hn).1, ⟨_, hy.pm.five.at hpl⟩, hy.pm.fz _⟩
  have HST : Hid (∀ y, DS w y B rb pb b off cap l r.2.1 r.2.2 p v → DS w (y.setCell ⟨pb, (bnd n).1, none⟩ (.int .u32 (r.1 : Int))) B rb pb b off cap l r.2.1 r.2.2 (p.set (bnd n).1 r.1) v) := hide fun y hy => hy.put (hy.pm.setN _ _ hpl HX.out) ((Oth.refl pb y).set _ _) hy.vr hy.vn
  have m1 := as_number_number
  unfold Fd.val
  unfold aheadV at HM
  generalize p.a = pa at *
  generalize p.b = pb' at *
  generalize p.c = pc at *
  generalize p.d = pd at *
  generalize p.e = pe at *
  generalize hbn : (bnd n).1 = pl at *
  have i1 : (n : Int) < 18 := by omega
  have i2 : (pl : Int) < 5 := by omega
  have hwx : IntKind.u32.wrap ((r.1 : Nat) : Int) = ((r.1 : Nat) : Int) := by have := HX.out; simp [IntKind.wrap, IntKind.bits, IntKind.signed]; omega
  rename_i dd1 dd2 dd3 dd4
  clear dd1 dd2 dd3 dd4 h hL hr hbn
  obtain ⟨r1, r2, r3⟩ := r
  simp only at *
  go_enter Tryd.func24, Tryd.ntmps24
  go_wp2_with fail
  go_region_law (first
    | (refine step_callTo rfl 38 #[.int .i64 (n : Int), .agg #[.int .u32 (pa : Int), .int .u32 (pb' : Int), .int .u32 (pc : Int), .int .u32 (pd : Int), .int .u32 (pe : Int)]] (by kernel_rfl) HM.out (fun e w' h => by obtain ⟨v, rfl, _⟩ := h; exact ⟨_, rfl⟩) ?_; rintro v4 w4 ⟨sv, hv4, hs4, hb4⟩; injection hv4 with hv4; subst hv4; have HD4 := hide (HD.out.below hb4); have HSP := hide hs4; obtain ⟨⟨d0, d1, d2, d3, d4⟩, d5, ⟨d7, d8⟩, d6⟩ := HCL.out _ _ _ HD4.out; clear hs4 hb4)
    | (refine step_callTo rfl 22 #[.pointer (some ⟨rb, 0, none⟩), .int .i64 4, v4] (by kernel_rfl) (HN.out _ _ HD4.out HSP.out) (fun e w' h => ⟨_, h.1⟩) ?_; rintro v5 w5 ⟨hv5, hd5⟩; injection hv5 with hv5; subst hv5; have HD5 := hide hd5; obtain ⟨⟨e0, e1, e2, e3, e4⟩, e5, ⟨e7, e8⟩, e6⟩ := HCL.out _ _ _ HD5.out; clear hd5))
  all_goals
    (try simp only [Exit.inBlock])
    go_end0
    exact ⟨rfl, v, by rw [HF1.out]; exact HST.out _ HD5.out⟩
end Go.Proofs.YtacjibfmhhmbcabDoor
namespace Go.Proofs.YtacjibfmhhmbcabDoor
open Go.RowKit
set_option linter.unusedVariables false
set_option linter.unusedSimpArgs false
set_option maxRecDepth 20000

theorem ds_ident {w x : World} {B rb pb b off cap : Nat} {l : List Nat} {at' : Nat} {stuck : Bool} {p : PV} {v : Value} (h : DS w x B rb pb b off cap l at' stuck p v) :
    Calls Tryd.prog 39 #[.pointer (some ⟨rb, 0, none⟩)] x fun e' y => e' = .returned (.int .u64 ((rdS l [(0, 18446744073709551615)] 8 at' stuck).1 : Nat)) ∧ DS w y B rb pb b off cap l (rdS l [(0, 18446744073709551615)] 8 at' stuck).2.1 (rdS l [(0, 18446744073709551615)] 8 at' stuck).2.2 p v := by
  refine (ident_any x rb b off cap at' l stuck h.rd h.at_).mono ?_
  rintro e' y ⟨rfl, h1, h2⟩
  exact ⟨rfl, h.num h1 h2 (rdS_le h.at_).2⟩
set_option maxHeartbeats 2000000 in
theorem field_ids : FieldSpec .ids := by
  intro w x B rb pb b off cap l at' stuck p v h
  have HD := hide (h.below ((Below.refl x.heap.size x).alloc (Nat.le_refl _) (.cells #[] 92)))
  have HB := h.rd.hb
  obtain ⟨r0, hr0⟩ : ∃ r, r = rdS l [(0, 18446744073709551615)] 8 at' stuck := ⟨_, rfl⟩
  obtain ⟨r1, hr1⟩ : ∃ r, r = rdS l [(0, 18446744073709551615)] 8 r0.2.1 r0.2.2 := ⟨_, rfl⟩
  obtain ⟨r2, hr2⟩ : ∃ r, r = rdS l [(0, 18446744073709551615)] 8 r1.2.1 r1.2.2 := ⟨_, rfl⟩
  obtain ⟨r3, hr3⟩ : ∃ r, r = rdS l [(0, 18446744073709551615)] 8 r2.2.1 r2.2.2 := ⟨_, rfl⟩
  have HF1 : Hid (fieldF l p at' stuck .ids = ({ p with g0 := r0.1, g1 := r1.1, g2 := r2.1, g3 := r3.1 }, r3.2)) := hide (by rw [hr3, hr2, hr1, hr0]; rfl)
  have HX : Hid (r0.1 < 18446744073709551616 ∧ r1.1 < 18446744073709551616 ∧ r2.1 < 18446744073709551616 ∧ r3.1 < 18446744073709551616) := hide ⟨by rw [hr0]; exact rdS_lt HB, by rw [hr1]; exact rdS_lt HB, by rw [hr2]; exact rdS_lt HB, by rw [hr3]; exact rdS_lt HB⟩
  have HI0 := hide (ds_ident HD.out)
  have HI1 := hide fun y (hy : DS w y B rb pb b off cap l r0.2.1 r0.2.2 p v) => ds_ident hy
  have HI2 := hide fun y (hy : DS w y B rb pb b off cap l r1.2.1 r1.2.2 p v) => ds_ident hy
  have HI3 := hide fun y (hy : DS w y B rb pb b off cap l r2.2.1 r2.2.2 p v) => ds_ident hy
  rw [← hr0] at HI0
  rw [← hr1] at HI1
  rw [← hr2] at HI2
  rw [← hr3] at HI3
  have HST : Hid (∀ y, DS w y B rb pb b off cap l r3.2.1 r3.2.2 p v → DS w ((((y.setCell ⟨pb, 5, none⟩ (.int .u64 (r0.1 : Int))).setCell ⟨pb, 6, none⟩ (.int .u64 (r1.1 : Int))).setCell ⟨pb, 7, none⟩ (.int .u64 (r2.1 : Int))).setCell ⟨pb, 8, none⟩ (.int .u64 (r3.1 : Int))) B rb pb b off cap l r3.2.1 r3.2.2 { p with g0 := r0.1, g1 := r1.1, g2 := r2.1, g3 := r3.1 } v) := hide fun y hy =>
    hy.put (hy.pm.setG _ _ _ _ HX.out.1 HX.out.2.1 HX.out.2.2.1 HX.out.2.2.2) (((((Oth.refl pb y).set 5 _).set 6 _).set 7 _).set 8 _) hy.vr hy.vn
  have m1 := as_idents_number
  have m2 := as_idents_idents
  unfold Fd.val
  clear h hr0 hr1 hr2 hr3 HB
  obtain ⟨r01, r02, r03⟩ := r0
  obtain ⟨r11, r12, r13⟩ := r1
  obtain ⟨r21, r22, r23⟩ := r2
  obtain ⟨r31, r32, r33⟩ := r3
  simp only at *
  go_enter Tryd.func24, Tryd.ntmps24
  go_wp2_with (first
    | (go_at_call 39; refine HI0.out.mono ?_; rintro e' y0 ⟨rfl, hd0⟩; have HD0 := hide hd0; clear hd0 HI0)
    | (go_at_call 39; refine (HI1.out _ HD0.out).mono ?_; rintro e' y1 ⟨rfl, hd1⟩; have HD1 := hide hd1; clear hd1 HI1)
    | (go_at_call 39; refine (HI2.out _ HD1.out).mono ?_; rintro e' y2 ⟨rfl, hd2⟩; have HD2 := hide hd2; clear hd2 HI2)
    | (go_at_call 39; refine (HI3.out _ HD2.out).mono ?_; rintro e' y3 ⟨rfl, hd3⟩; have HD3 := hide hd3; obtain ⟨k5, k6, k7, k8⟩ := hd3.pm.gens; have f5 := hd3.pm.fz 5; have f6 := hd3.pm.fz 6; have f7 := hd3.pm.fz 7; have f8 := hd3.pm.fz 8; clear hd3 HI3))
  go_end0
  exact ⟨rfl, v, by rw [HF1.out]; exact HST.out _ HD3.out⟩

set_option maxHeartbeats 2000000 in
theorem take_any (w : World) (rb b off cap at' c : Nat) (l : List Nat) (stuck : Bool) (h : Rd w rb b off cap l at' stuck) (hc : c ≤ 65535) (ha : at' ≤ l.length) (hbl : b < w.heap.size) :
    Calls Tryd.prog 41 #[.pointer (some ⟨rb, 0, none⟩), .int .i64 (c : Int)] w fun e' w' => ∃ v', e' = .returned v' ∧ Own w' w.heap.size v' (tkR l at' stuck c).1 ∧ Rd w' rb b off cap l (tkR l at' stuck c).2.1 (tkR l at' stuck c).2.2 ∧ Oth rb w w' := by
  by_cases h0 : stuck = true ∨ c = 0
  · have e : tkR l at' stuck c = ([], at', stuck) := by unfold tkR; rw [if_pos h0]
    rw [e]
    refine (take_none w rb b off cap at' c l stuck h hc h0).mono ?_
    rintro e' w' ⟨rfl, h1, h2⟩
    exact ⟨_, rfl, own_nil _ _, h1, h2⟩
  · have hs : stuck = false := by cases stuck <;> simp_all
    subst hs
    have hc0 : c ≠ 0 := by simp_all
    have hcap := h.h2
    have hlc := h.h1
    unfold maxLen at hcap
    have HR := hide h
    obtain ⟨c0, c1, c2, f1, f2⟩ := h.cells
    have b1 : ((c : Int) == 0) = false := by simp only [beq_eq_false_iff_ne]; omega
    by_cases hl : l.length - at' < c
    · have e : tkR l at' false c = ([], l.length, true) := by unfold tkR; rw [if_neg h0, if_pos hl]
      rw [e]
      have i1 : (l.length : Int) - (at' : Int) < (c : Int) := by omega
      have HFIN : Hid (∀ k, Rd (((w.drewN k).setCell ⟨rb, 1, none⟩ (.int .i64 (l.length : Int))).setCell ⟨rb, 2, none⟩ (.bool true)) rb b off cap l l.length true) := hide fun k => (((h.same rfl rfl : Rd (w.drewN k) rb b off cap l at' false).go l.length).stop)
      clear h h0 e
      go_enter Tryd.func41, Tryd.ntmps41
      go_wp2
      repeat (go_quiet (fail); go_wp2)
      go_ret
      exact ⟨_, rfl, own_nil _ _, HFIN.out _, (((Oth.refl rb w).drewN _).set 1 _).set 2 _⟩
    · have e : tkR l at' false c = (sg l at' c, at' + c, false) := by unfold tkR; rw [if_neg h0, if_neg hl]
      rw [e]
      have hsl : (sg l at' c).length = c := sg_len (by omega)
      have hbs : BSl w (.slice (some ⟨b, off, none⟩) l.length cap) l := ⟨_, cap, rfl, hlc, by unfold maxLen; omega, (fun e => by cases e), h.hb, fun _ => ⟨b, off, rfl, h.dat⟩⟩
      have HCL := hide fun k => cloneB_any _ _ (w.drewN k) (BSl.seg hbs at' c (by omega)) (by rw [hsl]; omega) (by rw [hsl]; omega)
      have HFIN : Hid (∀ y, Below w.heap.size w y → Rd (y.setCell ⟨rb, 1, none⟩ (.int .i64 ((at' + c : Nat) : Int))) rb b off cap l (at' + c) false ∧ y.cell? ⟨rb, 1, none⟩ = some (.int .i64 (at' : Int)) ∧ y.frozen? ⟨rb, 1, none⟩ = false) := hide fun y hy => ⟨(h.below hy).go _, (h.below hy).cells.2.1, (h.below hy).cells.2.2.2.1⟩
      have HRB : Hid (rb < w.heap.size) := hide (Array.getElem?_eq_some_iff.1 h.row).1
      generalize sg l at' c = sl at *
      have i1 : ¬ (l.length : Int) - (at' : Int) < (c : Int) := by omega
      have i2 : (at' : Int) + (c : Int) ≤ (cap : Int) := by omega
      have i3 : (at' : Int) ≤ (at' : Int) + (c : Int) := by omega
      have i4 : ¬ cap = at' := by omega
      have i5 : IntKind.i64.wrap ((at' : Int) + (c : Int)) = (at' : Int) + (c : Int) := by simp [IntKind.wrap, IntKind.bits, IntKind.signed]; omega
      have i6 : (0 : Int) ≤ (at' : Int) := by omega
      have i7 : (0 : Int) ≤ (at' : Int) + (c : Int) := by omega
      have i8 : ((at' : Int) + (c : Int)).toNat = at' + c := by omega
      have i9 : at' + c - at' = c := by omega
      clear h h0 e hbs
      go_enter Tryd.func41, Tryd.ntmps41
      go_wp2
      go_quiet (fail)
      go_wp2_with fail
      go_region_held3 (fun y => y.cell? ⟨rb, 0, none⟩ = some (.slice (some ⟨b, off, none⟩) l.length cap) ∧ y.cell? ⟨rb, 1, none⟩ = some (.int .i64 (at' : Int))) (first | exact ⟨c0, c1⟩ | exact HSY.out)
        ((go_at_call 31; refine (HCL.out _).mono ?_; rintro e' y ⟨v', rfl, ho', hb'⟩; have HO2 := hide ho'; have HB2 : Hid (Below w.heap.size w y) := hide ((show Below w.heap.size w (w.drewN _) from ⟨rfl, rfl, rfl, Nat.le_refl _, fun _ _ => rfl⟩).trans hb'); obtain ⟨g1, g2, g3⟩ := HFIN.out y HB2.out; have G1 := hide g1; have HSY : Hid (y.cell? ⟨rb, 0, none⟩ = some (.slice (some ⟨b, off, none⟩) l.length cap) ∧ y.cell? ⟨rb, 1, none⟩ = some (.int .i64 (at' : Int))) := hide ⟨(HB2.out.cell (p := ⟨rb, 0, none⟩) HRB.out).trans c0, g2⟩; clear ho' hb' g1 HCL))
      all_goals
        go_wp2_with fail
        go_ret
        have hrb := HRB.out
        have how : Own (y.setCell ⟨rb, 1, none⟩ (.int .i64 ((at' : Int) + (c : Int)))) w.heap.size v' sl := by
          obtain ⟨g0, cap0, hv0, hg0, _⟩ := HO2.out.shape (by rw [hsl]; omega)
          have hg0 : w.heap.size ≤ g0 := hg0
          refine (show Own y w.heap.size v' sl from HO2.out).keptIf fun g hg => Go.heap_setCell_other _ _ _ _ ?_
          rw [hv0] at hg
          simp [Value.ownBlock] at hg
          show g ≠ rb
          omega
        have hrd := G1.out
        rw [Int.natCast_add] at hrd
        exact ⟨_, rfl, how, hrd, ((Oth.refl rb w).below HB2.out).set 1 _⟩

theorem Own.block {w : World} {base g : Nat} {v : Value} {l : List Nat} (h : Own w base v l) (hg : v.ownBlock = some g) : base ≤ g ∧ g < w.heap.size := by
  rcases h.1.2 with ⟨e, h0⟩ | ⟨g', cap, cur, rfl, hb, hg', _⟩
  · rw [e] at hg; simp [Value.ownBlock] at hg
  · simp [Value.ownBlock] at hg
    subst hg
    exact ⟨hb, (Array.getElem?_eq_some_iff.1 hg').1⟩
theorem tkR_le {l : List Nat} {at' c : Nat} {stuck : Bool} (h : at' ≤ l.length) : (tkR l at' stuck c).2.1 ≤ l.length := by
  unfold tkR
  split
  · exact h
  · split
    · exact Nat.le_refl _
    · simp; omega
/-- bytes taken while a packet is read -/
theorem ds_take {w x : World} {B rb pb b off cap : Nat} {l : List Nat} {at' : Nat} {stuck : Bool} {p : PV} {v : Value} (h : DS w x B rb pb b off cap l at' stuck p v) (c : Nat) (hc : c ≤ 65535) :
    Calls Tryd.prog 41 #[.pointer (some ⟨rb, 0, none⟩), .int .i64 (c : Int)] x fun e' y => ∃ v', e' = .returned v' ∧ DS w y B rb pb b off cap l (tkR l at' stuck c).2.1 (tkR l at' stuck c).2.2 p v ∧ BSl y v' (tkR l at' stuck c).1 ∧ v'.ownBlock ≠ some rb ∧ v'.ownBlock ≠ some pb ∧ (∀ g, v'.ownBlock = some g → B ≤ g ∧ g < y.heap.size) := by
  have h1 := h.hB
  have hrl := (Array.getElem?_eq_some_iff.1 h.rd.row).1
  have hpl := h.pm.lt
  refine (take_any x rb b off cap at' c l stuck h.rd hc h.at_ (by omega)).mono ?_
  rintro e' y ⟨v', rfl, ho, hr, hoth⟩
  refine ⟨v', rfl, h.num hr hoth (tkR_le h.at_), ho.bsl, ?_⟩
  refine ⟨fun e => ?_, fun e => ?_, fun g e => ?_⟩
  · have := (ho.block e).1; omega
  · have := (ho.block e).1; omega
  · have := ho.block e; exact ⟨by omega, this.2⟩
end Go.Proofs.YtacjibfmhhmbcabDoor
namespace Go.Proofs.YtacjibfmhhmbcabDoor
open Go.RowKit
set_option linter.unusedVariables false
set_option linter.unusedSimpArgs false
set_option maxRecDepth 20000

set_option maxHeartbeats 2000000 in
theorem field_dat (lo hi : Nat) (t : Bool) (hlo : lo < 65536) (hhi : hi < 65536) : FieldSpec (.dat lo hi t) := by
  intro w x B rb pb b off cap l at' stuck p v h
  have hb := (Below.refl x.heap.size x).alloc (Nat.le_refl _) (.cells #[.int .u64 (lo : Int), .int .u64 (hi : Int), .bool t] 88)
  have HD := hide (h.below hb).drew
  obtain ⟨c0, c1, c2, c3, c4⟩ := HD.out.pm.five
  have HROW : Hid ((x.alloc (.cells #[.int .u64 (lo : Int), .int .u64 (hi : Int), .bool t] 88)).drew.heap[x.heap.size]? = some (.cells #[.int .u64 (lo : Int), .int .u64 (hi : Int), .bool t] 88 (0, 0))) := hide (Go.heap_alloc_new x _)
  have a0 : (x.alloc (.cells #[.int .u64 (lo : Int), .int .u64 (hi : Int), .bool t] 88)).drew.cell? ⟨x.heap.size, 0, none⟩ = some (.int .u64 (lo : Int)) := by rw [cell_of_row _ _ _ _ _ _ HROW.out]; rfl
  have a1 : (x.alloc (.cells #[.int .u64 (lo : Int), .int .u64 (hi : Int), .bool t] 88)).drew.cell? ⟨x.heap.size, 1, none⟩ = some (.int .u64 (hi : Int)) := by rw [cell_of_row _ _ _ _ _ _ HROW.out]; rfl
  have a2 : (x.alloc (.cells #[.int .u64 (lo : Int), .int .u64 (hi : Int), .bool t] 88)).drew.cell? ⟨x.heap.size, 2, none⟩ = some (.bool t) := by rw [cell_of_row _ _ _ _ _ _ HROW.out]; rfl
  have HM := hide (dmay_any (x.alloc (.cells #[.int .u64 (lo : Int), .int .u64 (hi : Int), .bool t] 88)).drew lo hi t p.a p.b p.c p.d p.e (by omega) (by omega))
  have HN := hide fun y sv (hy : DS w y B rb pb b off cap l at' stuck p v) (hs : SpL y sv (dmayL lo hi t p.e)) => ds_number hy sv _ hs (dmayL_pos lo hi t p.e) 2 (by decide) (by decide)
  have HX : Hid ((rdS l (dmayL lo hi t p.e) 2 at' stuck).1 < 65536) := hide (rdS_lt h.rd.hb)
  have HF1 : Hid ((fieldF l p at' stuck (.dat lo hi t)) = ({ p with dl := (tkR l (rdS l (dmayL lo hi t p.e) 2 at' stuck).2.1 (rdS l (dmayL lo hi t p.e) 2 at' stuck).2.2 (rdS l (dmayL lo hi t p.e) 2 at' stuck).1).1 }, (tkR l (rdS l (dmayL lo hi t p.e) 2 at' stuck).2.1 (rdS l (dmayL lo hi t p.e) 2 at' stuck).2.2 (rdS l (dmayL lo hi t p.e) 2 at' stuck).1).2)) := hide rfl
  generalize hL : dmayL lo hi t p.e = L at *
  generalize hr : rdS l L 2 at' stuck = r at *
  have HTK := hide fun y (hy : DS w y B rb pb b off cap l r.2.1 r.2.2 p v) => ds_take hy r.1 (by have := HX.out; omega)
  have hwx : IntKind.i64.wrap ((r.1 : Nat) : Int) = ((r.1 : Nat) : Int) := by have := HX.out; simp [IntKind.wrap, IntKind.bits, IntKind.signed]; omega
  generalize hk : tkR l r.2.1 r.2.2 r.1 = k at *
  have HST : Hid (∀ y v', DS w y B rb pb b off cap l k.2.1 k.2.2 p v → BSl y v' k.1 → v'.ownBlock ≠ some rb → v'.ownBlock ≠ some pb → (∀ g, v'.ownBlock = some g → B ≤ g ∧ g < y.heap.size) → DS w (y.setCell ⟨pb, 41, none⟩ v') B rb pb b off cap l k.2.1 k.2.2 { p with dl := k.1 } v') := hide fun y v' hy h1 h2 h3 h4 => hy.put (hy.pm.setD v' k.1 h1 h3) ((Oth.refl pb y).set _ _) h2 h4
  have m1 := as_data_number
  have m2 := as_data_idents
  have m3 := as_data_sumt
  have m4 := as_data_data
  unfold Fd.val
  unfold aheadV at HM
  generalize hpe : p.e = pe at *
  generalize hpa : p.a = pa at *
  generalize hpb : p.b = pb' at *
  generalize hpc : p.c = pc at *
  generalize hpd : p.d = pd at *
  clear h hL hr hb hk hpe hpa hpb hpc hpd
  obtain ⟨r1, r2, r3⟩ := r
  obtain ⟨k1, k2, k3⟩ := k
  simp only at *
  go_enter Tryd.func24, Tryd.ntmps24
  go_wp2_with fail
  go_region_law (first
    | (refine step_callTo rfl 42 #[.agg #[.int .u64 (lo : Int), .int .u64 (hi : Int), .bool t], .agg #[.int .u32 (pa : Int), .int .u32 (pb' : Int), .int .u32 (pc : Int), .int .u32 (pd : Int), .int .u32 (pe : Int)]] (by kernel_rfl) HM.out (fun e w' h => by obtain ⟨v, rfl, _⟩ := h; exact ⟨_, rfl⟩) ?_; rintro v4 w4 ⟨sv, hv4, hs4, hb4⟩; injection hv4 with hv4; subst hv4; have HD4 := hide (HD.out.below hb4); have HSP := hide hs4; clear hs4 hb4)
    | (refine step_callTo rfl 22 #[.pointer (some ⟨rb, 0, none⟩), .int .i64 2, v4] (by kernel_rfl) (HN.out _ _ HD4.out HSP.out) (fun e w' h => ⟨_, h.1⟩) ?_; rintro v5 w5 ⟨hv5, hd5⟩; injection hv5 with hv5; subst hv5; have HD5 := hide hd5; clear hd5)
    | (refine step_callTo rfl 41 #[.pointer (some ⟨rb, 0, none⟩), .int .i64 (r1 : Int)] (by kernel_rfl) (HTK.out _ HD5.out) (fun e w' h => by obtain ⟨v, rfl, _⟩ := h; exact ⟨_, rfl⟩) ?_; rintro v6 w6 ⟨v7, hv6, hd6, hs6, hn6, hn7, hn8⟩; injection hv6 with hv6; subst hv6; have HD6 := hide hd6; have HV6 := hide (⟨hs6, hn6, hn7, hn8⟩ : BSl w6 v6 k1 ∧ v6.ownBlock ≠ some rb ∧ v6.ownBlock ≠ some pb ∧ (∀ g, v6.ownBlock = some g → B ≤ g ∧ g < w6.heap.size)); obtain ⟨da6, dc6, hsh, _, _, _, _, _⟩ := id hs6; subst hsh; have e8 := hd6.pm.dcell; have e9 := hd6.pm.fz 41; clear hd6 hs6 hn6 hn7 hn8))
  all_goals
    (try simp only [Exit.inBlock])
    go_end0
    exact ⟨rfl, _, by rw [HF1.out]; exact HST.out _ _ HD6.out HV6.out.1 HV6.out.2.1 HV6.out.2.2.1 HV6.out.2.2.2⟩
end Go.Proofs.YtacjibfmhhmbcabDoor
namespace Go.Proofs.YtacjibfmhhmbcabDoor
open Go.RowKit
set_option linter.unusedVariables false
set_option linter.unusedSimpArgs false
set_option maxRecDepth 20000

theorem row_set1 (p : PV) (v : Value) (k x : Nat) (hk : k < p.s.length) : (p.row v).set (9 + k) (.int .u8 (x : Int)) = PV.row { p with s := p.s.set k x } v := by
  rw [row_eq, row_eq, List.append_assoc, List.append_assoc, List.set_append_right _ _ (by simp), List.set_append_left _ _ (by simp [u8L_len]; exact hk)]
  simp [u8L]
theorem PM.setS1 {w : World} {pb : Nat} {p : PV} {v : Value} (h : PM w pb p v) (k x : Nat) (hk : k < 32) (hx : x < 256) : PM (w.setCell ⟨pb, 9 + k, none⟩ (.int .u8 (x : Int))) pb { p with s := p.s.set k x } v := by
  have hr := Go.heap_setCell_same w pb (9 + k) _ 64 (.int .u8 (x : Int)) h.row
  rw [List.setIfInBounds_toArray, row_set1 p v k x (by rw [h.ok.n]; exact hk)] at hr
  obtain ⟨h1, h2, h3, h4, h5, h6, h7, h8, h9, h10, h11⟩ := h.ok
  refine ⟨hr, ⟨h1, h2, h3, h4, h5, h6, h7, h8, h9, by simpa using h10, fun y hy => ?_⟩, h.dat.stay fun g hg => Go.heap_setCell_other _ _ _ _ (by intro e; exact h.ne (by rw [hg]; exact congrArg some e)), h.ne⟩
  rcases List.mem_or_eq_of_mem_set hy with e | e
  · exact h11 y e
  · rw [e]; exact hx
theorem ds_number2 {w x : World} {B rb pb b off cap : Nat} {l : List Nat} {at' : Nat} {stuck : Bool} {p : PV} {v : Value} (h : DS w x B rb pb b off cap l at' stuck p v) (sv : Value) (L : List (Nat × Nat)) (hs : SpL x sv L) (hL : 0 < L.length) (width : Nat) (hw : 0 < width) (hw8 : width ≤ 8) :
    Calls Tryd.prog 22 #[.pointer (some ⟨rb, 0, none⟩), .int .i64 (width : Int), sv] x fun e' y => e' = .returned (.int .u64 ((rdS l L width at' stuck).1 : Nat)) ∧ DS w y B rb pb b off cap l (rdS l L width at' stuck).2.1 (rdS l L width at' stuck).2.2 p v ∧ Oth rb x y := by
  refine (number_all x rb b off cap at' width l L sv stuck h.rd hs (spl_ne hs hL h.rd) hw hw8 h.at_).mono ?_
  rintro e' y ⟨rfl, h1, h2⟩
  exact ⟨rfl, h.num h1 h2 (rdS_le h.at_).2, h2⟩

/-- one byte of a digest -/
structure DT (w x : World) (B rb pb b off cap : Nat) (l : List Nat) (at' : Nat) (stuck : Bool) (p : PV) (v : Value) (tb : Nat) (t : Bool) : Prop where
  ds : DS w x B rb pb b off cap l at' stuck p v
  row : x.heap[tb]? = some (.cells #[.bool t] 90 (0, 0))
  ne : tb ≠ rb ∧ tb ≠ pb
theorem DT.below {w x y : World} {B rb pb b off cap : Nat} {l : List Nat} {at' : Nat} {stuck : Bool} {p : PV} {v : Value} {tb : Nat} {t : Bool} (h : DT w x B rb pb b off cap l at' stuck p v tb t) (hb : Below x.heap.size x y) : DT w y B rb pb b off cap l at' stuck p v tb t :=
  ⟨h.ds.below hb, (hb.block _ (Array.getElem?_eq_some_iff.1 h.row).1).trans h.row, h.ne⟩
theorem DT.drew {w x : World} {B rb pb b off cap : Nat} {l : List Nat} {at' : Nat} {stuck : Bool} {p : PV} {v : Value} {tb : Nat} {t : Bool} (h : DT w x B rb pb b off cap l at' stuck p v tb t) : DT w x.drew B rb pb b off cap l at' stuck p v tb t := h.below ⟨rfl, rfl, rfl, Nat.le_refl _, fun _ _ => rfl⟩

set_option maxHeartbeats 4000000 in
theorem field_sum (t : Bool) : FieldSpec (.sum t) := by
  intro w x B rb pb b off cap l at' stuck p v h
  have hb := (Below.refl x.heap.size x).alloc (Nat.le_refl _) (.cells #[.bool t] 90)
  have HD : Hid (DT w (x.alloc (.cells #[.bool t] 90)) B rb pb b off cap l at' stuck p v x.heap.size t) := hide ⟨h.below hb, Go.heap_alloc_new x _, by have := (Array.getElem?_eq_some_iff.1 h.rd.row).1; have := h.pm.lt; omega⟩
  have HB := hide h.rd.hb
  obtain ⟨F, hF⟩ : ∃ F : Nat → List Nat × Nat × Bool, F = sumF l (smayL t p.e) p.s at' stuck := ⟨_, rfl⟩
  have HF1 : Hid (fieldF l p at' stuck (.sum t) = ({ p with s := (F 32).1 }, (F 32).2)) := hide (by rw [hF]; rfl)
  have HF0 : Hid (F 0 = (p.s, at', stuck)) := hide (by rw [hF]; rfl)
  have HFS : Hid (∀ k, F (k + 1) = ((F k).1.set k (rdS l (smayL t p.e) 1 (F k).2.1 (F k).2.2).1, (rdS l (smayL t p.e) 1 (F k).2.1 (F k).2.2).2)) := hide fun k => by rw [hF]; rfl
  have m1 := as_sumt_number
  have m2 := as_sumt_idents
  have m3 := as_sumt_sumt
  unfold Fd.val
  clear h hF hb
  go_enter Tryd.func24, Tryd.ntmps24
  go_wp2_with fail
  generalize x.alloc (.cells #[.bool t] 90) = x1 at *
  go_loopw [50] (fun i wr => ∃ k : Nat, k ≤ 32 ∧ i = .int .i64 k ∧ DT w wr B rb pb b off cap l (F k).2.1 (F k).2.2 { p with s := (F k).1 } v x.heap.size t) (fun i _ => 32 - (intOf i).toNat)
  case atStart => exact ⟨0, by decide, rfl, by rw [HF0.out]; exact HD.out⟩
  case round =>
    clear HD
    obtain ⟨k, hk, rfl, hdt⟩ := hrel
    by_cases hlt : k < 32
    · have HD := hide hdt.drew
      have HFK := hide (HFS.out k)
      obtain ⟨q, hq⟩ : ∃ q : PV, q = { p with s := (F k).1 } := ⟨_, rfl⟩
      rw [← hq] at HD
      have hqe : q.e = p.e := by rw [hq]
      obtain ⟨c0, c1, c2, c3, c4⟩ := HD.out.ds.pm.five
      have a0 : wr.drew.cell? ⟨x.heap.size, 0, none⟩ = some (.bool t) := by rw [cell_of_row _ _ _ _ _ _ HD.out.row]; rfl
      have HM := hide (smay_any wr.drew t q.a q.b q.c q.d q.e)
      rw [hqe] at HM c4
      have hLp := smayL_pos t p.e
      generalize smayL t p.e = L at *
      obtain ⟨⟨s1, a1, st1⟩, hFk⟩ : ∃ r, r = F k := ⟨_, rfl⟩
      rw [← hFk] at HD HFK
      obtain ⟨r, hr⟩ : ∃ r, r = rdS l L 1 a1 st1 := ⟨_, rfl⟩
      simp only at HFK HD
      rw [← hr] at HFK
      have hqs : q.s = s1 := by rw [hq, ← hFk]
      have HX : Hid (r.1 < 256) := hide (by rw [hr]; exact rdS_lt HB.out)
      have HN : Hid (∀ y sv, DT w y B rb pb b off cap l a1 st1 q v x.heap.size t → SpL y sv L → Calls Tryd.prog 22 #[.pointer (some ⟨rb, 0, none⟩), .int .i64 1, sv] y fun e' y2 => e' = .returned (.int .u64 (r.1 : Nat)) ∧ DT w y2 B rb pb b off cap l r.2.1 r.2.2 q v x.heap.size t) := hide fun y sv hy hs => by
        rw [hr]
        refine (ds_number2 hy.ds sv L hs hLp 1 (by decide) (by decide)).mono ?_
        rintro e' y2 ⟨rfl, h1, h2⟩
        exact ⟨rfl, h1, (h2.block _ (Array.getElem?_eq_some_iff.1 hy.row).1 hy.ne.1).trans hy.row, hy.ne⟩
      have HST : Hid (∀ y, DT w y B rb pb b off cap l r.2.1 r.2.2 q v x.heap.size t → DT w (y.setCell ⟨pb, 9 + k, none⟩ (.int .u8 (r.1 : Int))) B rb pb b off cap l (F (k + 1)).2.1 (F (k + 1)).2.2 { p with s := (F (k + 1)).1 } v x.heap.size t) := hide fun y hy => by
        have e : ({ p with s := (F (k + 1)).1 } : PV) = { q with s := q.s.set k r.1 } := by rw [HFK.out, hqs, hq]
        rw [e, HFK.out]
        exact ⟨hy.ds.put (hy.ds.pm.setS1 k r.1 hlt HX.out) ((Oth.refl pb y).set _ _) hy.ds.vr hy.ds.vn, (Go.heap_setCell_other _ _ _ _ (by exact hy.ne.2)).trans hy.row, hy.ne⟩
      have HCL : Hid (∀ y, DT w y B rb pb b off cap l r.2.1 r.2.2 q v x.heap.size t → (∃ z, y.cell? ⟨pb, 9 + k, none⟩ = some z) ∧ y.frozen? ⟨pb, 9 + k, none⟩ = false) := hide fun y hy => ⟨⟨_, hy.ds.pm.rng k _ (u8L_get (by rw [hy.ds.pm.ok.n]; exact hlt))⟩, hy.ds.pm.fz _⟩
      unfold aheadV at HM
      have hwx : IntKind.u8.wrap ((r.1 : Nat) : Int) = ((r.1 : Nat) : Int) := by have := HX.out; simp [IntKind.wrap, IntKind.bits, IntKind.signed]; omega
      have i1 : (k : Int) < 32 := by omega
      generalize q.a = qa at *
      generalize q.b = qb at *
      generalize q.c = qc at *
      generalize q.d = qd at *
      generalize p.e = qe at *
      clear hdt hqe hr hqs hLp hFk HFS HFK HB hq
      obtain ⟨r1, r2, r3⟩ := r
      simp only at *
      go_wp2_with fail
      go_region_law (first
        | (refine step_callTo rfl 40 #[.agg #[.bool t], .agg #[.int .u32 (qa : Int), .int .u32 (qb : Int), .int .u32 (qc : Int), .int .u32 (qd : Int), .int .u32 (qe : Int)]] (by kernel_rfl) HM.out (fun e w' h => by obtain ⟨v, rfl, _⟩ := h; exact ⟨_, rfl⟩) ?_; rintro v4 w4 ⟨sv, hv4, hs4, hb4⟩; injection hv4 with hv4; subst hv4; have HD4 := hide (HD.out.below hb4); have HSP := hide hs4; clear hs4 hb4)
        | (refine step_callTo rfl 22 #[.pointer (some ⟨rb, 0, none⟩), .int .i64 1, v4] (by kernel_rfl) (HN.out _ _ HD4.out HSP.out) (fun e w' h => ⟨_, h.1⟩) ?_; rintro v5 w5 ⟨hv5, hd5⟩; injection hv5 with hv5; subst hv5; have HD5 := hide hd5; obtain ⟨⟨e7, e8⟩, e6⟩ := HCL.out _ HD5.out; clear hd5))
      all_goals
        have HD6 := hide (HST.out _ HD5.out)
        generalize w5.setCell ⟨pb, 9 + k, none⟩ (.int .u8 (r1 : Int)) = w6 at *
        (try simp only [Exit.inBlock, Exit.then])
        go_wp2_with fail
        go_roundw
        case rel => exact ⟨k + 1, by omega, by go_num, HD6.out⟩
        case measure => simp [intOf]; omega
    · obtain rfl : k = 32 := by omega
      have HD := hide hdt
      clear hdt
      go_wp2_with fail
      go_end0
      exact ⟨rfl, v, by rw [HF1.out]; exact HD.out.ds⟩
end Go.Proofs.YtacjibfmhhmbcabDoor
namespace Go.Proofs.YtacjibfmhhmbcabDoor
open Go.RowKit
set_option linter.unusedVariables false
set_option linter.unusedSimpArgs false
set_option maxRecDepth 20000

theorem yieldsIf_build {P : Program} {ops : Array Oper} {S : World → Prop} {o : Oper} {a : Act} (hw : Region.wanted o (yielded ops a.tmps) = true) (t : TypeId) (parts : Array (Nat × Operand)) (ho : o.op = .build t parts) (cells : Array Value)
    (hf : P.built t (parts.map fun (i, x) => (i, a.eval x)).toList = some cells) : YieldsIf P ops S o (.agg cells) a :=
  .inl ⟨hw, fun w _ => by
    unfold execOp
    simp only [ho, Sem.run_bind, run_build w t _ cells hf, Result.andThen_ok]
    rfl⟩
theorem AllReadyH.one_store {P : Program} {md : Region.Mode} {ops : Array Oper} {Q : Exit → Act → World → Prop} {S : World → Prop} {fuel : Nat} {listed : Array Bool} {a : Act} {w : World} {i : Nat} {o : Oper} (ho : ops[i]? = some o) (hw : Region.wanted o (yielded ops a.tmps) = true) (ty : TypeId) (x y : Operand) (hop : o.op = .store ty x y) (hdst : o.dst = none)
    (g : Nat) (cells : Array Value) (hx : a.eval x = .pointer (some ⟨g, 0, none⟩)) (hy : a.eval y = .agg cells)
    (t : TypeId) (old : Array Value) (hg : w.heap[g]? = some (.cells old t (0, 0))) (hi : (P.info? ty).map (·.size) = some cells.size)
    (hold : old.size = cells.size) (h1 : cells.all (·.oneCell') = true) (hS : S (w.setRow g cells))
    (h : ∀ W, W = w.setRow g cells → wpAnyH P md ops Q S fuel (listed.setIfInBounds i true) a W) : AllReadyH P md ops Q S fuel listed a w [i] := by
  refine AllReadyH.cons ho (fun K hK => ?_) AllReadyH.nil
  rw [if_pos hw]
  exact wp_store_row ty x y hop g cells hx hy t old hg hi hold h1 (by rw [hdst]; exact hK.out _ _ hS (fun _ => h _ rfl))
theorem q_eq {Q : Exit → Act → World → Prop} {e : Exit} {A B : Act} {w : World} (h : A = B) (h2 : Q e B w) : Q e A w := h ▸ h2
theorem results_row {P : Program} {fn : Func} {p : Tmp} {ty : TypeId} (h : fn.results = #[.cell p ty]) (tmps : Array Value) (w : World) (g : Nat) (t : TypeId) (cs : Array Value) (fr : Nat × Nat) (d : TypeDesc)
    (hp : tmps.getD p undef = .pointer (some ⟨g, 0, none⟩)) (hg : w.heap[g]? = some (.cells cs t fr))
    (hu : P.underlying ty = some d) (hd : (match d with | .struct _ | .array _ _ => true | _ => false) = true) (hi : (P.info? ty).map (·.size) = some cs.size) :
    (results fn tmps).run P w = .ok (.agg cs) w := by
  have hp' : tmps[p]?.getD undef = .pointer (some ⟨g, 0, none⟩) := by simpa using hp
  simp [results, h, hp', asAddr, run_loadVar_row w g t ty cs fr d hg hu hd hi]
def zPk : Array Value := #[.int .i64 0, .int .u32 0, .int .u32 0, .int .u32 0, .int .u32 0, .int .u32 0, .int .u64 0, .int .u64 0, .int .u64 0, .int .u64 0, .int .u8 0, .int .u8 0, .int .u8 0, .int .u8 0, .int .u8 0, .int .u8 0, .int .u8 0, .int .u8 0, .int .u8 0, .int .u8 0, .int .u8 0, .int .u8 0, .int .u8 0, .int .u8 0, .int .u8 0, .int .u8 0, .int .u8 0, .int .u8 0, .int .u8 0, .int .u8 0, .int .u8 0, .int .u8 0, .int .u8 0, .int .u8 0, .int .u8 0, .int .u8 0, .int .u8 0, .int .u8 0, .int .u8 0, .int .u8 0, .int .u8 0, .int .u8 0, .slice none 0 0]
theorem built_packet (c : Int) (p : PV) (h : p.s.length = 32) (da : Option Addr) (dn dc : Nat) : Tryd.prog.built 30 [(0, .int .i64 c), (1, .int .u32 (p.a : Int)), (2, .int .u32 (p.b : Int)), (3, .int .u32 (p.c : Int)), (4, .int .u32 (p.d : Int)), (5, .int .u32 (p.e : Int)), (6, .agg #[.int .u64 (p.g0 : Int), .int .u64 (p.g1 : Int), .int .u64 (p.g2 : Int), .int .u64 (p.g3 : Int)]), (7, .agg (u8L p.s).toArray), (8, .slice da dn dc)] = some (.int .i64 c :: p.row (.slice da dn dc)).toArray := by
  obtain ⟨a, b, c', d, e, g0, g1, g2, g3, s, dl⟩ := p
  obtain ⟨s0, s1, s2, s3, s4, s5, s6, s7, s8, s9, s10, s11, s12, s13, s14, s15, s16, s17, s18, s19, s20, s21, s22, s23, s24, s25, s26, s27, s28, s29, s30, s31, rfl⟩ := list32 h
  kernel_rfl

set_option maxHeartbeats 4000000 in
theorem packet_any (w : World) (c : Int) (pb : Nat) (p : PV) (da : Option Addr) (dn dc : Nat) (h : PM w pb p (.slice da dn dc)) :
    Calls Tryd.prog 26 #[.pointer (some ⟨pb, 0, none⟩), .int .i64 c] w fun e' w' => e' = .returned (pkV c p (.slice da dn dc)) ∧ Below w.heap.size w w' := by
  have hb0 := (Below.refl w.heap.size w).alloc (Nat.le_refl _) (.cells zPk 30)
  have HSS : Hid (∀ y, Below w.heap.size w y → y.cell? ⟨pb, 0, none⟩ = some (.int .u32 (p.a : Int)) ∧ y.cell? ⟨pb, 1, none⟩ = some (.int .u32 (p.b : Int)) ∧ y.cell? ⟨pb, 2, none⟩ = some (.int .u32 (p.c : Int)) ∧ y.cell? ⟨pb, 3, none⟩ = some (.int .u32 (p.d : Int)) ∧ y.cell? ⟨pb, 4, none⟩ = some (.int .u32 (p.e : Int)) ∧ y.cell? ⟨pb, 5, none⟩ = some (.int .u64 (p.g0 : Int)) ∧ y.cell? ⟨pb, 6, none⟩ = some (.int .u64 (p.g1 : Int)) ∧ y.cell? ⟨pb, 7, none⟩ = some (.int .u64 (p.g2 : Int)) ∧ y.cell? ⟨pb, 8, none⟩ = some (.int .u64 (p.g3 : Int)) ∧ y.cell? ⟨pb, 41, none⟩ = some (.slice da dn dc) ∧ y.rangeAt pb 9 (u8L p.s) ∧ y.rangeAt pb 5 [.int .u64 (p.g0 : Int), .int .u64 (p.g1 : Int), .int .u64 (p.g2 : Int), .int .u64 (p.g3 : Int)]) := hide fun y hb => by
    have hp := h.below hb
    obtain ⟨c0, c1, c2, c3, c4⟩ := hp.five
    obtain ⟨c5, c6, c7, c8⟩ := hp.gens
    refine ⟨c0, c1, c2, c3, c4, c5, c6, c7, c8, hp.dcell, hp.rng, fun j x hx => ?_⟩
    match j, hx with
    | 0, hx => simp at hx; rw [← hx]; exact c5
    | 1, hx => simp at hx; rw [← hx]; exact c6
    | 2, hx => simp at hx; rw [← hx]; exact c7
    | 3, hx => simp at hx; rw [← hx]; exact c8
    | n + 4, hx => simp at hx
  have HI : Hid ((Tryd.prog.info? 28).map (·.size) = some (u8L p.s).length) := hide (by rw [u8L_len, h.ok.n]; exact infoS)
  have HBU : Hid (∀ L, L = [(0, .int .i64 c), (1, .int .u32 (p.a : Int)), (2, .int .u32 (p.b : Int)), (3, .int .u32 (p.c : Int)), (4, .int .u32 (p.d : Int)), (5, .int .u32 (p.e : Int)), (6, .agg [.int .u64 (p.g0 : Int), .int .u64 (p.g1 : Int), .int .u64 (p.g2 : Int), .int .u64 (p.g3 : Int)].toArray), (7, .agg (u8L p.s).toArray), (8, .slice da dn dc)] → Tryd.prog.built 30 L = some (.int .i64 c :: p.row (.slice da dn dc)).toArray) := hide fun L hL => by rw [hL]; exact built_packet c p h.ok.n da dn dc
  have HK1 : Hid ((Tryd.prog.info? 30).map (·.size) = some (.int .i64 c :: p.row (.slice da dn dc)).toArray.size) := hide (by rw [List.size_toArray, List.length_cons, row_len h.ok.n]; exact infoK)
  have HK2 : Hid (zPk.size = (.int .i64 c :: p.row (.slice da dn dc)).toArray.size) := hide (by show 43 = _; rw [List.size_toArray, List.length_cons, row_len h.ok.n])
  have HK3 : Hid ((.int .i64 c :: p.row (.slice da dn dc)).toArray.all (·.oneCell') = true) := hide (by
    have := row_all p (.slice da dn dc) rfl
    rw [Array.all_eq_true_iff_forall_mem] at this ⊢
    intro x hx
    rw [List.mem_toArray, List.mem_cons] at hx
    rcases hx with rfl | hx
    · rfl
    · exact this x (by rw [List.mem_toArray]; exact hx))
  unfold pkV
  generalize (.int .i64 c :: p.row (.slice da dn dc)).toArray = CS at *
  generalize u8L p.s = SL at *
  have HIG : Hid ((Tryd.prog.info? 27).map (·.size) = some [Value.int .u64 (p.g0 : Int), .int .u64 (p.g1 : Int), .int .u64 (p.g2 : Int), .int .u64 (p.g3 : Int)].length) := hide infoG
  generalize [Value.int .u64 (p.g0 : Int), .int .u64 (p.g1 : Int), .int .u64 (p.g2 : Int), .int .u64 (p.g3 : Int)] = GL at *
  generalize p.a = a at *
  generalize p.b = b at *
  generalize p.c = c' at *
  generalize p.d = d at *
  generalize p.e = e at *
  generalize p.g0 = g0 at *
  generalize p.g1 = g1 at *
  generalize p.g2 = g2 at *
  generalize p.g3 = g3 at *
  have hpl : pb < w.heap.size := h.lt
  clear h
  go_enter Tryd.func26, Tryd.ntmps26
  go_wp2_with fail
  have hrow : (w.alloc (.cells zPk 30)).heap[w.heap.size]? = some (.cells zPk 30 (0, 0)) := Go.heap_alloc_new w _
  refine wp_region_held_drew (S := fun y => y.cell? ⟨pb, 0, none⟩ = some (.int .u32 (a : Int)) ∧ y.cell? ⟨pb, 1, none⟩ = some (.int .u32 (b : Int)) ∧ y.cell? ⟨pb, 2, none⟩ = some (.int .u32 (c' : Int)) ∧ y.cell? ⟨pb, 3, none⟩ = some (.int .u32 (d : Int)) ∧ y.cell? ⟨pb, 4, none⟩ = some (.int .u32 (e : Int)) ∧ y.cell? ⟨pb, 5, none⟩ = some (.int .u64 (g0 : Int)) ∧ y.cell? ⟨pb, 6, none⟩ = some (.int .u64 (g1 : Int)) ∧ y.cell? ⟨pb, 7, none⟩ = some (.int .u64 (g2 : Int)) ∧ y.cell? ⟨pb, 8, none⟩ = some (.int .u64 (g3 : Int)) ∧ y.cell? ⟨pb, 41, none⟩ = some (.slice da dn dc) ∧ y.rangeAt pb 9 SL ∧ y.rangeAt pb 5 GL) (by kernel_rfl) (HSS.out _ (hb0.trans ⟨rfl, rfl, rfl, Nat.le_refl _, fun _ _ => rfl⟩)) (fun hHeld => ?_)
  refine wpAnyH_take (i := 0) (v := ?v0) rfl (by kernel_rfl) (by kernel_rfl) (by kernel_rfl) (fun _ _ _ h => h) (Or.inl ⟨by rfl, ?h0⟩) hHeld ?r0
  case h0 => intro w' hSw; go_simp; (try with_reducible rfl)
  (try simp only [Act.put, List.setIfInBounds_toArray, List.set_cons_zero, List.set_cons_succ])
  refine wpAnyH_take (i := 1) (v := ?v1) rfl (by kernel_rfl) (by kernel_rfl) (by kernel_rfl) (fun _ _ _ h => h) (Or.inl ⟨by rfl, ?h1⟩) hHeld ?r1
  case h1 => intro w' hSw; go_simp; (try with_reducible rfl)
  (try simp only [Act.put, List.setIfInBounds_toArray, List.set_cons_zero, List.set_cons_succ])
  refine wpAnyH_take (i := 2) (v := ?v2) rfl (by kernel_rfl) (by kernel_rfl) (by kernel_rfl) (fun _ _ _ h => h) (Or.inl ⟨by rfl, ?h2⟩) hHeld ?r2
  case h2 => intro w' hSw; go_simp; (try with_reducible rfl)
  (try simp only [Act.put, List.setIfInBounds_toArray, List.set_cons_zero, List.set_cons_succ])
  refine wpAnyH_take (i := 3) (v := ?v3) rfl (by kernel_rfl) (by kernel_rfl) (by kernel_rfl) (fun _ _ _ h => h) (Or.inl ⟨by rfl, ?h3⟩) hHeld ?r3
  case h3 => intro w' hSw; go_simp; (try with_reducible rfl)
  (try simp only [Act.put, List.setIfInBounds_toArray, List.set_cons_zero, List.set_cons_succ])
  refine wpAnyH_take (i := 4) (v := ?v4) rfl (by kernel_rfl) (by kernel_rfl) (by kernel_rfl) (fun _ _ _ h => h) (Or.inl ⟨by rfl, ?h4⟩) hHeld ?r4
  case h4 => intro w' hSw; go_simp; (try with_reducible rfl)
  (try simp only [Act.put, List.setIfInBounds_toArray, List.set_cons_zero, List.set_cons_succ])
  refine wpAnyH_take (i := 5) (v := .int .u32 (a : Int)) rfl (by kernel_rfl) (by kernel_rfl) (by kernel_rfl) (fun _ _ _ h => h) (Or.inl ⟨by rfl, ?h5⟩) hHeld ?r5
  case h5 => intro w' hSw; obtain ⟨s0, s1, s2, s3, s4, s5, s6, s7, s8, s9, _, _⟩ := hSw; go_simp; (try with_reducible rfl)
  (try simp only [Act.put, List.setIfInBounds_toArray, List.set_cons_zero, List.set_cons_succ])
  refine wpAnyH_take (i := 6) (v := ?v6) rfl (by kernel_rfl) (by kernel_rfl) (by kernel_rfl) (fun _ _ _ h => h) (Or.inl ⟨by rfl, ?h6⟩) hHeld ?r6
  case h6 => intro w' hSw; go_simp; (try with_reducible rfl)
  (try simp only [Act.put, List.setIfInBounds_toArray, List.set_cons_zero, List.set_cons_succ])
  refine wpAnyH_take (i := 7) (v := ?v7) rfl (by kernel_rfl) (by kernel_rfl) (by kernel_rfl) (fun _ _ _ h => h) (Or.inl ⟨by rfl, ?h7⟩) hHeld ?r7
  case h7 => intro w' hSw; go_simp; (try with_reducible rfl)
  (try simp only [Act.put, List.setIfInBounds_toArray, List.set_cons_zero, List.set_cons_succ])
  refine wpAnyH_take (i := 8) (v := ?v8) rfl (by kernel_rfl) (by kernel_rfl) (by kernel_rfl) (fun _ _ _ h => h) (Or.inl ⟨by rfl, ?h8⟩) hHeld ?r8
  case h8 => intro w' hSw; go_simp; (try with_reducible rfl)
  (try simp only [Act.put, List.setIfInBounds_toArray, List.set_cons_zero, List.set_cons_succ])
  refine wpAnyH_take (i := 9) (v := ?v9) rfl (by kernel_rfl) (by kernel_rfl) (by kernel_rfl) (fun _ _ _ h => h) (Or.inl ⟨by rfl, ?h9⟩) hHeld ?r9
  case h9 => intro w' hSw; go_simp; (try with_reducible rfl)
  (try simp only [Act.put, List.setIfInBounds_toArray, List.set_cons_zero, List.set_cons_succ])
  refine wpAnyH_take (i := 10) (v := .int .u32 (b : Int)) rfl (by kernel_rfl) (by kernel_rfl) (by kernel_rfl) (fun _ _ _ h => h) (Or.inl ⟨by rfl, ?h10⟩) hHeld ?r10
  case h10 => intro w' hSw; obtain ⟨s0, s1, s2, s3, s4, s5, s6, s7, s8, s9, _, _⟩ := hSw; go_simp; (try with_reducible rfl)
  (try simp only [Act.put, List.setIfInBounds_toArray, List.set_cons_zero, List.set_cons_succ])
  refine wpAnyH_take (i := 11) (v := ?v11) rfl (by kernel_rfl) (by kernel_rfl) (by kernel_rfl) (fun _ _ _ h => h) (Or.inl ⟨by rfl, ?h11⟩) hHeld ?r11
  case h11 => intro w' hSw; go_simp; (try with_reducible rfl)
  (try simp only [Act.put, List.setIfInBounds_toArray, List.set_cons_zero, List.set_cons_succ])
  refine wpAnyH_take (i := 12) (v := ?v12) rfl (by kernel_rfl) (by kernel_rfl) (by kernel_rfl) (fun _ _ _ h => h) (Or.inl ⟨by rfl, ?h12⟩) hHeld ?r12
  case h12 => intro w' hSw; go_simp; (try with_reducible rfl)
  (try simp only [Act.put, List.setIfInBounds_toArray, List.set_cons_zero, List.set_cons_succ])
  refine wpAnyH_take (i := 13) (v := ?v13) rfl (by kernel_rfl) (by kernel_rfl) (by kernel_rfl) (fun _ _ _ h => h) (Or.inl ⟨by rfl, ?h13⟩) hHeld ?r13
  case h13 => intro w' hSw; go_simp; (try with_reducible rfl)
  (try simp only [Act.put, List.setIfInBounds_toArray, List.set_cons_zero, List.set_cons_succ])
  refine wpAnyH_take (i := 14) (v := ?v14) rfl (by kernel_rfl) (by kernel_rfl) (by kernel_rfl) (fun _ _ _ h => h) (Or.inl ⟨by rfl, ?h14⟩) hHeld ?r14
  case h14 => intro w' hSw; go_simp; (try with_reducible rfl)
  (try simp only [Act.put, List.setIfInBounds_toArray, List.set_cons_zero, List.set_cons_succ])
  refine wpAnyH_take (i := 15) (v := .int .u32 (c' : Int)) rfl (by kernel_rfl) (by kernel_rfl) (by kernel_rfl) (fun _ _ _ h => h) (Or.inl ⟨by rfl, ?h15⟩) hHeld ?r15
  case h15 => intro w' hSw; obtain ⟨s0, s1, s2, s3, s4, s5, s6, s7, s8, s9, _, _⟩ := hSw; go_simp; (try with_reducible rfl)
  (try simp only [Act.put, List.setIfInBounds_toArray, List.set_cons_zero, List.set_cons_succ])
  refine wpAnyH_take (i := 16) (v := ?v16) rfl (by kernel_rfl) (by kernel_rfl) (by kernel_rfl) (fun _ _ _ h => h) (Or.inl ⟨by rfl, ?h16⟩) hHeld ?r16
  case h16 => intro w' hSw; go_simp; (try with_reducible rfl)
  (try simp only [Act.put, List.setIfInBounds_toArray, List.set_cons_zero, List.set_cons_succ])
  refine wpAnyH_take (i := 17) (v := ?v17) rfl (by kernel_rfl) (by kernel_rfl) (by kernel_rfl) (fun _ _ _ h => h) (Or.inl ⟨by rfl, ?h17⟩) hHeld ?r17
  case h17 => intro w' hSw; go_simp; (try with_reducible rfl)
  (try simp only [Act.put, List.setIfInBounds_toArray, List.set_cons_zero, List.set_cons_succ])
  refine wpAnyH_take (i := 18) (v := ?v18) rfl (by kernel_rfl) (by kernel_rfl) (by kernel_rfl) (fun _ _ _ h => h) (Or.inl ⟨by rfl, ?h18⟩) hHeld ?r18
  case h18 => intro w' hSw; go_simp; (try with_reducible rfl)
  (try simp only [Act.put, List.setIfInBounds_toArray, List.set_cons_zero, List.set_cons_succ])
  refine wpAnyH_take (i := 19) (v := ?v19) rfl (by kernel_rfl) (by kernel_rfl) (by kernel_rfl) (fun _ _ _ h => h) (Or.inl ⟨by rfl, ?h19⟩) hHeld ?r19
  case h19 => intro w' hSw; go_simp; (try with_reducible rfl)
  (try simp only [Act.put, List.setIfInBounds_toArray, List.set_cons_zero, List.set_cons_succ])
  refine wpAnyH_take (i := 20) (v := .int .u32 (d : Int)) rfl (by kernel_rfl) (by kernel_rfl) (by kernel_rfl) (fun _ _ _ h => h) (Or.inl ⟨by rfl, ?h20⟩) hHeld ?r20
  case h20 => intro w' hSw; obtain ⟨s0, s1, s2, s3, s4, s5, s6, s7, s8, s9, _, _⟩ := hSw; go_simp; (try with_reducible rfl)
  (try simp only [Act.put, List.setIfInBounds_toArray, List.set_cons_zero, List.set_cons_succ])
  refine wpAnyH_take (i := 21) (v := ?v21) rfl (by kernel_rfl) (by kernel_rfl) (by kernel_rfl) (fun _ _ _ h => h) (Or.inl ⟨by rfl, ?h21⟩) hHeld ?r21
  case h21 => intro w' hSw; go_simp; (try with_reducible rfl)
  (try simp only [Act.put, List.setIfInBounds_toArray, List.set_cons_zero, List.set_cons_succ])
  refine wpAnyH_take (i := 22) (v := ?v22) rfl (by kernel_rfl) (by kernel_rfl) (by kernel_rfl) (fun _ _ _ h => h) (Or.inl ⟨by rfl, ?h22⟩) hHeld ?r22
  case h22 => intro w' hSw; go_simp; (try with_reducible rfl)
  (try simp only [Act.put, List.setIfInBounds_toArray, List.set_cons_zero, List.set_cons_succ])
  refine wpAnyH_take (i := 23) (v := ?v23) rfl (by kernel_rfl) (by kernel_rfl) (by kernel_rfl) (fun _ _ _ h => h) (Or.inl ⟨by rfl, ?h23⟩) hHeld ?r23
  case h23 => intro w' hSw; go_simp; (try with_reducible rfl)
  (try simp only [Act.put, List.setIfInBounds_toArray, List.set_cons_zero, List.set_cons_succ])
  refine wpAnyH_take (i := 24) (v := ?v24) rfl (by kernel_rfl) (by kernel_rfl) (by kernel_rfl) (fun _ _ _ h => h) (Or.inl ⟨by rfl, ?h24⟩) hHeld ?r24
  case h24 => intro w' hSw; go_simp; (try with_reducible rfl)
  (try simp only [Act.put, List.setIfInBounds_toArray, List.set_cons_zero, List.set_cons_succ])
  refine wpAnyH_take (i := 25) (v := .int .u32 (e : Int)) rfl (by kernel_rfl) (by kernel_rfl) (by kernel_rfl) (fun _ _ _ h => h) (Or.inl ⟨by rfl, ?h25⟩) hHeld ?r25
  case h25 => intro w' hSw; obtain ⟨s0, s1, s2, s3, s4, s5, s6, s7, s8, s9, _, _⟩ := hSw; go_simp; (try with_reducible rfl)
  (try simp only [Act.put, List.setIfInBounds_toArray, List.set_cons_zero, List.set_cons_succ])
  refine wpAnyH_take (i := 26) (v := ?v26) rfl (by kernel_rfl) (by kernel_rfl) (by kernel_rfl) (fun _ _ _ h => h) (Or.inl ⟨by rfl, ?h26⟩) hHeld ?r26
  case h26 => intro w' hSw; go_simp; (try with_reducible rfl)
  (try simp only [Act.put, List.setIfInBounds_toArray, List.set_cons_zero, List.set_cons_succ])
  refine wpAnyH_take (i := 27) (v := ?v27) rfl (by kernel_rfl) (by kernel_rfl) (by kernel_rfl) (fun _ _ _ h => h) (Or.inl ⟨by rfl, ?h27⟩) hHeld ?r27
  case h27 => intro w' hSw; go_simp; (try with_reducible rfl)
  (try simp only [Act.put, List.setIfInBounds_toArray, List.set_cons_zero, List.set_cons_succ])
  refine wpAnyH_take (i := 28) (v := ?v28) rfl (by kernel_rfl) (by kernel_rfl) (by kernel_rfl) (fun _ _ _ h => h) (Or.inl ⟨by rfl, ?h28⟩) hHeld ?r28
  case h28 => intro w' hSw; go_simp; (try with_reducible rfl)
  (try simp only [Act.put, List.setIfInBounds_toArray, List.set_cons_zero, List.set_cons_succ])
  refine wpAnyH_take (i := 29) (v := .agg GL.toArray) rfl (by kernel_rfl) (by kernel_rfl) (by kernel_rfl) (fun _ _ _ h => h) (yieldsIf_load_mid (by kernel_rfl) 27 (.tmp 33) (by kernel_rfl) pb 5 (by kernel_rfl) GL _ (fun w' h => h.2.2.2.2.2.2.2.2.2.2.2) Tryd.underlying27 rfl HIG.out) hHeld ?_
  (try simp only [Act.put, List.setIfInBounds_toArray, List.set_cons_zero, List.set_cons_succ])
  refine wpAnyH_take (i := 30) (v := ?v30) rfl (by kernel_rfl) (by kernel_rfl) (by kernel_rfl) (fun _ _ _ h => h) (Or.inl ⟨by rfl, ?h30⟩) hHeld ?r30
  case h30 => intro w' hSw; go_simp; (try with_reducible rfl)
  (try simp only [Act.put, List.setIfInBounds_toArray, List.set_cons_zero, List.set_cons_succ])
  refine wpAnyH_take (i := 31) (v := ?v31) rfl (by kernel_rfl) (by kernel_rfl) (by kernel_rfl) (fun _ _ _ h => h) (Or.inl ⟨by rfl, ?h31⟩) hHeld ?r31
  case h31 => intro w' hSw; go_simp; (try with_reducible rfl)
  (try simp only [Act.put, List.setIfInBounds_toArray, List.set_cons_zero, List.set_cons_succ])
  refine wpAnyH_take (i := 32) (v := ?v32) rfl (by kernel_rfl) (by kernel_rfl) (by kernel_rfl) (fun _ _ _ h => h) (Or.inl ⟨by rfl, ?h32⟩) hHeld ?r32
  case h32 => intro w' hSw; go_simp; (try with_reducible rfl)
  (try simp only [Act.put, List.setIfInBounds_toArray, List.set_cons_zero, List.set_cons_succ])
  refine wpAnyH_take (i := 33) (v := .agg SL.toArray) rfl (by kernel_rfl) (by kernel_rfl) (by kernel_rfl) (fun _ _ _ h => h) (yieldsIf_load_mid (by kernel_rfl) 28 (.tmp 37) (by kernel_rfl) pb 9 (by kernel_rfl) SL _ (fun w' h => h.2.2.2.2.2.2.2.2.2.2.1) Tryd.underlying28 rfl HI.out) hHeld ?_
  (try simp only [Act.put, List.setIfInBounds_toArray, List.set_cons_zero, List.set_cons_succ])
  refine wpAnyH_take (i := 34) (v := ?v34) rfl (by kernel_rfl) (by kernel_rfl) (by kernel_rfl) (fun _ _ _ h => h) (Or.inl ⟨by rfl, ?h34⟩) hHeld ?r34
  case h34 => intro w' hSw; go_simp; (try with_reducible rfl)
  (try simp only [Act.put, List.setIfInBounds_toArray, List.set_cons_zero, List.set_cons_succ])
  refine wpAnyH_take (i := 35) (v := ?v35) rfl (by kernel_rfl) (by kernel_rfl) (by kernel_rfl) (fun _ _ _ h => h) (Or.inl ⟨by rfl, ?h35⟩) hHeld ?r35
  case h35 => intro w' hSw; go_simp; (try with_reducible rfl)
  (try simp only [Act.put, List.setIfInBounds_toArray, List.set_cons_zero, List.set_cons_succ])
  refine wpAnyH_take (i := 36) (v := ?v36) rfl (by kernel_rfl) (by kernel_rfl) (by kernel_rfl) (fun _ _ _ h => h) (Or.inl ⟨by rfl, ?h36⟩) hHeld ?r36
  case h36 => intro w' hSw; go_simp; (try with_reducible rfl)
  (try simp only [Act.put, List.setIfInBounds_toArray, List.set_cons_zero, List.set_cons_succ])
  refine wpAnyH_take (i := 37) (v := .slice da dn dc) rfl (by kernel_rfl) (by kernel_rfl) (by kernel_rfl) (fun _ _ _ h => h) (Or.inl ⟨by rfl, ?h37⟩) hHeld ?r37
  case h37 => intro w' hSw; obtain ⟨s0, s1, s2, s3, s4, s5, s6, s7, s8, s9, _, _⟩ := hSw; go_simp; (try with_reducible rfl)
  (try simp only [Act.put, List.setIfInBounds_toArray, List.set_cons_zero, List.set_cons_succ])
  refine wpAnyH_take (i := 38) (v := .agg CS) rfl (by kernel_rfl) (by kernel_rfl) (by kernel_rfl) (fun _ _ _ h => h) ?hy hHeld ?_
  case hy =>
    refine yieldsIf_build ?ha 30 _ rfl CS ?hd
    case ha => kernel_rfl
    case hd =>
      refine HBU.out _ ?_
      kernel_rfl
  (try simp only [Act.put, List.setIfInBounds_toArray, List.set_cons_zero, List.set_cons_succ])
  refine wpAnyH_ready (rs := [39]) (by kernel_rfl) (by simp) ?_
  have HB2 : Below w.heap.size w ((w.alloc (.cells zPk 30)).drew.setRow w.heap.size CS) := by
    refine ⟨hb0.os, hb0.tape, hb0.output, ?_, fun j hj => ?_⟩
    · simp [World.setRow]
    · rw [setRow_other _ _ _ _ (by omega)]; exact hb0.block j hj
  have HR2 : ((w.alloc (.cells zPk 30)).drew.setRow w.heap.size CS).heap[w.heap.size]? = some (.cells CS 30 (0, 0)) := setRow_heap _ _ zPk _ 30 _ hrow
  refine AllReadyH.one_store (o := ?o) ?ho ?hw 30 (.tmp 4) (.tmp 43) ?hop ?hdst w.heap.size CS ?hx ?hy 30 zPk hrow HK1.out HK2.out HK3.out (HSS.out _ HB2) ?h
  case ho => exact rfl
  case hw => kernel_rfl
  case hop => kernel_rfl
  case hdst => kernel_rfl
  case hx => kernel_rfl
  case hy => kernel_rfl
  case h =>
    intro W2 hW2
    have hW3 : W2 = (w.alloc (.cells zPk 30)).drew.setRow w.heap.size CS := hW2
    rw [← hW3] at HB2 HR2
    clear hW2 hW3
    refine wpAnyH_done ?hr ?hq _
    case hr => kernel_rfl
    case hq =>
      clear HSS HI HBU HK2 HK3 HIG hrow hHeld hb0
      have HSZ := HK1.out
      clear HK1
      refine q_eq (B := { tmps := #[.pointer (some ⟨pb, 0, none⟩), .int .i64 c, undef, undef, .pointer (some ⟨w.heap.size, 0, none⟩), .int .i64 c, .pointer (some ⟨pb, 0, none⟩), .pointer (some ⟨pb, 0, none⟩), .pointer (some ⟨pb, 0, none⟩), .pointer (some ⟨pb, 0, none⟩), .int .u32 (a : Int), .pointer (some ⟨pb, 0, none⟩), .pointer (some ⟨pb, 0, none⟩), .pointer (some ⟨pb, 0, none⟩), .pointer (some ⟨pb, 1, none⟩), .int .u32 (b : Int), .pointer (some ⟨pb, 0, none⟩), .pointer (some ⟨pb, 0, none⟩), .pointer (some ⟨pb, 0, none⟩), .pointer (some ⟨pb, 2, none⟩), .int .u32 (c' : Int), .pointer (some ⟨pb, 0, none⟩), .pointer (some ⟨pb, 0, none⟩), .pointer (some ⟨pb, 0, none⟩), .pointer (some ⟨pb, 3, none⟩), .int .u32 (d : Int), .pointer (some ⟨pb, 0, none⟩), .pointer (some ⟨pb, 0, none⟩), .pointer (some ⟨pb, 0, none⟩), .pointer (some ⟨pb, 4, none⟩), .int .u32 (e : Int), .pointer (some ⟨pb, 0, none⟩), .pointer (some ⟨pb, 0, none⟩), .pointer (some ⟨pb, 5, none⟩), .agg GL.toArray, .pointer (some ⟨pb, 0, none⟩), .pointer (some ⟨pb, 0, none⟩), .pointer (some ⟨pb, 9, none⟩), .agg SL.toArray, .pointer (some ⟨pb, 0, none⟩), .pointer (some ⟨pb, 0, none⟩), .pointer (some ⟨pb, 41, none⟩), .slice da dn dc, .agg CS], defers := [] }) (by kernel_rfl) ?_
      go_wp2_with fail
      exact bodyPost_ret (results_row (p := 4) rfl _ _ w.heap.size 30 _ (0, 0) _ (by kernel_rfl) HR2 Tryd.underlying30 rfl HSZ) rfl ⟨rfl, HB2⟩
end Go.Proofs.YtacjibfmhhmbcabDoor
namespace Go.Proofs.YtacjibfmhhmbcabDoor
open Go.RowKit
set_option linter.unusedVariables false
set_option linter.unusedSimpArgs false
set_option maxRecDepth 20000

theorem rdN1_cmd (l : List Nat) (at' : Nat) : (rdN l [(1, 25)] 1 0 at').1 ≤ 25 ∧ ((rdN l [(1, 25)] 1 0 at').2.2 = true → (rdN l [(1, 25)] 1 0 at').1 = 0) ∧ ((rdN l [(1, 25)] 1 0 at').2.2 = false → 1 ≤ (rdN l [(1, 25)] 1 0 at').1) := by
  rw [rdN]
  split
  · simp
  · split
    · rename_i hm
      simp [meets] at hm
      simp [rdN]
      omega
    · simp
/-- the command -/
def dCmd (l : List Nat) : Nat := (rdS l [(1, 25)] 1 0 false).1
theorem dCmd_le (l : List Nat) : dCmd l ≤ 25 := (rdN1_cmd l 0).1
theorem dCmd_stuck {l : List Nat} (h : (rdS l [(1, 25)] 1 0 false).2.2 = true) : dCmd l = 0 := (rdN1_cmd l 0).2.1 h
theorem dCmd_go {l : List Nat} (h : (rdS l [(1, 25)] 1 0 false).2.2 = false) : 1 ≤ dCmd l := (rdN1_cmd l 0).2.2 h
/-- its fields, one behind the other -/
def decS (l : List Nat) (fs : List Fd) (k : Nat) (p : PV) (at' : Nat) (st : Bool) : PV × Nat × Bool := (fs.take k).foldl (fun s f => fieldF l s.1 s.2.1 s.2.2 f) (p, at', st)
theorem decS_succ {l : List Nat} {fs : List Fd} {k : Nat} {f : Fd} (hk : fs[k]? = some f) (p : PV) (at' : Nat) (st : Bool) : decS l fs (k + 1) p at' st = fieldF l (decS l fs k p at' st).1 (decS l fs k p at' st).2.1 (decS l fs k p at' st).2.2 f := by
  unfold decS
  rw [List.take_add_one, hk]
  simp
/-- what was read -/
def dAll (l : List Nat) : PV × Nat × Bool := decS l (fdL (dCmd l)) (fdL (dCmd l)).length PV.zero (rdS l [(1, 25)] 1 0 false).2.1 (rdS l [(1, 25)] 1 0 false).2.2
def dErr (l : List Nat) : Nat := why l.length (dAll l).2.1 (dAll l).2.2
def dAt (l : List Nat) : Nat := if dErr l = 0 then 0 else (dAll l).2.1
def dPv (l : List Nat) : PV := if dErr l = 0 then (dAll l).1 else PV.zero
def dC (l : List Nat) : Nat := if dErr l = 0 then dCmd l else 0
def DecP (w : World) (l : List Nat) (e : Ending) (w' : World) : Prop := ∃ v', e = .returned (.tuple #[pkV (dC l) (dPv l) v', .int .i64 (dAt l : Nat), .int .i64 (dErr l : Nat)]) ∧ BSl w' v' (dPv l).dl ∧ Below w.heap.size w w'
theorem zPk_eq : zPk = (.int .i64 0 :: PV.zero.row (.slice none 0 0)).toArray := rfl
theorem zParts_eq : zParts = (PV.zero.row (.slice none 0 0)).toArray := rfl
theorem results_row_tmp2 {P : Program} {fn : Func} {p u v : Tmp} {ty : TypeId} (h : fn.results = #[.cell p ty, .tmp u, .tmp v]) (tmps : Array Value) (w : World) (g : Nat) (t : TypeId) (cs : Array Value) (fr : Nat × Nat) (d : TypeDesc)
    (hp : tmps.getD p undef = .pointer (some ⟨g, 0, none⟩)) (hg : w.heap[g]? = some (.cells cs t fr))
    (hu : P.underlying ty = some d) (hd : (match d with | .struct _ | .array _ _ => true | _ => false) = true) (hi : (P.info? ty).map (·.size) = some cs.size) :
    (results fn tmps).run P w = .ok (.tuple #[.agg cs, tmps.getD u undef, tmps.getD v undef]) w := by
  have hp' : tmps[p]?.getD undef = .pointer (some ⟨g, 0, none⟩) := by simpa using hp
  simp [results, h, hp', asAddr, run_loadVar_row w g t ty cs fr d hg hu hd hi]
/-- the reader and the parts, as they begin -/
theorem ds_begin {w x3 : World} {b off cap : Nat} {l : List Nat} {at' : Nat} {st : Bool} (hT : BTab w) (hbw : b < w.heap.size) (hr : Rd x3 w.heap.size b off cap l at' st) (hbel : Below w.heap.size w x3) (ha : at' ≤ l.length) :
    DS w (x3.alloc (.cells zParts 64)) w.heap.size w.heap.size x3.heap.size b off cap l at' st PV.zero (.slice none 0 0) := by
  have hb := (Below.refl x3.heap.size x3).alloc (Nat.le_refl _) (.cells zParts 64)
  have hrl := (Array.getElem?_eq_some_iff.1 hr.row).1
  have hTb : 0 < w.heap.size := by have := World.block_lt_of_cell? w _ (hT 0 (by decide)).1; simpa using this
  refine ⟨hr.below hb, ⟨Go.heap_alloc_new x3 _, PV.zero_ok, bsl_nil _, by simp [Value.ownBlock]⟩, (hT.below (hbel.trans (hb.mono hbel.size))), ⟨(hbel.trans (hb.mono hbel.size)).os, (hbel.trans (hb.mono hbel.size)).tape, (hbel.trans (hb.mono hbel.size)).output, (hbel.trans (hb.mono hbel.size)).size, fun j h1 _ _ => (hbel.trans (hb.mono hbel.size)).block j h1⟩, by omega, ⟨Nat.le_refl _, hbel.size, hbw, hTb, by simp; have := hbel.size; omega⟩, by simp [Value.ownBlock], ha, by simp [Value.ownBlock]⟩
theorem field_all {f : Fd} (h : f.Ok) : FieldSpec f := by
  cases f with
  | num n => exact field_num n h
  | ids => exact field_ids
  | sum t => exact field_sum t
  | dat lo hi t => exact field_dat lo hi t h.1 h.2
end Go.Proofs.YtacjibfmhhmbcabDoor
namespace Go.Proofs.YtacjibfmhhmbcabDoor
open Go.RowKit
set_option linter.unusedVariables false
set_option linter.unusedSimpArgs false
set_option maxRecDepth 20000

theorem FL.shape {w : World} {v : Value} {fs : List Fd} (h : FL w v (fs.map Fd.val)) : ∃ aa, v = .slice aa fs.length fs.length := by
  rcases FL.at h with ⟨rfl, rfl⟩ | ⟨b, rfl, _⟩
  · exact ⟨none, rfl⟩
  · exact ⟨_, rfl⟩
set_option maxHeartbeats 2000000 in
theorem decP_some (w : World) (b off cap : Nat) (l : List Nat) (hl : 0 < l.length) (h1 : l.length ≤ cap) (h2 : cap ≤ maxLen) (hb : ∀ x ∈ l, x < 256) (hd : ∀ i, i < l.length → w.cell? ⟨b, off + i, none⟩ = some (.int .u8 (l.getD i 0 : Nat))) (hT : BTab w) :
    Calls Tryd.prog 10 #[.slice (some ⟨b, off, none⟩) l.length cap] w fun e' w' => DecP w l e' w' := by
  have hbw : b < w.heap.size := World.block_lt_of_cell? w _ (hd 0 hl)
  obtain ⟨x0, hx0⟩ : ∃ x, x = w.alloc (.cells zPk 30) := ⟨_, rfl⟩
  have s0 : x0.heap.size = w.heap.size + 1 := by rw [hx0]; simp
  have hb0 : Below w.heap.size w x0 := by rw [hx0]; exact (Below.refl w.heap.size w).alloc (Nat.le_refl _) _
  have hq0 : x0.heap[w.heap.size]? = some (.cells zPk 30 (0, 0)) := by rw [hx0]; exact Go.heap_alloc_new w _
  have hT0 : BTab x0 := hT.below hb0
  obtain ⟨x1, hx1⟩ : ∃ x, x = x0.alloc (.cells #[.slice (some ⟨b, off, none⟩) l.length cap, .int .i64 0, .bool false] 56) := ⟨_, rfl⟩
  have s1 : x1.heap.size = w.heap.size + 1 + 1 := by rw [hx1]; simp [s0]
  have hb1 : Below x0.heap.size x0 x1 := by rw [hx1]; exact (Below.refl x0.heap.size x0).alloc (Nat.le_refl _) _
  have hrd1 : Rd x1 (w.heap.size + 1) b off cap l 0 false := by
    refine ⟨by rw [hx1, ← s0]; exact Go.heap_alloc_new x0 _, h1, h2, hb, fun i hi => ?_, by omega⟩
    exact ((hb0.trans (hb1.mono (by omega))).cell (p := ⟨b, off + i, none⟩) hbw).trans (hd i hi)
  obtain ⟨x2, hx2⟩ : ∃ x, x = x1.alloc (.cells #[.int .u64 1, .int .u64 25] 59) := ⟨_, rfl⟩
  have hb2 : Below x1.heap.size x1 x2 := by rw [hx2]; exact (Below.refl x1.heap.size x1).alloc (Nat.le_refl _) _
  have hsp : SpL x2 (.slice (some ⟨w.heap.size + 1 + 1, 0, none⟩) 1 1) [(1, 25)] := by rw [hx2, ← s1]; exact SpL.one (w := x1) 1 25 (by decide) (by decide) 59
  have HN := hide (number_all x2 (w.heap.size + 1) b off cap 0 1 l [(1, 25)] _ false (hrd1.below hb2) hsp (by simp only [Value.ownBlock, ne_eq, Option.some.injEq]; omega) (by decide) (by decide) (Nat.zero_le _))
  have HX : Hid ((rdS l [(1, 25)] 1 0 false).1 ≤ 25) := hide (dCmd_le l)
  have HLE := hide (rdS_le (l := l) (L := [(1, 25)]) (k := 1) (at' := 0) (stuck := false) (Nat.zero_le _)).2
  have HDA : Hid (dAll l = decS l (fdL (rdS l [(1, 25)] 1 0 false).1) (fdL (rdS l [(1, 25)] 1 0 false).1).length PV.zero (rdS l [(1, 25)] 1 0 false).2.1 (rdS l [(1, 25)] 1 0 false).2.2) := hide rfl
  have HDC : Hid (dCmd l = (rdS l [(1, 25)] 1 0 false).1) := hide rfl
  have HST : Hid ((rdS l [(1, 25)] 1 0 false).2.2 = true → (rdS l [(1, 25)] 1 0 false).1 = 0) := hide fun h => dCmd_stuck h
  have HGO : Hid ((rdS l [(1, 25)] 1 0 false).2.2 = false → 1 ≤ (rdS l [(1, 25)] 1 0 false).1) := hide fun h => dCmd_go h
  have HB2 : Hid (Below x0.heap.size x0 x2) := hide (hb1.trans (hb2.mono hb1.size))
  generalize hr : rdS l [(1, 25)] 1 0 false = r at *
  obtain ⟨c, at0, st0⟩ := r
  simp only at *
  have hwx : IntKind.i64.wrap ((c : Nat) : Int) = ((c : Nat) : Int) := by have := HX.out; simp [IntKind.wrap, IntKind.bits, IntKind.signed]; omega
  clear hr hsp hrd1 hd
  rw [hx1, hx0] at hx2
  have HXX := hide hx2
  have HDSB : Hid (∀ x3, Rd x3 (w.heap.size + 1) b off cap l at0 st0 → Oth (w.heap.size + 1) x2 x3 → DS x0 (x3.alloc (.cells zParts 64)) x0.heap.size x0.heap.size x3.heap.size b off cap l at0 st0 PV.zero (.slice none 0 0)) := hide fun x3 hr3 ho3 => by
    refine ds_begin hT0 (by omega) (by rw [s0]; exact hr3) ?_ HLE.out
    have hbb := HB2.out
    exact ⟨ho3.os.trans hbb.os, ho3.tape.trans hbb.tape, ho3.output.trans hbb.output, Nat.le_trans hbb.size ho3.size, fun j hj => (ho3.block j (Nat.lt_of_lt_of_le hj hbb.size) (by omega)).trans (hbb.block j hj)⟩
  have S0 := hide s0
  have Q0 := hide hq0
  have B0 := hide hb0
  clear hx0 hx1 hx2 hb0 hb1 hb2 s0 s1 hq0 HB2 hT hT0
  go_enter Tryd.func10, Tryd.ntmps10
  go_wp2_with fail
  have HN3 : Hid (∀ y, y = x2 → Calls Tryd.prog 22 #[.pointer (some ⟨w.heap.size + 1, 0, none⟩), .int .i64 1, .slice (some ⟨w.heap.size + 1 + 1, 0, none⟩) 1 1] y fun e' w' => e' = .returned (.int .u64 (c : Nat)) ∧ Rd w' (w.heap.size + 1) b off cap l at0 st0 ∧ Oth (w.heap.size + 1) x2 w') := hide fun y hy => by rw [hy]; exact HN.out
  refine (HN3.out _ HXX.out.symm).mono ?_
  rintro e' x3 ⟨rfl, hr3, ho3⟩
  have HD := hide (HDSB.out x3 hr3 ho3)
  have HCA := hide (carried_any (x3.alloc (.cells zParts 64)) c HX.out)
  clear hr3 ho3 HN HN3 HXX HDSB
  go_wp2_with (go_at_call 23; refine HCA.out.mono ?_; rintro e' x5 ⟨fv, rfl, hfl, hb5⟩; have HD5 := hide (HD.out.below hb5); rw [fldL_fdL c HX.out] at hfl; have HFL := hide hfl; obtain ⟨aa, hfv⟩ := FL.shape hfl; subst hfv; clear hfl hb5 HCA HD)
  have HOK := hide (fdL_ok c)
  have HLEN := fdL_len c
  have HNE := hide (fdL_ne c)
  generalize hfs : fdL c = fs at *
  obtain ⟨pb, hpb⟩ : ∃ pb, pb = x3.heap.size := ⟨_, rfl⟩
  rw [← hpb] at HD5 ⊢
  have HD5' : Hid (DS x0 x5 x0.heap.size (w.heap.size + 1) pb b off cap l at0 st0 PV.zero (.slice none 0 0)) := hide (by have := HD5.out; rw [S0.out] at this; rw [S0.out]; exact this)
  clear HD5 hpb hfs
  have HD6 := hide HD5'.out.rebase
  have HQ5 : Hid (x5.heap[w.heap.size]? = some (.cells zPk 30 (0, 0))) := hide (by
    have h6 := HD5'.out.hB
    have h7 := S0.out
    exact (HD5'.out.bel.block w.heap.size (by omega) (by omega) (by omega)).trans Q0.out)
  have HB5 : Hid (Below w.heap.size w x5) := hide (by
    have h6 := HD5'.out.hB
    have h7 := S0.out
    have hbb := HD5'.out.bel
    exact ⟨hbb.os.trans B0.out.os, hbb.tape.trans B0.out.tape, hbb.output.trans B0.out.output, Nat.le_trans B0.out.size hbb.size, fun j hj => (hbb.block j (by omega) (by omega) (by omega)).trans (B0.out.block j hj)⟩)
  have HPB : Hid (w.heap.size < pb ∧ w.heap.size < x5.heap.size) := hide (by have h6 := HD5'.out.hB; have h7 := S0.out; exact ⟨by omega, by omega⟩)
  have HFC : Hid (∀ wr, Ot2 (w.heap.size + 1) pb x5 wr → ∀ b', aa = some ⟨b', 0, none⟩ → ∀ k f, fs[k]? = some f → wr.cell? ⟨b', k, none⟩ = some f.val) := hide fun wr ho b' hbb' k f hk => by
    rcases HFL.out with ⟨e, _⟩ | ⟨b2, e, hrow⟩
    · have : fs = [] := by simpa using e
      subst this; simp at hk
    · rw [hbb'] at e
      simp at e
      subst e
      have n1 : b' ≠ w.heap.size + 1 := fun e => by
        have := HD6.out.rd.row; rw [← e, hrow] at this; simp at this
      have n2 : b' ≠ pb := fun e => by
        have := HD6.out.pm.row; rw [← e, hrow] at this; simp at this
      rw [World.cell?_of_block (ho.block b' (Array.getElem?_eq_some_iff.1 hrow).1 n1 n2), cell_of_row _ _ _ _ _ _ hrow]
      simp [hk]
  have HAA : Hid (0 < fs.length → ∃ b', aa = some ⟨b', 0, none⟩) := hide fun h0 => by
    rcases FL.at HFL.out with ⟨e, _⟩ | ⟨b2, e, _⟩
    · subst e; simp at h0
    · simp at e; exact ⟨b2, e⟩
  clear HD5' HFL HNE
  go_loopw [20] (fun i wr => ∃ (k : Nat) (v' : Value), k ≤ fs.length ∧ i = .int .i64 k ∧ DS x5 wr x0.heap.size (w.heap.size + 1) pb b off cap l (decS l fs k PV.zero at0 st0).2.1 (decS l fs k PV.zero at0 st0).2.2 (decS l fs k PV.zero at0 st0).1 v') (fun i _ => fs.length - (intOf i).toNat)
  case atStart => exact ⟨0, _, Nat.zero_le _, rfl, HD6.out⟩
  case round =>
    obtain ⟨k, v', hk, rfl, hds⟩ := hrel
    have HDK := hide hds
    clear hds HD6
    by_cases hlt : k < fs.length
    · obtain ⟨f, hf⟩ : ∃ f, fs[k]? = some f := ⟨_, List.getElem?_eq_getElem hlt⟩
      obtain ⟨b', hbb'⟩ := HAA.out (by omega)
      subst hbb'
      have hcell := HFC.out _ HDK.out.bel b' rfl k f hf
      have HSC := hide (decS_succ (l := l) hf PV.zero at0 st0)
      have HFS := hide (field_all (HOK.out f (List.mem_of_getElem? hf)) x5 wr x0.heap.size (w.heap.size + 1) pb b off cap l _ _ _ v' HDK.out)
      rw [← HSC.out] at HFS
      clear hf HSC
      generalize f.val = fvv at *
      go_wp2_with (go_at_call 24; refine HFS.out.mono ?_; rintro e' y ⟨rfl, v2, hd2⟩; have HD2 := hide hd2; clear hd2 HFS)
      go_roundw
      case rel => exact ⟨k + 1, v2, by omega, by go_num, HD2.out⟩
      case measure => simp [intOf]; omega
    · obtain rfl : k = fs.length := by omega
      rw [← HDA.out] at HDK
      generalize hda : dAll l = D at *
      obtain ⟨pv, at1, st1⟩ := D
      simp only at HDK
      have HRS := hide (reason_any wr (w.heap.size + 1) _ l.length cap at1 st1 HDK.out.rd.cells.1 HDK.out.rd.cells.2.1 HDK.out.rd.cells.2.2.1 HDK.out.rd.h1 HDK.out.rd.h2 HDK.out.at_)
      have HER : Hid (dErr l = why l.length at1 st1) := hide (by unfold dErr; rw [hda])
      have HDA2 := hide hda
      clear hda HDA
      generalize why l.length at1 st1 = er at *
      by_cases her : er = 0
      · subst her
        have HF1 : Hid (dC l = c ∧ dPv l = pv ∧ dAt l = 0) := hide (by
          have h9 : dErr l = 0 := HER.out
          exact ⟨by unfold dC; rw [if_pos h9, HDC.out], by unfold dPv; rw [if_pos h9, HDA2.out], by unfold dAt; rw [if_pos h9]⟩)
        obtain ⟨da, dc, hv', _, _, _, _, _⟩ := id HDK.out.pm.dat
        generalize pv.dl.length = dn at hv'
        subst hv'
        have HPK := hide fun z (hz : DS x5 z x0.heap.size (w.heap.size + 1) pb b off cap l at1 st1 pv (.slice da dn dc)) => packet_any z c pb pv da dn dc hz.pm
        have HK1 : Hid ((Tryd.prog.info? 30).map (·.size) = some (.int .i64 (c : Int) :: pv.row (.slice da dn dc)).toArray.size) := hide (by rw [List.size_toArray, List.length_cons, row_len HDK.out.pm.ok.n]; exact infoK)
        have HK2 : Hid (zPk.size = (.int .i64 (c : Int) :: pv.row (.slice da dn dc)).toArray.size) := hide (by show 43 = _; rw [List.size_toArray, List.length_cons, row_len HDK.out.pm.ok.n])
        have HK3 : Hid ((.int .i64 (c : Int) :: pv.row (.slice da dn dc)).toArray.all (·.oneCell') = true) := hide (by
          have := row_all pv (.slice da dn dc) rfl
          rw [Array.all_eq_true_iff_forall_mem] at this ⊢
          intro x hx
          rw [List.mem_toArray, List.mem_cons] at hx
          rcases hx with rfl | hx
          · rfl
          · exact this x (by rw [List.mem_toArray]; exact hx))
        have HPV : Hid (pkV (c : Int) pv (.slice da dn dc) = .agg (.int .i64 (c : Int) :: pv.row (.slice da dn dc)).toArray) := hide rfl
        unfold pkV at HPK
        generalize hcs : (.int .i64 (c : Int) :: pv.row (.slice da dn dc)).toArray = CS at *
        clear hcs
        go_wp2_with (first
          | (go_at_call 25; refine HRS.out.mono ?_; rintro e' y ⟨rfl, hb6, hh6⟩; have HD7 := hide (HDK.out.below hb6); clear hb6 hh6 HRS)
          | (go_at_call 26; refine (HPK.out _ HD7.out).mono ?_; rintro e' y8 ⟨rfl, hb8⟩; have HD8 := hide (HD7.out.below hb8); have HQ8 : Hid (y8.heap[w.heap.size]? = some (.cells zPk 30 (0, 0))) := hide ((HD8.out.bel.block w.heap.size HPB.out.2 (by omega) (by have := HPB.out.1; omega)).trans HQ5.out); clear hb8 HPK)
          | (refine wpList_store_row rfl 30 (.tmp 2) (.tmp 35) rfl w.heap.size CS (by first | rfl | simp [Act.eval, Act.put]) (by first | rfl | simp [Act.eval, Act.put]) 30 zPk HQ8.out HK1.out HK2.out HK3.out ?_))
        have hb8 : Below w.heap.size w y8 := by
          have hbb := HD8.out.bel
          have h8 := HPB.out
          exact ⟨hbb.os.trans HB5.out.os, hbb.tape.trans HB5.out.tape, hbb.output.trans HB5.out.output, Nat.le_trans HB5.out.size hbb.size, fun j hj => (hbb.block j (by omega) (by omega) (by omega)).trans (HB5.out.block j hj)⟩
        have HB9 : Below w.heap.size w (y8.setRow w.heap.size CS) := by
          refine ⟨hb8.os, hb8.tape, hb8.output, by simp [World.setRow]; exact hb8.size, fun j hj => ?_⟩
          rw [setRow_other _ _ _ _ (by omega)]; exact hb8.block j hj
        have HR9 : (y8.setRow w.heap.size CS).heap[w.heap.size]? = some (.cells CS 30 (0, 0)) := setRow_heap _ _ zPk _ 30 _ HQ8.out
        have HBS : BSl (y8.setRow w.heap.size CS) (.slice da dn dc) pv.dl := HD8.out.pm.dat.stay fun g hg => setRow_other _ _ _ _ (by
          have := (HD8.out.vn g hg).1
          have := S0.out
          omega)
        refine bodyPost_ret (results_row_tmp2 (p := 2) (u := 3) (v := 4) rfl _ _ w.heap.size 30 CS (0, 0) _ (by kernel_rfl) HR9 Tryd.underlying30 rfl HK1.out) rfl ⟨.slice da dn dc, ?_, ?_, HB9⟩
        · rw [HF1.out.1, HF1.out.2.1, HF1.out.2.2, HER.out, HPV.out]; rfl
        · rw [HF1.out.2.1]; exact HBS
      · have hne : ((er : Int) != 0) = true := by simp only [bne_iff_ne]; omega
        go_wp2_with (go_at_call 25; refine HRS.out.mono ?_; rintro e' y ⟨rfl, hb6, hh6⟩; have HD7 := hide (HDK.out.below hb6); clear hb6 hh6 HRS)
        have hq7 : y.heap[w.heap.size]? = some (.cells zPk 30 (0, 0)) := (HD7.out.bel.block w.heap.size HPB.out.2 (by omega) (by have := HPB.out.1; omega)).trans HQ5.out
        have ha7 := HD7.out.rd.cells.2.1
        have hb7 : Below w.heap.size w y := by
          have hbb := HD7.out.bel
          have h8 := HPB.out
          exact ⟨hbb.os.trans HB5.out.os, hbb.tape.trans HB5.out.tape, hbb.output.trans HB5.out.output, Nat.le_trans HB5.out.size hbb.size, fun j hj => (hbb.block j (by omega) (by omega) (by omega)).trans (HB5.out.block j hj)⟩
        have HF1 : Hid (dC l = 0 ∧ dPv l = PV.zero ∧ dAt l = at1) := hide (by
          have h9 : ¬ dErr l = 0 := by rw [HER.out]; exact her
          exact ⟨by unfold dC; rw [if_neg h9], by unfold dPv; rw [if_neg h9], by unfold dAt; rw [if_neg h9, HDA2.out]⟩)
        refine wp_region_held_drew (S := fun z => z.cell? ⟨w.heap.size + 1, 1, none⟩ = some (.int .i64 (at1 : Int))) (by kernel_rfl) ha7 (fun hHeld => ?_)
        refine wpAnyH_take (i := 0) (v := .agg zPk) rfl (by kernel_rfl) (by kernel_rfl) (by kernel_rfl) (fun _ _ _ h => h) ?hy0 hHeld ?_
        case hy0 =>
          refine yieldsIf_build ?hya 30 _ rfl zPk ?hyd
          case hya => kernel_rfl
          case hyd => kernel_rfl
        (try simp only [Act.put, List.setIfInBounds_toArray, List.set_cons_zero, List.set_cons_succ])
        refine wpAnyH_take (i := 1) (v := ?v1) rfl (by kernel_rfl) (by kernel_rfl) (by kernel_rfl) (fun _ _ _ h => h) (Or.inl ⟨by rfl, ?h1⟩) hHeld ?r1
        case h1 => intro w' hSw; go_simp; (try with_reducible rfl)
        (try simp only [Act.put, List.setIfInBounds_toArray, List.set_cons_zero, List.set_cons_succ])
        refine wpAnyH_take (i := 2) (v := .int .i64 (at1 : Int)) rfl (by kernel_rfl) (by kernel_rfl) (by kernel_rfl) (fun _ _ _ h => h) (Or.inl ⟨by rfl, ?h2⟩) hHeld ?r2
        case h2 => intro w' hSw; go_simp; (try with_reducible rfl)
        (try simp only [Act.put, List.setIfInBounds_toArray, List.set_cons_zero, List.set_cons_succ])
        refine wpAnyH_take (i := 3) (v := ?v3) rfl (by kernel_rfl) (by kernel_rfl) (by kernel_rfl) (fun _ _ _ h => h) (Or.inl ⟨by rfl, ?h3⟩) hHeld ?r3
        case h3 => intro w' hSw; go_simp; (try with_reducible rfl)
        (try simp only [Act.put, List.setIfInBounds_toArray, List.set_cons_zero, List.set_cons_succ])
        have HB8 : Below w.heap.size w (y.drew.setRow w.heap.size zPk) := by
          refine ⟨hb7.os, hb7.tape, hb7.output, by simp [World.setRow]; exact hb7.size, fun j hj => ?_⟩
          rw [setRow_other _ _ _ _ (by omega)]; exact hb7.block j hj
        have HR8 : (y.drew.setRow w.heap.size zPk).heap[w.heap.size]? = some (.cells zPk 30 (0, 0)) := setRow_heap _ _ zPk _ 30 _ hq7
        have HS8 : (y.drew.setRow w.heap.size zPk).cell? ⟨w.heap.size + 1, 1, none⟩ = some (.int .i64 (at1 : Int)) := by
          rw [World.cell?_of_block (show (y.drew.setRow w.heap.size zPk).heap[w.heap.size + 1]? = y.heap[w.heap.size + 1]? from setRow_other _ _ _ _ (by omega))]; exact ha7
        refine wpAnyH_ready (rs := [4]) (by kernel_rfl) (by simp) ?_
        refine AllReadyH.one_store (o := ?o) ?ho ?hw 30 (.tmp 2) (.tmp 30) ?hop ?hdst w.heap.size zPk ?hx ?hy 30 zPk hq7 infoK rfl (by kernel_rfl) HS8 ?h
        case ho => exact rfl
        case hw => kernel_rfl
        case hop => kernel_rfl
        case hdst => kernel_rfl
        case hx => kernel_rfl
        case hy => kernel_rfl
        case h =>
          intro W2 hW2
          have hHeld2 := HS8
          rw [← hW2] at HB8 HR8 hHeld2
          clear hW2 HS8
          refine wpAnyH_take (i := 5) (v := ?v5) rfl (by kernel_rfl) (by kernel_rfl) (by kernel_rfl) (fun _ _ _ h => h) (Or.inl ⟨by rfl, ?h5⟩) hHeld2 ?r5
          case h5 => intro w' hSw; go_simp; (try with_reducible rfl)
          (try simp only [Act.put, List.setIfInBounds_toArray, List.set_cons_zero, List.set_cons_succ])
          refine wpAnyH_take (i := 6) (v := ?v6) rfl (by kernel_rfl) (by kernel_rfl) (by kernel_rfl) (fun _ _ _ h => h) (Or.inl ⟨by rfl, ?h6⟩) hHeld2 ?r6
          case h6 => intro w' hSw; go_simp; (try with_reducible rfl)
          (try simp only [Act.put, List.setIfInBounds_toArray, List.set_cons_zero, List.set_cons_succ])
          refine wpAnyH_done ?hr ?hq _
          case hr => kernel_rfl
          case hq =>
            refine q_eq (B := { tmps := #[.slice (some ⟨b, off, none⟩) l.length cap, undef, .pointer (some ⟨w.heap.size, 0, none⟩), .int .i64 (at1 : Int), .int .i64 (er : Int), .pointer (some ⟨w.heap.size + 1, 0, none⟩), .int .i64 (c : Int), .pointer (some ⟨pb, 0, none⟩), undef, u9, .int .i64 (er : Int), .slice (some ⟨b, off, none⟩) l.length cap, .agg #[.slice (some ⟨b, off, none⟩) l.length cap, .int .i64 0, .bool false], .agg #[.int .u64 1, .int .u64 25], .slice (some ⟨w.heap.size + 1 + 1, 0, none⟩) 1 1, .int .u64 (c : Int), .int .i64 (c : Int), .int .i64 (c : Int), .slice aa fs.length fs.length, .int .i64 (fs.length : Int), .int .i64 (fs.length : Int), .bool false, u22, u23, u24, u25, u26, .int .i64 (er : Int), .int .i64 (er : Int), .bool true, .agg zPk, .pointer (some ⟨w.heap.size + 1, 1, none⟩), .int .i64 (at1 : Int), .int .i64 (er : Int), undef, undef], defers := [] }) (by kernel_rfl) ?_
            go_wp2_with fail
            refine bodyPost_ret (results_row_tmp2 (p := 2) (u := 3) (v := 4) rfl _ _ w.heap.size 30 zPk (0, 0) _ (by kernel_rfl) HR8 Tryd.underlying30 rfl infoK) rfl ⟨.slice none 0 0, ?_, ?_, HB8⟩
            · rw [HF1.out.1, HF1.out.2.1, HF1.out.2.2, HER.out]; rfl
            · rw [HF1.out.2.1]; exact bsl_nil _
end Go.Proofs.YtacjibfmhhmbcabDoor
namespace Go.Proofs.YtacjibfmhhmbcabDoor
open Go.RowKit
set_option linter.unusedVariables false
set_option linter.unusedSimpArgs false
set_option maxRecDepth 20000

set_option maxHeartbeats 4000000 in
theorem samePacket_eq (w : World) (c : Int) (p q : PV) (v1 v2 : Value) (hp : p.Ok) (h1 : BSl w v1 p.dl) (h2 : BSl w v2 p.dl) (hq : q = { p with dl := q.dl }) (hdl : q.dl = p.dl) :
    Calls Tryd.prog 19 #[pkV c p v1, pkV c q v2] w fun e' w' => e' = .returned (.bool true) ∧ Below w.heap.size w w' := by
  obtain rfl : q = p := by rw [hq, hdl]
  obtain ⟨a1, c1, rfl, _⟩ := id h1
  obtain ⟨a2, c2, rfl, _⟩ := id h2
  obtain ⟨x0, hx0⟩ : ∃ x, x = w.alloc (.cells (.int .i64 c :: q.row (.slice a1 q.dl.length c1)).toArray 30) := ⟨_, rfl⟩
  obtain ⟨x1, hx1⟩ : ∃ x, x = x0.alloc (.cells (.int .i64 c :: q.row (.slice a2 q.dl.length c2)).toArray 30) := ⟨_, rfl⟩
  have s0 : x0.heap.size = w.heap.size + 1 := by rw [hx0]; simp
  have b0 : Below w.heap.size w x0 := by rw [hx0]; exact (Below.refl w.heap.size w).alloc (Nat.le_refl _) _
  have b1 : Below x0.heap.size x0 x1 := by rw [hx1]; exact (Below.refl x0.heap.size x0).alloc (Nat.le_refl _) _
  have K1 : KM x1 w.heap.size c q (.slice a1 q.dl.length c1) := (KM.mk (by rw [hx0]; exact Go.heap_alloc_new w _) hp : KM x0 w.heap.size c q (.slice a1 q.dl.length c1)).below b1
  have K2 : KM x1 (w.heap.size + 1) c q (.slice a2 q.dl.length c2) := ⟨by rw [hx1, ← s0]; exact Go.heap_alloc_new x0 _, hp⟩
  have HB1 := hide (b0.trans (b1.mono (by omega)))
  have HK1 := hide K1
  have HK2 := hide K2
  have HSM := hide fun y (hb : Below x1.heap.size x1 y) => same_eq (.slice a1 q.dl.length c1) (.slice a2 q.dl.length c2) q.dl y (h1.below (HB1.out.trans (hb.mono HB1.out.size))) (h2.below (HB1.out.trans (hb.mono HB1.out.size)))
  have HN := hide hp.n
  obtain ⟨e0, e1, e2, e3, e4, e5, e6, e7, e8, e9⟩ := K1.cells
  obtain ⟨f0, f1, f2, f3, f4, f5, f6, f7, f8, f9⟩ := K2.cells
  have ed := K1.dat
  have fd := K2.dat
  obtain ⟨x2, hx2⟩ : ∃ x, x1.alloc (.cells #[.int .u64 (q.g0 : Int), .int .u64 (q.g1 : Int), .int .u64 (q.g2 : Int), .int .u64 (q.g3 : Int)] 27) = x := ⟨_, rfl⟩
  obtain ⟨x3, hx3⟩ : ∃ x, x2.alloc (.cells #[.int .u64 (q.g0 : Int), .int .u64 (q.g1 : Int), .int .u64 (q.g2 : Int), .int .u64 (q.g3 : Int)] 27) = x := ⟨_, rfl⟩
  have b2 : Below x1.heap.size x1 x2 := by rw [← hx2]; exact (Below.refl x1.heap.size x1).alloc (Nat.le_refl _) _
  have b3 : Below x2.heap.size x2 x3 := by rw [← hx3]; exact (Below.refl x2.heap.size x2).alloc (Nat.le_refl _) _
  have s2 : x2.heap.size = x1.heap.size + 1 := by rw [← hx2]; simp
  have HB3 := hide (b2.trans (b3.mono b2.size))
  obtain ⟨i0, i1, i2, i3, i4, i5, i6, i7, i8, i9⟩ := (K2.below b2).cells
  have ed3 := (K1.below HB3.out).dat
  have fd3 := (K2.below HB3.out).dat
  have r1 : x2.heap[x1.heap.size]? = some (.cells #[.int .u64 (q.g0 : Int), .int .u64 (q.g1 : Int), .int .u64 (q.g2 : Int), .int .u64 (q.g3 : Int)] 27 (0, 0)) := by rw [← hx2]; exact Go.heap_alloc_new x1 _
  have r1' : x3.heap[x1.heap.size]? = some (.cells #[.int .u64 (q.g0 : Int), .int .u64 (q.g1 : Int), .int .u64 (q.g2 : Int), .int .u64 (q.g3 : Int)] 27 (0, 0)) := (b3.block _ (by omega)).trans r1
  have r2 : x3.heap[x2.heap.size]? = some (.cells #[.int .u64 (q.g0 : Int), .int .u64 (q.g1 : Int), .int .u64 (q.g2 : Int), .int .u64 (q.g3 : Int)] 27 (0, 0)) := by rw [← hx3]; exact Go.heap_alloc_new x2 _
  have j0 : x3.cell? ⟨x1.heap.size, 0, none⟩ = some (.int .u64 (q.g0 : Int)) := by rw [cell_of_row _ _ _ _ _ _ r1']; rfl
  have j1 : x3.cell? ⟨x1.heap.size, 1, none⟩ = some (.int .u64 (q.g1 : Int)) := by rw [cell_of_row _ _ _ _ _ _ r1']; rfl
  have j2 : x3.cell? ⟨x1.heap.size, 2, none⟩ = some (.int .u64 (q.g2 : Int)) := by rw [cell_of_row _ _ _ _ _ _ r1']; rfl
  have j3 : x3.cell? ⟨x1.heap.size, 3, none⟩ = some (.int .u64 (q.g3 : Int)) := by rw [cell_of_row _ _ _ _ _ _ r1']; rfl
  have m0 : x3.cell? ⟨x2.heap.size, 0, none⟩ = some (.int .u64 (q.g0 : Int)) := by rw [cell_of_row _ _ _ _ _ _ r2]; rfl
  have m1 : x3.cell? ⟨x2.heap.size, 1, none⟩ = some (.int .u64 (q.g1 : Int)) := by rw [cell_of_row _ _ _ _ _ _ r2]; rfl
  have m2 : x3.cell? ⟨x2.heap.size, 2, none⟩ = some (.int .u64 (q.g2 : Int)) := by rw [cell_of_row _ _ _ _ _ _ r2]; rfl
  have m3 : x3.cell? ⟨x2.heap.size, 3, none⟩ = some (.int .u64 (q.g3 : Int)) := by rw [cell_of_row _ _ _ _ _ _ r2]; rfl
  clear r1 r1' r2 b2 b3 s2
  unfold pkV
  rw [hx0] at hx1
  have HXX := hide hx1
  have hxs := hx1.symm
  generalize hc1 : (.int .i64 c :: q.row (.slice a1 q.dl.length c1)) = L1 at *
  generalize hc2 : (.int .i64 c :: q.row (.slice a2 q.dl.length c2)) = L2 at *
  clear hx0 hx1 s0 b0 b1 K1 K2 hc1 hc2 hq hdl h1 h2
  go_enter Tryd.func19, Tryd.ntmps19
  go_wp2_with fail
  go_loopw [7] (fun i wr => ∃ k n : Nat, k ≤ 32 ∧ i = .int .i64 k ∧ wr = x3.drewN n) (fun i _ => 32 - (intOf i).toNat)
  case atStart => exact ⟨0, 0, by decide, rfl, rfl⟩
  case round =>
    obtain ⟨k, n, hk, rfl, hwr⟩ := hrel
    subst hwr
    by_cases hlt : k < 32
    · have g1 : x3.cell? ⟨w.heap.size, 10 + k, none⟩ = some (.int .u8 ((q.s.getD k 0 : Nat) : Int)) := (HK1.out.below HB3.out).rng k _ (u8L_get (by rw [HN.out]; exact hlt))
      have g2 : x3.cell? ⟨w.heap.size + 1, 10 + k, none⟩ = some (.int .u8 ((q.s.getD k 0 : Nat) : Int)) := (HK2.out.below HB3.out).rng k _ (u8L_get (by rw [HN.out]; exact hlt))
      generalize q.s.getD k 0 = x at *
      have ik : (k : Int) < 32 := by omega
      go_wp2_with fail
      go_quiet (fail)
      go_wp2_with fail
      go_roundw
      case rel => exact ⟨k + 1, _, by omega, by go_num, rfl⟩
      case measure => simp [intOf]; omega
    · obtain rfl : k = 32 := by omega
      have HS3 := hide (HSM.out (x3.drewN n) (HB3.out.trans ⟨rfl, rfl, rfl, Nat.le_refl _, fun _ _ => rfl⟩))
      go_wp2_with (go_at_call 16; refine HS3.out.mono ?_; rintro e' y ⟨rfl, m, hy⟩; subst hy; clear HS3)
      go_ret
      exact ⟨rfl, bel_drewN (HB1.out.trans (HB3.out.mono HB1.out.size)) _⟩
end Go.Proofs.YtacjibfmhhmbcabDoor
namespace Go.Proofs.YtacjibfmhhmbcabDoor
open Go.RowKit
set_option linter.unusedVariables false
set_option linter.unusedSimpArgs false
set_option maxRecDepth 20000

theorem list4 {s : List Nat} (h : s.length = 4) : ∃ a b c d : Nat, s = [a, b, c, d] := by
  match s, h with
  | [a, b, c, d], _ => exact ⟨a, b, c, d, rfl⟩
theorem list2 {s : List Nat} (h : s.length = 2) : ∃ a b : Nat, s = [a, b] := by
  match s, h with
  | [a, b], _ => exact ⟨a, b, rfl⟩
/-- what is written is read -/
theorem derr_frm {k a b c d : Nat} {p : List Nat} (hE : ferr k p.length = 0) (ha : a < 4294967296) (hb : b < 4294967296) (hc : c < 4294967296) (hd' : d < 4294967296) (hp : ∀ x ∈ p, x < 256) :
    derr (frm k a b c d (fsum k a b c d p) p) = 0 ∧ dk (frm k a b c d (fsum k a b c d p) p) = k ∧ dw (frm k a b c d (fsum k a b c d p) p) 0 = a ∧ dw (frm k a b c d (fsum k a b c d p) p) 1 = b ∧ dw (frm k a b c d (fsum k a b c d p) p) 2 = c ∧ dw (frm k a b c d (fsum k a b c d p) p) 3 = d ∧ dp (frm k a b c d (fsum k a b c d p) p) = p := by
  obtain ⟨hk1, hk2, hpl⟩ := ferr_zero hE
  have hs := fsum_lt (k := k) (a := a) (b := b) (c := c) (d := d) (p := p) (by omega) hp
  have hfs := fsum_eq k a b c d p
  have va : bv (be a 4) = a := by rw [bv_be]; exact Nat.mod_eq_of_lt (by omega)
  have vb : bv (be b 4) = b := by rw [bv_be]; exact Nat.mod_eq_of_lt (by omega)
  have vc : bv (be c 4) = c := by rw [bv_be]; exact Nat.mod_eq_of_lt (by omega)
  have vd : bv (be d 4) = d := by rw [bv_be]; exact Nat.mod_eq_of_lt (by omega)
  have vs : bv (be (fsum k a b c d p) 4) = fsum k a b c d p := by rw [bv_be]; exact Nat.mod_eq_of_lt (by omega)
  have vn : bv (be p.length 2) = p.length := by rw [bv_be]; exact Nat.mod_eq_of_lt (by omega)
  unfold frm
  have hh : hd k a b c d p.length = [82, 70, k, 1] ++ be a 4 ++ be b 4 ++ be c 4 ++ be d 4 ++ be p.length 2 := rfl
  generalize hfv : fsum k a b c d p = s at *
  obtain ⟨a0, a1, a2, a3, ea⟩ := list4 (be_len a 4)
  obtain ⟨b0, b1, b2, b3, eb⟩ := list4 (be_len b 4)
  obtain ⟨c0, c1, c2, c3, ec⟩ := list4 (be_len c 4)
  obtain ⟨d0, d1, d2, d3, ed⟩ := list4 (be_len d 4)
  obtain ⟨s0, s1, s2, s3, es⟩ := list4 (be_len s 4)
  obtain ⟨n0, n1, en⟩ := list2 (be_len p.length 2)
  rw [ea, eb, ec, ed, en] at hh
  rw [ea] at va
  rw [eb] at vb
  rw [ec] at vc
  rw [ed] at vd
  rw [es] at vs
  rw [en] at vn
  rw [es, hh]
  rw [hh] at hfs
  simp only [List.cons_append, List.nil_append, List.append_assoc] at hfs ⊢
  generalize hB : (82 :: 70 :: k :: 1 :: a0 :: a1 :: a2 :: a3 :: b0 :: b1 :: b2 :: b3 :: c0 :: c1 :: c2 :: c3 :: d0 :: d1 :: d2 :: d3 :: n0 :: n1 :: s0 :: s1 :: s2 :: s3 :: p) = B at *
  have hlen : B.length = 26 + p.length := by rw [← hB]; simp; omega
  have g0 : B.getD 0 0 = 82 := by rw [← hB]; rfl
  have g1 : B.getD 1 0 = 70 := by rw [← hB]; rfl
  have g2 : B.getD 2 0 = k := by rw [← hB]; rfl
  have g3 : B.getD 3 0 = 1 := by rw [← hB]; rfl
  have q20 : sg B 20 2 = [n0, n1] := by rw [← hB]; rfl
  have q22 : sg B 22 4 = [s0, s1, s2, s3] := by rw [← hB]; rfl
  have qt : B.take 22 = 82 :: 70 :: k :: 1 :: a0 :: a1 :: a2 :: a3 :: b0 :: b1 :: b2 :: b3 :: c0 :: c1 :: c2 :: c3 :: d0 :: d1 :: d2 :: d3 :: n0 :: n1 :: [] := by rw [← hB]; rfl
  have qd : B.drop 26 = p := by rw [← hB]; rfl
  have w0 : sg B (4 + 4 * 0) 4 = [a0, a1, a2, a3] := by rw [← hB]; rfl
  have w1 : sg B (4 + 4 * 1) 4 = [b0, b1, b2, b3] := by rw [← hB]; rfl
  have w2 : sg B (4 + 4 * 2) 4 = [c0, c1, c2, c3] := by rw [← hB]; rfl
  have w3 : sg B (4 + 4 * 3) 4 = [d0, d1, d2, d3] := by rw [← hB]; rfl
  have e0 : derr B = 0 := by
    rw [derr_rest (by omega) (by rw [g0, g1, g3]; simp) (by rw [g2, q20, vn]; exact hE), q20, vn, if_neg (by omega), if_neg (by omega), q22, vs, qt, qd, if_neg (by rw [← hfs]; simp)]
  refine ⟨e0, ?_, ?_, ?_, ?_, ?_, ?_⟩
  · unfold dk; rw [if_pos e0, g2]
  · unfold dw; rw [if_pos e0, w0, va]
  · unfold dw; rw [if_pos e0, w1, vb]
  · unfold dw; rw [if_pos e0, w2, vc]
  · unfold dw; rw [if_pos e0, w3, vd]
  · unfold dp; rw [if_pos e0, qd]

/-- the document's first example -/
def exP : PV := { PV.zero with a := 7, b := 300 }
def exL : List Nat := [10, 0, 0, 0, 7, 0, 0, 1, 44]
theorem ex_perr : perr 10 exP = 0 := by kernel_rfl
theorem ex_pbytes : pbytes 10 exP = exL := by kernel_rfl
theorem ex_derr : dErr exL = 0 := by kernel_rfl
theorem ex_dAt : dAt exL = 0 := by kernel_rfl
theorem ex_dC : dC exL = 10 := by kernel_rfl
theorem ex_dPv : dPv exL = exP := by kernel_rfl
theorem exP_ok : exP.Ok := ⟨by decide, by decide, by decide, by decide, by decide, by decide, by decide, by decide, by decide, by decide, by decide⟩
end Go.Proofs.YtacjibfmhhmbcabDoor
namespace Go.Proofs.YtacjibfmhhmbcabDoor
open Go.RowKit
open Num
set_option linter.unusedVariables false
set_option linter.unusedSimpArgs false

/-! Bits turned within 32 that follow each other, those that on says; a frame of which some were turned is refused. -/
def tuL (on : Nat → Bool) (l : List Nat) (at_ : Nat) : Nat → List Nat
  | 0 => l
  | k + 1 => if on k then (tuL on l at_ k).set ((at_ + k) / 8) ((tuL on l at_ k).getD ((at_ + k) / 8) 0 ^^^ 2 ^ ((at_ + k) % 8)) else tuL on l at_ k
def tuM (on : Nat → Bool) : Nat → Nat
  | 0 => 0
  | k + 1 => if on k then tuM on k ^^^ 2 ^ k else tuM on k
def tuC (on : Nat → Bool) : Nat → Nat
  | 0 => 0
  | k + 1 => if on k then tuC on k + 1 else tuC on k
theorem tuL_len (on : Nat → Bool) (l : List Nat) (at_ k : Nat) : (tuL on l at_ k).length = l.length := by
  induction k with
  | zero => rfl
  | succ k ih => rw [tuL]; split <;> simp [ih]
theorem tuL_lt {l : List Nat} (h : ∀ b ∈ l, b < 256) (on : Nat → Bool) (at_ k : Nat) : ∀ b ∈ tuL on l at_ k, b < 256 := by
  induction k with
  | zero => exact h
  | succ k ih =>
    rw [tuL]; split
    · intro b hb
      rcases List.mem_or_eq_of_mem_set hb with hb | rfl
      · exact ih b hb
      · refine Nat.xor_lt_two_pow (n := 8) ?_ (Nat.pow_lt_pow_right (by omega) (by omega))
        by_cases hi : (at_ + k) / 8 < (tuL on l at_ k).length
        · have : (tuL on l at_ k).getD ((at_ + k) / 8) 0 = (tuL on l at_ k)[(at_ + k) / 8] := by simp [List.getD, hi]
          rw [this]; exact ih _ (List.getElem_mem hi)
        · have : (tuL on l at_ k).getD ((at_ + k) / 8) 0 = 0 := by simp [List.getD, List.getElem?_eq_none (Nat.le_of_not_lt hi)]
          omega
    · exact ih
theorem tuC_le (on : Nat → Bool) (k : Nat) : tuC on k ≤ k := by
  induction k with
  | zero => exact Nat.le_refl _
  | succ k ih => rw [tuC]; split <;> omega
theorem tuM_lt (on : Nat → Bool) (k : Nat) : tuM on k < 2 ^ k := by
  induction k with
  | zero => simp [tuM]
  | succ k ih =>
    have h2 : tuM on k < 2 ^ (k + 1) := by rw [Nat.pow_succ]; omega
    rw [tuM]; split
    · exact Nat.xor_lt_two_pow h2 (Nat.pow_lt_pow_right (by omega) (by omega))
    · exact h2
theorem tuM_ne (on : Nat → Bool) (k : Nat) (h : tuC on k ≠ 0) : tuM on k ≠ 0 ∧ ∃ j, j < k ∧ on j = true := by
  induction k with
  | zero => exact absurd rfl h
  | succ k ih =>
    rw [tuC] at h
    rw [tuM]
    split
    · rename_i hon
      refine ⟨fun h0 => ?_, k, by omega, hon⟩
      have := xor_zero_eq h0
      have := tuM_lt on k
      omega
    · rename_i hon
      rw [if_neg hon] at h
      obtain ⟨h1, j, h2, h3⟩ := ih h
      exact ⟨h1, j, by omega, h3⟩
theorem tuL_leV (on : Nat → Bool) (l : List Nat) (at_ : Nat) (hon : ∀ k, on k = true → (at_ + k) / 8 < l.length) (k : Nat) : leV (tuL on l at_ k) = leV l ^^^ 2 ^ at_ * tuM on k := by
  induction k with
  | zero => simp [tuL, tuM]
  | succ k ih =>
    rw [tuL, tuM]
    split
    · rename_i ho
      have := hon k ho
      rw [leV_set _ _ _ (by rw [tuL_len]; omega), ih, mul_pow_xor, Nat.xor_assoc, ← Nat.pow_add, ← Nat.pow_add, show 8 * ((at_ + k) / 8) + (at_ + k) % 8 = at_ + k by omega]
    · exact ih
theorem tuL_crc {l : List Nat} {at_ : Nat} {on : Nat → Bool} (hon : ∀ k, on k = true → (at_ + k) / 8 < l.length) (h : tuC on 32 ≠ 0) : crcM 0 l ≠ crcM 0 (tuL on l at_ 32) := by
  intro he
  obtain ⟨hm, j, _, hj⟩ := tuM_ne on 32 h
  have hat := hon j hj
  have hlen : l.length = (tuL on l at_ 32).length := (tuL_len _ _ _ _).symm
  have h0 := crcM_same hlen he
  rw [crcL_leV, leV_xor _ _ hlen, Nat.zero_xor, tuL_leV on l at_ hon, ← Nat.xor_assoc, Nat.xor_self, Nat.zero_xor, xorL_len hlen, show 8 * l.length = at_ + (8 * l.length - at_) by omega, crcN_add, crcN_pow] at h0
  exact crcN_ne _ (tuM_lt on 32) hm h0
theorem tuL_ne {l : List Nat} {at_ : Nat} {on : Nat → Bool} (hon : ∀ k, on k = true → (at_ + k) / 8 < l.length) (h : tuC on 32 ≠ 0) : tuL on l at_ 32 ≠ l :=
  fun e => tuL_crc hon h (by rw [e])

/-- a frame's bytes with its sum as nought -/
def zs (l : List Nat) : List Nat := l.take 22 ++ [0, 0, 0, 0] ++ l.drop 26
theorem zs_at {l : List Nat} (h : 26 ≤ l.length) (i : Nat) : (zs l)[i]? = if 22 ≤ i ∧ i < 26 then some 0 else l[i]? := by
  unfold zs
  have h1 : (l.take 22).length = 22 := by simp; omega
  by_cases a : i < 22
  · rw [if_neg (by omega), List.getElem?_append_left (by simp; omega), List.getElem?_append_left (by omega), List.getElem?_take_of_lt a]
  · by_cases b : i < 26
    · rw [if_pos ⟨by omega, b⟩, List.getElem?_append_left (by simp; omega), List.getElem?_append_right (by omega), h1]
      obtain rfl | rfl | rfl | rfl : i = 22 ∨ i = 23 ∨ i = 24 ∨ i = 25 := by omega
      all_goals rfl
    · rw [if_neg (by omega), List.getElem?_append_right (by simp; omega), List.getElem?_drop]
      congr 1
      simp
      omega
theorem zs_len {l : List Nat} (h : 26 ≤ l.length) : (zs l).length = l.length := by simp [zs]; omega
theorem zs_set_out {l : List Nat} (h : 26 ≤ l.length) {i : Nat} (hi : ¬ (22 ≤ i ∧ i < 26)) (x : Nat) : zs (l.set i x) = (zs l).set i x := by
  refine List.ext_getElem? fun j => ?_
  rw [zs_at (by simp; omega), List.getElem?_set, List.getElem?_set, zs_at h, zs_len h]
  by_cases e : i = j
  · subst e; simp [hi]
  · simp [e]
theorem zs_set_in {l : List Nat} (h : 26 ≤ l.length) {i : Nat} (hi : 22 ≤ i ∧ i < 26) (x : Nat) : zs (l.set i x) = zs l := by
  refine List.ext_getElem? fun j => ?_
  rw [zs_at (by simp; omega), List.getElem?_set, zs_at h]
  by_cases e : i = j
  · subst e; simp [hi]
  · simp [e]
theorem zs_getD {l : List Nat} (h : 26 ≤ l.length) {i : Nat} (hi : ¬ (22 ≤ i ∧ i < 26)) : (zs l).getD i 0 = l.getD i 0 := by
  rw [List.getD_eq_getElem?_getD, List.getD_eq_getElem?_getD, zs_at h, if_neg hi]
theorem sg_at {l : List Nat} (i m j : Nat) : (sg l i m)[j]? = if j < m then l[i + j]? else none := by
  unfold sg
  rw [List.getElem?_take]
  split <;> simp
theorem sg_set_out {l : List Nat} {i : Nat} (hi : ¬ (22 ≤ i ∧ i < 26)) (x : Nat) : sg (l.set i x) 22 4 = sg l 22 4 := by
  refine List.ext_getElem? fun j => ?_
  rw [sg_at, sg_at]
  split
  · rw [List.getElem?_set, if_neg (by omega)]
  · rfl
theorem zs_sg {l q : List Nat} (h : 26 ≤ l.length) (hq : 26 ≤ q.length) (h1 : zs q = zs l) (h2 : sg q 22 4 = sg l 22 4) : q = l := by
  refine List.ext_getElem? fun j => ?_
  by_cases e : 22 ≤ j ∧ j < 26
  · have := congrArg (fun x => x[j - 22]?) h2
    simp only [sg_at] at this
    rw [if_pos (by omega), if_pos (by omega), show 22 + (j - 22) = j by omega] at this
    exact this
  · have := congrArg (fun x => x[j]?) h1
    simp only [zs_at h, zs_at hq, if_neg e] at this
    exact this
theorem tuL_out {on : Nat → Bool} {l : List Nat} {at_ : Nat} (h : 26 ≤ l.length) (ho : ∀ k, on k = true → ¬ (22 ≤ (at_ + k) / 8 ∧ (at_ + k) / 8 < 26)) (k : Nat) : zs (tuL on l at_ k) = tuL on (zs l) at_ k ∧ sg (tuL on l at_ k) 22 4 = sg l 22 4 := by
  induction k with
  | zero => exact ⟨rfl, rfl⟩
  | succ k ih =>
    have hl : 26 ≤ (tuL on l at_ k).length := by rw [tuL_len]; exact h
    rw [tuL, tuL]
    split
    · rename_i hk
      rw [zs_set_out hl (ho k hk), sg_set_out (ho k hk), ← ih.1, zs_getD hl (ho k hk)]
      exact ⟨rfl, ih.2⟩
    · exact ih
theorem tuL_in {on : Nat → Bool} {l : List Nat} {at_ : Nat} (h : 26 ≤ l.length) (ho : ∀ k, on k = true → 22 ≤ (at_ + k) / 8 ∧ (at_ + k) / 8 < 26) (k : Nat) : zs (tuL on l at_ k) = zs l := by
  induction k with
  | zero => rfl
  | succ k ih =>
    have hl : 26 ≤ (tuL on l at_ k).length := by rw [tuL_len]; exact h
    rw [tuL]
    split
    · rename_i hk
      rw [zs_set_in hl (ho k hk), ih]
    · exact ih
theorem derr_sum {l : List Nat} (h : derr l = 0) : 26 ≤ l.length ∧ bv (sg l 22 4) = crcM 0 (zs l) := by
  have hlen : ¬ l.length < 26 := fun e => by rw [derr_71 e] at h; cases h
  have hmk : ¬ (l.getD 0 0 ≠ 82 ∨ l.getD 1 0 ≠ 70 ∨ l.getD 3 0 ≠ 1) := fun e => by rw [derr_72 hlen e] at h; cases h
  have hfe : ferr (l.getD 2 0 : Nat) (bv (sg l 20 2)) = 0 := Decidable.byContradiction fun e => by rw [derr_head hlen hmk e] at h; exact e h
  rw [derr_rest hlen hmk hfe] at h
  have h1 : ¬ l.length < 26 + bv (sg l 20 2) := fun e => by rw [if_pos e] at h; cases h
  rw [if_neg h1] at h
  have h2 : ¬ 26 + bv (sg l 20 2) < l.length := fun e => by rw [if_pos e] at h; cases h
  rw [if_neg h2] at h
  have h3 : bv (sg l 22 4) = crcM (crcM (crcM 0 (l.take 22)) [0, 0, 0, 0]) (l.drop 26) := Decidable.byContradiction fun e => by rw [if_pos e] at h; cases h
  refine ⟨by omega, ?_⟩
  rw [h3]
  unfold zs
  rw [crcM_append, crcM_append]
/-- THE USE: a frame of which bits were turned, all ahead of and behind the sum, or all in it, is refused -/
theorem tells {l : List Nat} (hb : ∀ x ∈ l, x < 256) (h : derr l = 0) {on : Nat → Bool} {at_ : Nat} (hon : ∀ k, on k = true → (at_ + k) / 8 < l.length)
    (hs : (∀ k, on k = true → ¬ (22 ≤ (at_ + k) / 8 ∧ (at_ + k) / 8 < 26)) ∨ (∀ k, on k = true → 22 ≤ (at_ + k) / 8 ∧ (at_ + k) / 8 < 26)) (hc : tuC on 32 ≠ 0) : derr (tuL on l at_ 32) ≠ 0 := by
  intro hq
  obtain ⟨hl, hsum⟩ := derr_sum h
  obtain ⟨hl', hsum'⟩ := derr_sum hq
  rcases hs with hs | hs
  · obtain ⟨e1, e2⟩ := tuL_out hl hs 32
    rw [e1, e2, hsum] at hsum'
    exact tuL_crc (l := zs l) (by rw [zs_len hl]; exact hon) hc hsum'
  · have e1 := tuL_in hl hs 32
    rw [e1, ← hsum] at hsum'
    have hbq := tuL_lt hb on at_ 32
    have f1 := be_bv (sg l 22 4) (fun x hx => hb x (sg_mem hx))
    have f2 := be_bv (sg (tuL on l at_ 32) 22 4) (fun x hx => hbq x (sg_mem hx))
    rw [sg_len (by omega)] at f1 f2
    rw [hsum', f1] at f2
    exact tuL_ne hon hc (zs_sg hl hl' e1 f2.symm)
end Go.Proofs.YtacjibfmhhmbcabDoor
namespace Go.Proofs.YtacjibfmhhmbcabDoor
open Go.RowKit
open Num
set_option linter.unusedVariables false
set_option linter.unusedSimpArgs false
set_option maxRecDepth 20000

theorem xor_pow8 {x r : Nat} (hx : x < 256) (hr : r < 8) : bits BinOp.xor IntKind.u8 (x : Int) ((2 : Int) ^ r % 256) = ((x ^^^ 2 ^ r : Nat) : Int) := by
  have hp : (2 : Nat) ^ r < 256 := Nat.pow_lt_pow_right (a := 2) (n := 8) (by omega) hr
  have h2r : (2 : Int) ^ r = ((2 ^ r : Nat) : Int) := by rw [Int.natCast_pow]; rfl
  rw [h2r]
  generalize (2 : Nat) ^ r = P at *
  rw [show ((P : Nat) : Int) % 256 = (P : Int) by omega]
  exact u8_xor_nat x P hx hp
/-- which of the 32 bits are turned -/
def tuO (at_ mask lo hi k : Nat) : Bool := decide (mask / 2 ^ k % 2 = 1) && (decide (at_ + k < 8 * hi) && decide (8 * lo ≤ at_ + k))

set_option maxHeartbeats 1000000 in
theorem turned_any (v : Value) (l : List Nat) (at_ mask lo hi : Nat) (w : World) (h : BSl w v l) (hr : l.length ≤ 140737488355328) (ha : at_ < 9223372036854775808) (hm : mask < 4294967296) (hlo : lo ≤ l.length) (hhi : hi ≤ l.length) (hh0 : 8 ≤ hi) :
    Calls Tryd.prog 21 #[v, .int .i64 (at_ : Int), .int .u32 (mask : Int), .int .i64 (lo : Int), .int .i64 (hi : Int)] w fun e w' => ∃ v', e = .returned (.tuple #[v', .int .i64 (tuC (tuO at_ mask lo hi) 32 : Nat)]) ∧ BSl w' v' (tuL (tuO at_ mask lo hi) l at_ 32) ∧ Below w.heap.size w w' := by
  have HV := hide h
  clear h
  go_enter Tryd.func21, Tryd.ntmps21
  go_wp2_with fail
  refine (copied_any v l w HV.out hr).mono ?_
  rintro e w1 ⟨v1, rfl, ho, hb1⟩
  have hbs := ho.bsl
  obtain ⟨a1, cap1, rfl, hl1, hm1, _, _, _⟩ := hbs
  have HO := hide ho
  have HB1 := hide hb1
  have hsz := hb1.size
  clear ho hb1
  go_wp2_with fail
  go_loopw [13, 14] (fun n j wr => ∃ k : Nat, k ≤ 32 ∧ j = .int .i64 k ∧ n = .int .i64 (tuC (tuO at_ mask lo hi) k : Nat) ∧ Own wr w.heap.size (.slice a1 l.length cap1) (tuL (tuO at_ mask lo hi) l at_ k) ∧ Below w.heap.size w wr) (fun _ j _ => 32 - (intOf j).toNat)
  case atStart => exact ⟨0, Nat.zero_le _, rfl, rfl, HO.out, HB1.out⟩
  case round =>
    obtain ⟨k, hk, rfl, rfl, hown, hbel⟩ := hrel
    by_cases hlt : k < 32
    · have hmd : (mask : Int) / 2 ^ k = ((mask / 2 ^ k : Nat) : Int) := by rw [Int.natCast_ediv]; simp
      have hml : mask / 2 ^ k < 4294967296 := Nat.lt_of_le_of_lt (Nat.div_le_self _ _) hm
      have hand : bits BinOp.and IntKind.u32 ((mask : Int) / 2 ^ k) 1 = ((mask / 2 ^ k % 2 : Nat) : Int) := by
        rw [hmd, show (1 : Int) = ((1 : Nat) : Int) from rfl, u32_and_nat _ _ hml (by omega), Nat.and_one_is_mod]
      have hfc : tuC (tuO at_ mask lo hi) k < 9223372036854775807 := by
        have := tuC_le (tuO at_ mask lo hi) k; omega
      by_cases h1 : mask / 2 ^ k % 2 = 1
      · rw [h1] at hand
        have hand' : bits BinOp.and IntKind.u32 ((mask : Int) / 2 ^ k) 1 = 1 := hand
        by_cases h2 : at_ + k < 8 * hi
        · have hle : (at_ : Int) ≤ 8 * (hi : Int) - 1 - (k : Int) := by omega
          by_cases h3 : 8 * lo ≤ at_ + k
          · have hon : tuO at_ mask lo hi k = true := by simp [tuO, h1, h2, h3]
            have hle3 : 8 * (lo : Int) ≤ (at_ : Int) + (k : Int) := by omega
            obtain ⟨ix, hix⟩ : ∃ ix, (at_ + k) / 8 = ix := ⟨_, rfl⟩
            obtain ⟨r, hrr⟩ : ∃ r, (at_ + k) % 8 = r := ⟨_, rfl⟩
            have hixI : ((at_ : Int) + (k : Int)) / 8 = (ix : Int) := by omega
            have hrI : ((at_ : Int) + (k : Int)) % 8 = (r : Int) := by omega
            have hixl : ix < l.length := by omega
            have hr8 : r < 8 := by omega
            obtain ⟨g, cap', e, hg, _⟩ := hown.shape (by rw [tuL_len]; omega)
            simp only [Value.slice.injEq, true_and] at e
            obtain ⟨rfl, _, rfl⟩ := e
            have hown1 : Own wr w.heap.size (.slice (some ⟨g, 0, none⟩) (tuL (tuO at_ mask lo hi) l at_ k).length cap1) (tuL (tuO at_ mask lo hi) l at_ k) := by rw [tuL_len]; exact hown
            have hck : wr.cell? ⟨g, ix, none⟩ = some (.int .u8 ((tuL (tuO at_ mask lo hi) l at_ k).getD ix 0 : Nat)) := by rw [hown1.1.cellAt ix (by rw [tuL_len]; omega), map_byteV_getD (by rw [tuL_len]; omega)]
            have hfr := hown1.1.frozenAt ix
            have hx : (tuL (tuO at_ mask lo hi) l at_ k).getD ix 0 < 256 := hown1.2 _ (mem_getD (by rw [tuL_len]; omega))
            have hp : (2 : Nat) ^ r < 256 := Nat.pow_lt_pow_right (a := 2) (n := 8) (by omega) hr8
            have HR : Hid (Own (wr.setCell ⟨g, ix, none⟩ (.int .u8 (((tuL (tuO at_ mask lo hi) l at_ k).getD ix 0 ^^^ 2 ^ r : Nat) : Int))) w.heap.size (.slice (some ⟨g, 0, none⟩) l.length cap1) (tuL (tuO at_ mask lo hi) l at_ (k + 1))) := by
              have := hown1.stored ix ((tuL (tuO at_ mask lo hi) l at_ k).getD ix 0 ^^^ 2 ^ r) (Nat.xor_lt_two_pow (n := 8) hx hp)
              rw [tuL_len] at this
              show Own _ _ _ _
              rw [tuL, if_pos hon, hix, hrr]; exact this
            have HC1 : Hid (tuC (tuO at_ mask lo hi) (k + 1) = tuC (tuO at_ mask lo hi) k + 1) := by show _ = _; rw [tuC, if_pos hon]
            have HBL := hide hbel
            generalize (tuL (tuO at_ mask lo hi) l at_ k).getD ix 0 = x at *
            have HVL := hide (xor_pow8 hx hr8)
            generalize tuC (tuO at_ mask lo hi) k = cn at *
            clear hown hown1 hbel hon hix hrr hmd hml hand h1
            go_wp2
            go_roundw
            case rel => exact ⟨k + 1, by omega, by go_num, by rw [HC1.out]; go_num, by rw [HVL.out]; exact HR.out, HBL.out.setCell hg _⟩
            case measure => simp [intOf]; omega
          · have hon : tuO at_ mask lo hi k = false := by simp [tuO, h3]
            have hle3 : (at_ : Int) + (k : Int) < 8 * (lo : Int) := by omega
            have HC1 : Hid (tuC (tuO at_ mask lo hi) (k + 1) = tuC (tuO at_ mask lo hi) k) := by show _ = _; rw [tuC, hon]; rfl
            have HL1 : Hid (tuL (tuO at_ mask lo hi) l at_ (k + 1) = tuL (tuO at_ mask lo hi) l at_ k) := by show _ = _; rw [tuL, hon]; rfl
            have HW := hide hown
            have HBL := hide hbel
            generalize tuC (tuO at_ mask lo hi) k = cn at *
            clear hown hbel hon hmd hml hand h1
            go_wp2
            go_roundw
            case rel => exact ⟨k + 1, by omega, by go_num, by rw [HC1.out], by rw [HL1.out]; exact HW.out, HBL.out⟩
            case measure => simp [intOf]; omega
        · have hon : tuO at_ mask lo hi k = false := by simp [tuO, h2]
          have hle : 8 * (hi : Int) - 1 - (k : Int) < (at_ : Int) := by omega
          have HC1 : Hid (tuC (tuO at_ mask lo hi) (k + 1) = tuC (tuO at_ mask lo hi) k) := by show _ = _; rw [tuC, hon]; rfl
          have HL1 : Hid (tuL (tuO at_ mask lo hi) l at_ (k + 1) = tuL (tuO at_ mask lo hi) l at_ k) := by show _ = _; rw [tuL, hon]; rfl
          have HW := hide hown
          have HBL := hide hbel
          generalize tuC (tuO at_ mask lo hi) k = cn at *
          clear hown hbel hon hmd hml hand h1
          go_wp2
          go_roundw
          case rel => exact ⟨k + 1, by omega, by go_num, by rw [HC1.out], by rw [HL1.out]; exact HW.out, HBL.out⟩
          case measure => simp [intOf]; omega
      · have hand' : bits BinOp.and IntKind.u32 ((mask : Int) / 2 ^ k) 1 = 0 := by rw [hand, show mask / 2 ^ k % 2 = 0 by omega]; rfl
        have hon : tuO at_ mask lo hi k = false := by simp [tuO, h1]
        have HC1 : Hid (tuC (tuO at_ mask lo hi) (k + 1) = tuC (tuO at_ mask lo hi) k) := by show _ = _; rw [tuC, hon]; rfl
        have HL1 : Hid (tuL (tuO at_ mask lo hi) l at_ (k + 1) = tuL (tuO at_ mask lo hi) l at_ k) := by show _ = _; rw [tuL, hon]; rfl
        have HW := hide hown
        have HBL := hide hbel
        generalize tuC (tuO at_ mask lo hi) k = cn at *
        clear hown hbel hon hmd hml hand h1
        go_wp2
        go_roundw
        case rel => exact ⟨k + 1, by omega, by go_num, by rw [HC1.out], by rw [HL1.out]; exact HW.out, HBL.out⟩
        case measure => simp [intOf]; omega
    · have hk32 : k = 32 := by omega
      subst hk32
      have HW := hide hown.bsl
      have HBL := hide hbel
      clear hown hbel
      go_wp2
      go_ret2
      exact ⟨_, rfl, HW.out, HBL.out⟩
end Go.Proofs.YtacjibfmhhmbcabDoor
namespace Go.Proofs.YtacjibfmhhmbcabDoor
open Go.RowKit
set_option linter.unusedVariables false
set_option linter.unusedSimpArgs false
set_option maxRecDepth 20000

def exCS : Array Value := (.int .i64 10 :: exP.row (.slice none 0 0)).toArray
theorem exCS_built : Tryd.prog.built 30 [(0, .int .i64 10), (1, .int .u32 7), (2, .int .u32 300)] = some exCS := by kernel_rfl
theorem exCS_size : (Tryd.prog.info? 30).map (·.size) = some exCS.size := by kernel_rfl
theorem exCS_size2 : zPk.size = exCS.size := by kernel_rfl
theorem exCS_one : exCS.all (·.oneCell') = true := by kernel_rfl
theorem exCS_pk : pkV 10 exP (.slice none 0 0) = .agg exCS := rfl
theorem bsl_lit {w : World} (L : List Nat) (hL : ∀ x ∈ L, x < 256) (hn : L.length ≤ maxLen) (t : TypeId) (fz : Nat × Nat) : BSl (w.alloc (.cells (u8L L).toArray t fz)) (.slice (some ⟨w.heap.size, 0, none⟩) L.length L.length) L := by
  refine ⟨_, L.length, rfl, Nat.le_refl _, hn, (fun e => by cases e), hL, fun _ => ⟨_, 0, rfl, fun i hi => ?_⟩⟩
  rw [cell_of_row _ _ _ _ _ _ (Go.heap_alloc_new w _), List.getElem?_toArray, Nat.zero_add]
  exact u8L_get hi
def ex9 : Array Value := #[.int .u8 10, .int .u8 0, .int .u8 0, .int .u8 0, .int .u8 7, .int .u8 0, .int .u8 0, .int .u8 1, .int .u8 44]
theorem ex9_eq : ex9 = (u8L exL).toArray := rfl
def ex3 : Array Value := #[.int .u8 97, .int .u8 98, .int .u8 99]
theorem ex3_eq : ex3 = (u8L [97, 98, 99]).toArray := rfl
theorem row_all' (c : Int) (p : PV) (v : Value) (hv : v.oneCell' = true) : (.int .i64 c :: p.row v).toArray.all (·.oneCell') = true := by
  have := row_all p v hv
  rw [Array.all_eq_true_iff_forall_mem] at this ⊢
  intro x hx
  rw [List.mem_toArray, List.mem_cons] at hx
  rcases hx with rfl | hx
  · rfl
  · exact this x (by rw [List.mem_toArray]; exact hx)

/-- a whole row loaded under a guard that holds -/
theorem wpList_load_rowW {P : Program} {ops : Array Oper} {rest : List Oper} {o : Oper} {a : Act} {w : World} {Q : Exit → Act → World → Prop} (hw : Region.wanted o (yielded ops a.tmps) = true) (ty : TypeId) (x : Operand) (ho : o.op = .load ty x)
    (g : Nat) (hx : a.eval x = .pointer (some ⟨g, 0, none⟩)) (t : TypeId) (cs : Array Value) (fr : Nat × Nat) (d : TypeDesc) (hg : w.heap[g]? = some (.cells cs t fr))
    (hu : P.underlying ty = some d) (hd : (match d with | .struct _ | .array _ _ => true | _ => false) = true) (hi : (P.info? ty).map (·.size) = some cs.size)
    (h : wpList P ops Q rest (a.put o.dst (.agg cs)) w) : wpList P ops Q (o :: rest) a w :=
  wpList_step fun K hK => by rw [if_pos hw]; exact wp_load_row ty x ho g hx t cs fr d hg hu hd hi (hK _ _ h)
theorem decP_bsl (w : World) (v : Value) (l : List Nat) (h : BSl w v l) (hl : 0 < l.length) (hT : BTab w) : Calls Tryd.prog 10 #[v] w fun e' w' => DecP w l e' w' := by
  obtain ⟨a, cap, rfl, h1, h2, h3, h4, h5⟩ := h
  obtain ⟨b, off, rfl, hc⟩ := h5 hl
  exact decP_some w b off cap l hl h1 h2 h4 hc hT
set_option maxHeartbeats 4000000 in
theorem example_any (w : World) (hT : BTab w) : Calls Tryd.prog 9 #[] w fun e' w' => e' = .returned (.bool true) ∧ Below w.heap.size w w' := by
  have b0 := (Below.refl w.heap.size w).alloc (Nat.le_refl _) (.cells exCS 30)
  have b1 := (Below.refl (w.alloc (.cells exCS 30)).heap.size (w.alloc (.cells exCS 30))).alloc (Nat.le_refl _) (.cells ex9 5)
  have B1 := hide (b0.trans (b1.mono b0.size))
  have s0 : (w.alloc (.cells exCS 30)).heap.size = w.heap.size + 1 := by simp
  have s1 : ((w.alloc (.cells exCS 30)).alloc (.cells ex9 5)).heap.size = w.heap.size + 1 + 1 := by simp
  have R1 : Hid (((w.alloc (.cells exCS 30)).alloc (.cells ex9 5)).heap[w.heap.size]? = some (.cells exCS 30 (0, 0))) := hide ((b1.block _ (by omega)).trans (Go.heap_alloc_new w _))
  have W1 : Hid (BSl ((w.alloc (.cells exCS 30)).alloc (.cells ex9 5)) (.slice (some ⟨w.heap.size + 1, 0, none⟩) 9 9) exL) := hide (by have := bsl_lit (w := w.alloc (.cells exCS 30)) exL (by decide) (by decide) 5 (0, 0); rw [s0] at this; exact this)
  have HE := hide (encodePacket_any ((w.alloc (.cells exCS 30)).alloc (.cells ex9 5)) 10 exP (.slice none 0 0) exP_ok (bsl_nil _) (by simp [Value.ownBlock]) (hT.below B1.out))
  rw [exCS_pk] at HE
  unfold EncPost at HE
  rw [ex_perr, ex_pbytes] at HE
  generalize hy1 : (w.alloc (.cells exCS 30)).alloc (.cells ex9 5) = y1 at *
  have HT1 := hide (hT.below B1.out)
  have HY := hide hy1
  have S1 := hide s1
  clear b0 b1 s0 s1 hT hy1
  go_enter Tryd.func9, Tryd.ntmps9
  go_wp2_with (first
    | (refine wpList_bd rfl 30 _ rfl exCS (by kernel_rfl) ?_)
    | (refine wpList_store_row rfl 30 (.tmp 1) (.tmp 13) rfl w.heap.size exCS (by first | rfl | simp [Act.eval, Act.put]) (by first | rfl | simp [Act.eval, Act.put]) 30 zPk (Go.heap_alloc_new w _) exCS_size exCS_size2 exCS_one ?_; rw [World.setRow_alloc_new])
    | (refine wpList_load_row rfl 30 (.tmp 1) rfl w.heap.size (by first | rfl | simp [Act.eval, Act.put]) 30 exCS (0, 0) _ (by first | exact R1.out | (have := R1.out; rw [← HY.out] at this; exact this)) Tryd.underlying30 rfl exCS_size ?_))
  have HE3 : Hid (∀ y, y = y1 → Calls Tryd.prog 17 #[.agg exCS] y fun e' w' => ∃ v', e' = .returned (.tuple #[v', .int .i64 0]) ∧ Own w' y1.heap.size v' exL ∧ Below y1.heap.size y1 w') := hide fun y hy => by rw [hy]; exact HE.out
  refine (HE3.out _ HY.out).mono ?_
  rintro e' y2 ⟨vb, rfl, hob, hb2⟩
  have OB := hide hob
  have B2 := hide (B1.out.trans (hb2.mono B1.out.size))
  have R2 : Hid (y2.heap[w.heap.size]? = some (.cells exCS 30 (0, 0))) := hide ((hb2.block _ (Array.getElem?_eq_some_iff.1 R1.out).1).trans R1.out)
  have W2 := hide (W1.out.below hb2)
  have T2 := hide (HT1.out.below hb2)
  clear HE HE3 hob hb2 R1 W1 B1 HT1 HY
  have b3 := (Below.refl y2.heap.size y2).alloc (Nat.le_refl _) (.cells ex9 5)
  have B3 := hide (B2.out.trans (b3.mono B2.out.size))
  have HD9 := hide (decP_bsl (y2.alloc (.cells ex9 5)) (.slice (some ⟨y2.heap.size, 0, none⟩) 9 9) exL (bsl_lit (w := y2) exL (by decide) (by decide) 5 (0, 0)) (by decide) (T2.out.below b3))
  unfold DecP at HD9
  rw [ex_derr, ex_dAt, ex_dC, ex_dPv] at HD9
  have R3 : Hid ((y2.alloc (.cells ex9 5)).heap[w.heap.size]? = some (.cells exCS 30 (0, 0))) := hide ((b3.block _ (Array.getElem?_eq_some_iff.1 R2.out).1).trans R2.out)
  have W3 := hide (W2.out.below b3)
  have O3 := hide (OB.out.bsl.below b3)
  clear b3 OB W2 R2 T2 B2
  go_wp2_with fail
  refine HD9.out.mono ?_
  rintro e' y4 ⟨v', rfl, hv4, hb4⟩
  have B4 := hide (B3.out.trans (hb4.mono B3.out.size))
  have R4 : Hid (y4.heap[w.heap.size]? = some (.cells exCS 30 (0, 0))) := hide ((hb4.block _ (Array.getElem?_eq_some_iff.1 R3.out).1).trans R3.out)
  have W4 := hide (W3.out.below hb4)
  have O4 := hide (O3.out.below hb4)
  have V4 := hide hv4
  clear HD9 hv4 hb4 B3 R3 W3 O3
  obtain ⟨a4, c4, hv', _⟩ := id V4.out
  subst hv'
  generalize hn4 : exP.dl.length = n4 at *
  unfold pkV
  have HQ1 : Hid ((Tryd.prog.info? 30).map (·.size) = some (.int .i64 10 :: exP.row (.slice a4 n4 c4)).toArray.size) := hide (by rw [List.size_toArray, List.length_cons, row_len exP_ok.n]; exact infoK)
  have HQ2 : Hid (zPk.size = (.int .i64 10 :: exP.row (.slice a4 n4 c4)).toArray.size) := hide (by show 43 = _; rw [List.size_toArray, List.length_cons, row_len exP_ok.n])
  have HQ3 := hide (row_all' 10 exP (.slice a4 n4 c4) rfl)
  have HSP : Hid (∀ y, Below y4.heap.size y4 y → Calls Tryd.prog 19 #[.agg exCS, .agg (.int .i64 10 :: exP.row (.slice a4 n4 c4)).toArray] y fun e' w' => e' = .returned (.bool true) ∧ Below y.heap.size y w') := hide fun y hy => by
    have h1 : BSl y (.slice a4 n4 c4) exP.dl := V4.out.below hy
    exact samePacket_eq y 10 exP exP (.slice none 0 0) (.slice a4 n4 c4) exP_ok (bsl_nil _) h1 rfl rfl
  have c10 : (.int .i64 ((10 : Nat) : Int) :: exP.row (.slice a4 n4 c4)).toArray = (.int .i64 10 :: exP.row (.slice a4 n4 c4)).toArray := rfl
  rw [c10]
  generalize hcq : (.int .i64 10 :: exP.row (.slice a4 n4 c4)).toArray = CQ at *
  have b5 := (Below.refl y4.heap.size y4).alloc (Nat.le_refl _) (.cells CQ 30)
  have B5 := hide (B4.out.trans (b5.mono B4.out.size))
  have R5 : Hid ((y4.alloc (.cells CQ 30)).heap[w.heap.size]? = some (.cells exCS 30 (0, 0))) := hide ((b5.block _ (Array.getElem?_eq_some_iff.1 R4.out).1).trans R4.out)
  have Q5 : Hid ((y4.alloc (.cells CQ 30)).heap[y4.heap.size]? = some (.cells CQ 30 (0, 0))) := hide (Go.heap_alloc_new y4 _)
  have HSM := hide (same_eq vb (.slice (some ⟨w.heap.size + 1, 0, none⟩) 9 9) exL (y4.alloc (.cells CQ 30)) (O4.out.below b5) (W4.out.below b5))
  have B45 := hide b5
  clear c10 hcq b5 R4 W4 O4
  generalize hy5 : y4.alloc (.cells CQ 30) = y5 at *
  have HY5 := hide hy5
  go_wp2_with (first
    | (refine wpList_store_row rfl 30 (.tmp 5) (.tmp 23) rfl y4.heap.size CQ (by first | rfl | simp [Act.eval, Act.put]) (by first | rfl | simp [Act.eval, Act.put]) 30 zPk (Go.heap_alloc_new y4 _) HQ1.out HQ2.out HQ3.out ?_; rw [World.setRow_alloc_new, HY5.out])
    | (go_at_call 12; refine (num_any _ _).mono ?_; rintro e' z ⟨rfl, hz⟩; subst hz)
    | (go_at_call 16; refine HSM.out.mono ?_; rintro e' z ⟨rfl, nn, hz⟩; subst hz; clear HSM)
    | (refine wpList_load_rowW (by kernel_rfl) 30 (.tmp 1) rfl w.heap.size (by first | rfl | simp [Act.eval, Act.put]) 30 exCS (0, 0) _ R5.out Tryd.underlying30 rfl exCS_size ?_)
    | (refine wpList_load_rowW (by kernel_rfl) 30 (.tmp 5) rfl y4.heap.size (by first | rfl | simp [Act.eval, Act.put]) 30 CQ (0, 0) _ Q5.out Tryd.underlying30 rfl HQ1.out ?_)
    | (go_at_call 19; refine (HSP.out _ (bel_drewN B45.out _)).mono ?_; rintro e' y6 ⟨rfl, hb6⟩; have B6 := hide ((bel_drewN B5.out _).trans (hb6.mono B5.out.size)); have hcv := conv_const y6 #[.int .u8 97, .int .u8 98, .int .u8 99] 3 3 y6.heap.size rfl; clear hb6 HSP))
  have b7 := (Below.refl y6.heap.size y6).alloc (Nat.le_refl _) (.cells #[.int .u8 97, .int .u8 98, .int .u8 99] 5 (3, 4))
  have s7 : (y6.alloc (.cells #[.int .u8 97, .int .u8 98, .int .u8 99] 5 (3, 4))).heap.size = y6.heap.size + 1 := by simp
  have b8 := (Below.refl _ (y6.alloc (.cells #[.int .u8 97, .int .u8 98, .int .u8 99] 5 (3, 4)))).alloc (Nat.le_refl _) (.cells #[.int .i64 2, .int .u32 5, .int .u32 6, .int .u32 7, .int .u32 8, .slice (some ⟨y6.heap.size, 0, none⟩) 3 3] 38)
  have P8 := hide ((bsl_lit (w := y6) [97, 98, 99] (by decide) (by decide) 5 (3, 4)).below b8)
  have B8 := hide (B6.out.trans ((b7.trans (b8.mono b7.size)).mono B6.out.size))
  have X8 : Hid (((y6.alloc (.cells #[.int .u8 97, .int .u8 98, .int .u8 99] 5 (3, 4))).alloc (.cells #[.int .i64 2, .int .u32 5, .int .u32 6, .int .u32 7, .int .u32 8, .slice (some ⟨y6.heap.size, 0, none⟩) 3 3] 38)).heap[y6.heap.size + 1]? = some (.cells #[.int .i64 2, .int .u32 5, .int .u32 6, .int .u32 7, .int .u32 8, .slice (some ⟨y6.heap.size, 0, none⟩) 3 3] 38 (0, 0))) := hide (by rw [← s7]; exact Go.heap_alloc_new _ _)
  have HEF := hide (encodeFrame_any ((y6.alloc (.cells #[.int .u8 97, .int .u8 98, .int .u8 99] 5 (3, 4))).alloc (.cells #[.int .i64 2, .int .u32 5, .int .u32 6, .int .u32 7, .int .u32 8, .slice (some ⟨y6.heap.size, 0, none⟩) 3 3] 38)) 2 5 6 7 8 (.slice (some ⟨y6.heap.size, 0, none⟩) 3 3) [97, 98, 99] P8.out (by decide) (by decide) (by decide) (by decide) (by decide) (by decide))
  have hfe : ferr 2 [97, 98, 99].length = 0 := by decide
  have hfb : fbytes 2 5 6 7 8 [97, 98, 99] = frm 2 5 6 7 8 (fsum 2 5 6 7 8 [97, 98, 99]) [97, 98, 99] := by unfold fbytes; rw [if_pos hfe]; rfl
  rw [hfe, hfb] at HEF
  have hfl : (frm 2 5 6 7 8 (fsum 2 5 6 7 8 [97, 98, 99]) [97, 98, 99]).length = 29 := by rw [frm_len]; rfl
  have hfr := derr_frm (k := 2) (a := 5) (b := 6) (c := 7) (d := 8) (p := [97, 98, 99]) hfe (by decide) (by decide) (by decide) (by decide) (by decide)
  have HDF := hide fun y v (h : BSl y v (frm 2 5 6 7 8 (fsum 2 5 6 7 8 [97, 98, 99]) [97, 98, 99])) => decodeFrame_any y v _ h
  unfold decPost frV at HDF
  rw [hfr.1, hfr.2.1, hfr.2.2.1, hfr.2.2.2.1, hfr.2.2.2.2.1, hfr.2.2.2.2.2.1, hfr.2.2.2.2.2.2] at HDF
  generalize frm 2 5 6 7 8 (fsum 2 5 6 7 8 [97, 98, 99]) [97, 98, 99] = FB at *
  generalize hy8 : (y6.alloc (.cells #[.int .u8 97, .int .u8 98, .int .u8 99] 5 (3, 4))).alloc (.cells #[.int .i64 2, .int .u32 5, .int .u32 6, .int .u32 7, .int .u32 8, .slice (some ⟨y6.heap.size, 0, none⟩) 3 3] 38) = y8 at *
  clear b7 b8 s7 hfr hfb hfe hcv
  refine HEF.out.mono ?_
  rintro e' y9 ⟨vc, rfl, hoc, hb9⟩
  obtain ⟨gc, cc, hvc, _, _, hcc1, hcc2⟩ := hoc.shape (by rw [hfl]; decide)
  rw [hfl] at hvc hcc1
  subst hvc
  have OC := hide hoc
  have B9 := hide (B8.out.trans (hb9.mono B8.out.size))
  have X9 : Hid (y9.heap[y6.heap.size + 1]? = some (.cells #[.int .i64 2, .int .u32 5, .int .u32 6, .int .u32 7, .int .u32 8, .slice (some ⟨y6.heap.size, 0, none⟩) 3 3] 38 (0, 0))) := hide ((hb9.block _ (Array.getElem?_eq_some_iff.1 X8.out).1).trans X8.out)
  have P9 := hide (P8.out.below hb9)
  have HCP := hide (copied_any _ _ y9 hoc.bsl (by rw [hfl]; decide))
  clear hoc hb9 HEF X8 P8 B8 hy8
  go_wp2_with (first
    | (go_at_call 11; refine HCP.out.mono ?_; rintro e' y10 ⟨v10, rfl, ho10, hb10⟩; have O10 := hide ho10; have B10 := hide (B9.out.trans (hb10.mono B9.out.size)); have X10 := hide ((hb10.block _ (Array.getElem?_eq_some_iff.1 X9.out).1).trans X9.out); have P10 := hide (P9.out.below hb10); clear ho10 hb10 HCP X9 P9)
    | (go_at_call 13; refine (HDF.out _ _ O10.out.bsl).mono ?_; rintro e' y11 ⟨v11, rfl, ho11, hb11⟩; have O11 := hide ho11; have B11 := hide (B10.out.trans (hb11.mono B10.out.size)); have X11 := hide ((hb11.block _ (Array.getElem?_eq_some_iff.1 X10.out).1).trans X10.out); have P11 := hide (P10.out.below hb11); obtain ⟨g11, c11, hv11, _, _, _, _⟩ := ho11.shape (by decide); subst hv11; clear ho11 hb11 HDF X10 P10)
    | (go_at_call 12; refine (num_any _ _).mono ?_; rintro e' z ⟨rfl, hz⟩; subst hz)
    | (refine wpList_load_rowW (by kernel_rfl) 38 (.tmp 8) rfl (y6.heap.size + 1) (by first | rfl | simp [Act.eval, Act.put]) 38 #[.int .i64 2, .int .u32 5, .int .u32 6, .int .u32 7, .int .u32 8, .slice (some ⟨y6.heap.size, 0, none⟩) 3 3] (0, 0) _ ((RowKit.Below.heap_alloc _ _ _ (Array.getElem?_eq_some_iff.1 X11.out).1).trans X11.out) Tryd.underlying38 rfl (by kernel_rfl) ?_)
    | (refine wpList_load_rowW (by kernel_rfl) 38 (.tmp 11) rfl y11.heap.size (by first | rfl | simp [Act.eval, Act.put]) 38 _ (0, 0) _ (Go.heap_alloc_new y11 _) Tryd.underlying38 rfl (by kernel_rfl) ?_))
  have b12 := (Below.refl y11.heap.size y11).alloc (Nat.le_refl _) (.cells #[.int .i64 2, .int .u32 5, .int .u32 6, .int .u32 7, .int .u32 8, .slice (some ⟨g11, 0, none⟩) 3 c11] 38)
  have HSF := hide (sameFrame_eq _ 2 5 6 7 8 (.slice (some ⟨y6.heap.size, 0, none⟩) 3 3) (.slice (some ⟨g11, 0, none⟩) 3 c11) [97, 98, 99] (P11.out.below b12) (O11.out.bsl.below b12))
  unfold frV at HSF
  refine HSF.out.mono ?_
  rintro e' y13 ⟨rfl, hb13⟩
  have B13 := hide ((B11.out.trans (b12.mono B11.out.size)).trans (hb13.mono (Nat.le_trans B11.out.size b12.size)))
  clear hb13 b12 HSF
  go_wp2_with fail
  go_ret
  exact ⟨rfl, B13.out⟩
end Go.Proofs.YtacjibfmhhmbcabDoor
namespace Go.Proofs.YtacjibfmhhmbcabDoor
open Go.RowKit
set_option linter.unusedVariables false
set_option linter.unusedSimpArgs false
set_option maxRecDepth 20000

theorem box6r {w x : World} {v0 v1 v2 v3 v4 v5 : Value} {t : TypeId} (h : Below (w.heap.size + 1) (w.alloc (.cells #[v0, v1, v2, v3, v4, v5] t)) x) : x.heap[w.heap.size]? = some (.cells #[v0, v1, v2, v3, v4, v5] t (0, 0)) := by rw [h.block _ (by omega)]; exact Go.heap_alloc_new w _
set_option maxHeartbeats 1000000 in
/-- a frame with a payload of its own -/
theorem ownFrame_any (w : World) (k : Int) (a b c d : Nat) (v : Value) (l : List Nat) (h : BSl w v l) (hl : l.length ≤ 140737488351232) :
    Calls Tryd.prog 20 #[frV k a b c d v] w fun e w' => ∃ v', e = .returned (frV k a b c d v') ∧ BSl w' v' l ∧ Below w.heap.size w w' := by
  obtain ⟨pa, cap, rfl, h1, h2, h3, h4, h5⟩ := id h
  unfold frV
  have b0 := (Below.refl w.heap.size w).alloc (Nat.le_refl _) (.cells #[.int .i64 k, .int .u32 (a : Int), .int .u32 (b : Int), .int .u32 (c : Int), .int .u32 (d : Int), .slice pa l.length cap] 38)
  have b1 := (Below.refl _ (w.alloc (.cells #[.int .i64 k, .int .u32 (a : Int), .int .u32 (b : Int), .int .u32 (c : Int), .int .u32 (d : Int), .slice pa l.length cap] 38))).alloc (Nat.le_refl _) (.cells #[.int .i64 0, .int .u32 0, .int .u32 0, .int .u32 0, .int .u32 0, .slice none 0 0] 38)
  have s0 : (w.alloc (.cells #[.int .i64 k, .int .u32 (a : Int), .int .u32 (b : Int), .int .u32 (c : Int), .int .u32 (d : Int), .slice pa l.length cap] 38)).heap.size = w.heap.size + 1 := by simp
  have B1 := hide (b0.trans (b1.mono b0.size))
  have HB := hide (h.below B1.out)
  have N1 : Hid (((w.alloc (.cells #[.int .i64 k, .int .u32 (a : Int), .int .u32 (b : Int), .int .u32 (c : Int), .int .u32 (d : Int), .slice pa l.length cap] 38)).alloc (.cells #[.int .i64 0, .int .u32 0, .int .u32 0, .int .u32 0, .int .u32 0, .slice none 0 0] 38)).heap[w.heap.size + 1]? = some (.cells #[.int .i64 0, .int .u32 0, .int .u32 0, .int .u32 0, .int .u32 0, .slice none 0 0] 38 (0, 0))) := hide (by rw [← s0]; exact Go.heap_alloc_new _ _)
  have N0 : Hid (((w.alloc (.cells #[.int .i64 k, .int .u32 (a : Int), .int .u32 (b : Int), .int .u32 (c : Int), .int .u32 (d : Int), .slice pa l.length cap] 38)).alloc (.cells #[.int .i64 0, .int .u32 0, .int .u32 0, .int .u32 0, .int .u32 0, .slice none 0 0] 38)).heap[w.heap.size]? = some (.cells #[.int .i64 k, .int .u32 (a : Int), .int .u32 (b : Int), .int .u32 (c : Int), .int .u32 (d : Int), .slice pa l.length cap] 38 (0, 0))) := hide ((b1.block _ (by omega)).trans (Go.heap_alloc_new w _))
  have HCP := hide (copied_any _ _ _ HB.out (by omega))
  cases pa with
  | none =>
    obtain rfl := h3 rfl
    obtain rfl : l = [] := by cases l with | nil => rfl | cons => simp at h1
    clear h h1 h2 h3 h4 h5 b0 b1 s0 HCP
    go_enter Tryd.func20, Tryd.ntmps20
    go_wp2_with fail
    refine bodyPost_ret (results_row (p := 2) rfl _ _ (w.heap.size + 1) 38 #[.int .i64 k, .int .u32 (a : Int), .int .u32 (b : Int), .int .u32 (c : Int), .int .u32 (d : Int), .slice none 0 0] (0, 0) _ (by kernel_rfl) ?hr Tryd.underlying38 rfl (by kernel_rfl)) rfl ⟨_, rfl, bsl_nil _, ?hb⟩
    case hr =>
      have s0 : (w.alloc (.cells #[.int .i64 k, .int .u32 (a : Int), .int .u32 (b : Int), .int .u32 (c : Int), .int .u32 (d : Int), .slice none 0 0] 38)).heap.size = w.heap.size + 1 := by simp
      rw [← s0]; exact Go.heap_alloc_new _ _
    case hb => exact ((Below.refl w.heap.size w).alloc (Nat.le_refl _) _).alloc (by simp) _
  | some ad =>
    clear h h1 h2 h3 h4 h5 b0 b1 s0
    generalize hy : (w.alloc (.cells #[.int .i64 k, .int .u32 (a : Int), .int .u32 (b : Int), .int .u32 (c : Int), .int .u32 (d : Int), .slice (some ad) l.length cap] 38)).alloc (.cells #[.int .i64 0, .int .u32 0, .int .u32 0, .int .u32 0, .int .u32 0, .slice none 0 0] 38) = y at *
    obtain ⟨c0, c1, c2, c3, c4, c5, _⟩ := row6f N0.out
    go_enter Tryd.func20, Tryd.ntmps20
    go_wp2_with (first
      | (go_at_call 11; refine HCP.out.mono ?_; rintro e' z ⟨v', rfl, ho, hb⟩; have HZ := hide (B1.out.trans (hb.mono B1.out.size)); have HO := hide ho; have M0 := hide ((hb.block _ (Array.getElem?_eq_some_iff.1 N0.out).1).trans N0.out); have M1 := hide ((hb.block _ (Array.getElem?_eq_some_iff.1 N1.out).1).trans N1.out); obtain ⟨d0, d1, d2, d3, d4, d5, e0, e1, e2, e3, e4, e5⟩ := row6f M0.out; obtain ⟨va, vc, hv, _⟩ := id ho.bsl; subst hv; obtain ⟨m0, m1, m2, m3, m4, m5, n0, n1, n2, n3, n4, n5⟩ := row6f M1.out; clear ho hb HCP))
    have K0 : (z.setCell ⟨w.heap.size, 5, none⟩ (.slice va l.length vc)).heap[w.heap.size]? = some (.cells #[.int .i64 k, .int .u32 (a : Int), .int .u32 (b : Int), .int .u32 (c : Int), .int .u32 (d : Int), .slice va l.length vc] 38 (0, 0)) := Go.heap_setCell_same z w.heap.size 5 _ 38 _ M0.out
    have K1 : (z.setCell ⟨w.heap.size, 5, none⟩ (.slice va l.length vc)).heap[w.heap.size + 1]? = some (.cells #[.int .i64 0, .int .u32 0, .int .u32 0, .int .u32 0, .int .u32 0, .slice none 0 0] 38 (0, 0)) := (Go.heap_setCell_other _ _ _ _ (by show w.heap.size + 1 ≠ w.heap.size; omega)).trans M1.out
    have K2 : Below w.heap.size w (z.setCell ⟨w.heap.size, 5, none⟩ (.slice va l.length vc)) := HZ.out.setCell (p := ⟨w.heap.size, 5, none⟩) (Nat.le_refl _) _
    have K3 : BSl (z.setCell ⟨w.heap.size, 5, none⟩ (.slice va l.length vc)) (.slice va l.length vc) l := HO.out.bsl.stay fun g hg => Go.heap_setCell_other _ _ _ _ (by
      have h1 := (HO.out.block hg).1
      have h2 := (Array.getElem?_eq_some_iff.1 N0.out).1
      show g ≠ w.heap.size
      omega)
    have hne : (Value.slice va l.length vc).ownBlock ≠ some (w.heap.size + 1) := fun e => by
      have h1 := (HO.out.block e).1
      have h2 := (Array.getElem?_eq_some_iff.1 N1.out).1
      omega
    have K4 := set6 K1 (.int .i64 k) (.int .u32 (a : Int)) (.int .u32 (b : Int)) (.int .u32 (c : Int)) (.int .u32 (d : Int)) (.slice va l.length vc)
    have K5 := bel_set6 K2 (show w.heap.size ≤ w.heap.size + 1 by omega) (.int .i64 k) (.int .u32 (a : Int)) (.int .u32 (b : Int)) (.int .u32 (c : Int)) (.int .u32 (d : Int)) (.slice va l.length vc)
    refine bodyPost_ret (results_row (p := 2) rfl _ _ (w.heap.size + 1) 38 #[.int .i64 k, .int .u32 (a : Int), .int .u32 (b : Int), .int .u32 (c : Int), .int .u32 (d : Int), .slice va l.length vc] (0, 0) _ (by kernel_rfl) K4 Tryd.underlying38 rfl (by kernel_rfl)) rfl ⟨_, rfl, ?_, K5⟩
    refine K3.stay fun g hg => ?_
    have hg1 : g ≠ w.heap.size + 1 := by intro e; exact hne (by rw [hg, e])
    rw [Go.heap_setCell_other _ _ _ _ (by exact hg1), Go.heap_setCell_other _ _ _ _ (by exact hg1), Go.heap_setCell_other _ _ _ _ (by exact hg1), Go.heap_setCell_other _ _ _ _ (by exact hg1), Go.heap_setCell_other _ _ _ _ (by exact hg1), Go.heap_setCell_other _ _ _ _ (by exact hg1)]
end Go.Proofs.YtacjibfmhhmbcabDoor
namespace Go.Proofs.YtacjibfmhhmbcabDoor
open Go.RowKit
set_option linter.unusedVariables false
set_option linter.unusedSimpArgs false
set_option maxRecDepth 20000

set_option maxHeartbeats 2000000 in
theorem frameBack_law (w : World) (k : Int) (a b c d : Nat) (v : Value) (l : List Nat) (hT : BTab w) (h : BSl w v l) (hl : l.length ≤ 140737488351232) (hk : -9223372036854775808 ≤ k ∧ k ≤ 9223372036854775807) (ha : a < 4294967296) (hb : b < 4294967296) (hc : c < 4294967296) (hd' : d < 4294967296) :
    Calls Tryd.prog 7 #[frV k a b c d v] w fun e w' => e = .returned (.bool true) ∧ Below w.heap.size w w' := by
  obtain ⟨pa, cap, rfl, hl1, hl2, _, hby, _⟩ := id h
  unfold maxLen at hl2
  have b0 := (Below.refl w.heap.size w).alloc (Nat.le_refl _) (.cells #[.int .i64 k, .int .u32 (a : Int), .int .u32 (b : Int), .int .u32 (c : Int), .int .u32 (d : Int), .slice pa l.length cap] 38)
  have B0 := hide b0
  have X0 : Hid ((w.alloc (.cells #[.int .i64 k, .int .u32 (a : Int), .int .u32 (b : Int), .int .u32 (c : Int), .int .u32 (d : Int), .slice pa l.length cap] 38)).heap[w.heap.size]? = some (.cells #[.int .i64 k, .int .u32 (a : Int), .int .u32 (b : Int), .int .u32 (c : Int), .int .u32 (d : Int), .slice pa l.length cap] 38 (0, 0))) := hide (Go.heap_alloc_new w _)
  have P0 := hide (h.below b0)
  have T0 := hide (hT.below b0)
  have HOF := hide (ownFrame_any (w.alloc (.cells #[.int .i64 k, .int .u32 (a : Int), .int .u32 (b : Int), .int .u32 (c : Int), .int .u32 (d : Int), .slice pa l.length cap] 38)) k a b c d (.slice pa l.length cap) l P0.out hl)
  have HEF := hide fun y v1 (hv : BSl y v1 l) => encodeFrame_any y k a b c d v1 l hv hk hl ha hb hc hd'
  have HEX := hide fun y (hy : BTab y) => example_any y hy
  unfold frV at *
  clear h hT b0
  by_cases hE : ferr k l.length = 0
  · obtain ⟨hk1, hk2, hpl⟩ := ferr_zero hE
    obtain ⟨kk, rfl⟩ : ∃ kk : Nat, k = (kk : Int) := ⟨k.toNat, by omega⟩
    have hfb : fbytes kk a b c d l = frm kk a b c d (fsum kk a b c d l) l := by unfold fbytes; rw [if_pos hE, Int.toNat_natCast]
    have hfl : (frm kk a b c d (fsum kk a b c d l) l).length = 26 + l.length := frm_len _ _ _ _ _ _ _
    have hfr := derr_frm (p := l) hE ha hb hc hd' hby
    have HDF := hide fun y v (h : BSl y v (frm kk a b c d (fsum kk a b c d l) l)) => decodeFrame_any y v _ h
    unfold decPost frV at HDF
    rw [hfr.1, hfr.2.1, hfr.2.2.1, hfr.2.2.2.1, hfr.2.2.2.2.1, hfr.2.2.2.2.2.1, hfr.2.2.2.2.2.2] at HDF
    rw [hE, hfb] at HEF
    generalize frm kk a b c d (fsum kk a b c d l) l = FB at *
    have HFL := hide hfl
    have HSF := hide fun y v1 v2 (h1 : BSl y v1 l) (h2 : BSl y v2 l) => sameFrame_eq y kk a b c d v1 v2 l h1 h2
    unfold frV at HSF
    have hlen : ((26 : Int) + (l.length : Int)) = ((26 + l.length : Nat) : Int) := by omega
    have HLN := hide hlen
    clear hfr hfb hE hk1 hk2 hfl hlen hby ha hb hc hd' hk
    go_enter Tryd.func7, Tryd.ntmps7
    go_wp2_with (first
      | (go_at_call 20; refine HOF.out.mono ?_; rintro e' y1 ⟨v1, rfl, hv1, hb1⟩; have V1 := hide hv1; have B1 := hide (B0.out.trans (hb1.mono B0.out.size)); have X1 := hide ((hb1.block _ (Array.getElem?_eq_some_iff.1 X0.out).1).trans X0.out); have P1 := hide (P0.out.below hb1); have T1 := hide (T0.out.below hb1); clear hv1 hb1 HOF X0 P0 T0 B0)
      | (go_at_call 15; refine (HEF.out _ _ V1.out).mono ?_; rintro e' y2 ⟨vb, rfl, hob, hb2⟩; have B2 := hide (B1.out.trans (hb2.mono B1.out.size)); have X2 := hide ((hb2.block _ (Array.getElem?_eq_some_iff.1 X1.out).1).trans X1.out); have P2 := hide (P1.out.below hb2); have T2 := hide (T1.out.below hb2); have HCP := hide (copied_any _ _ y2 hob.bsl (by rw [HFL.out]; omega)); obtain ⟨gb, cb, hvb, _, _, hcb1, hcb2⟩ := hob.shape (by rw [HFL.out]; omega); rw [HFL.out] at hvb; subst hvb; clear hob hb2 HEF X1 P1 T1 B1 V1)
      | (go_at_call 12; refine (num_any _ _).mono ?_; rintro e' z ⟨rfl, hz⟩; subst hz)
      | (go_at_call 11; refine HCP.out.mono ?_; rintro e' y3 ⟨v3, rfl, ho3, hb3⟩; have O3 := hide ho3; have B3 := hide (B2.out.trans (hb3.mono B2.out.size)); have X3 := hide ((hb3.block _ (Array.getElem?_eq_some_iff.1 X2.out).1).trans X2.out); have P3 := hide (P2.out.below hb3); have T3 := hide (T2.out.below hb3); clear ho3 hb3 HCP X2 P2 T2)
      | (go_at_call 13; refine (HDF.out _ _ O3.out.bsl).mono ?_; rintro e' y4 ⟨v4, rfl, ho4, hb4⟩; have O4 := hide ho4.bsl; have B4 := hide (B3.out.trans (hb4.mono B3.out.size)); have X4 := hide ((hb4.block _ (Array.getElem?_eq_some_iff.1 X3.out).1).trans X3.out); have P4 := hide (P3.out.below hb4); have T4 := hide (T3.out.below hb4); obtain ⟨a4, c4, hv4, _⟩ := id ho4.bsl; subst hv4; clear ho4 hb4 HDF X3 P3 T3 B3))
    have b5 := (Below.refl y4.heap.size y4).alloc (Nat.le_refl _) (.cells #[.int .i64 (kk : Int), .int .u32 (a : Int), .int .u32 (b : Int), .int .u32 (c : Int), .int .u32 (d : Int), .slice a4 l.length c4] 38)
    have B5 := hide (B4.out.trans (b5.mono B4.out.size))
    have X5 := hide ((b5.block _ (Array.getElem?_eq_some_iff.1 X4.out).1).trans X4.out)
    have Y5 := hide (Go.heap_alloc_new y4 (.cells #[.int .i64 (kk : Int), .int .u32 (a : Int), .int .u32 (b : Int), .int .u32 (c : Int), .int .u32 (d : Int), .slice a4 l.length c4] 38))
    have P5' := hide (P4.out.below b5)
    have O5 := hide (O4.out.below b5)
    have HE5 := hide (HEX.out _ (T4.out.below b5))
    clear b5 X4 P4 O4 T4 B4 HEX
    refine HE5.out.mono ?_
    rintro e' y6 ⟨rfl, hb6⟩
    have B6 := hide (B5.out.trans (hb6.mono B5.out.size))
    have X6 := hide ((hb6.block _ (Array.getElem?_eq_some_iff.1 X5.out).1).trans X5.out)
    have Y6 := hide ((hb6.block _ (Array.getElem?_eq_some_iff.1 Y5.out).1).trans Y5.out)
    have HS6 := hide (HSF.out y6 _ _ (P5'.out.below hb6) (O5.out.below hb6))
    clear hb6 HE5 X5 Y5 P5' O5 B5 HSF
    go_wp2_with (first
      | (go_at_call 12; refine (num_any _ _).mono ?_; rintro e' z ⟨rfl, hz⟩; subst hz)
      | (refine wpList_load_rowW (by kernel_rfl) 38 (.tmp 1) rfl w.heap.size (by first | rfl | simp [Act.eval, Act.put]) 38 #[.int .i64 (kk : Int), .int .u32 (a : Int), .int .u32 (b : Int), .int .u32 (c : Int), .int .u32 (d : Int), .slice pa l.length cap] (0, 0) _ X6.out Tryd.underlying38 rfl (by kernel_rfl) ?_)
      | (refine wpList_load_rowW (by kernel_rfl) 38 (.tmp 5) rfl y4.heap.size (by first | rfl | simp [Act.eval, Act.put]) 38 #[.int .i64 (kk : Int), .int .u32 (a : Int), .int .u32 (b : Int), .int .u32 (c : Int), .int .u32 (d : Int), .slice a4 l.length c4] (0, 0) _ Y6.out Tryd.underlying38 rfl (by kernel_rfl) ?_)
      | (go_at_call 14; refine HS6.out.mono ?_; rintro e' y7 ⟨rfl, hb7⟩; have B7 := hide (B6.out.trans (hb7.mono B6.out.size)); obtain ⟨u0, u1, u2, u3, u4, u5, _⟩ := row6f ((hb7.block _ (Array.getElem?_eq_some_iff.1 X6.out).1).trans X6.out); clear hb7 HS6))
    go_ret
    exact ⟨by first | rfl | (simp; done) | (simp; omega), B7.out⟩
  · have hne : ((ferr k l.length : Int) != 0) = true := by simp only [bne_iff_ne]; omega
    have hfb : fbytes k a b c d l = [] := by unfold fbytes; rw [if_neg hE]
    rw [hfb] at HEF
    generalize ferr k l.length = er at *
    clear hfb hE hby ha hb hc hd' hk
    go_enter Tryd.func7, Tryd.ntmps7
    go_wp2_with (first
      | (go_at_call 20; refine HOF.out.mono ?_; rintro e' y1 ⟨v1, rfl, hv1, hb1⟩; have V1 := hide hv1; have B1 := hide (B0.out.trans (hb1.mono B0.out.size)); have T1 := hide (T0.out.below hb1); clear hv1 hb1 HOF X0 P0 T0 B0)
      | (go_at_call 15; refine (HEF.out _ _ V1.out).mono ?_; rintro e' y2 ⟨vb, rfl, hob, hb2⟩; have B2 := hide (B1.out.trans (hb2.mono B1.out.size)); have HE2 := hide (HEX.out _ (T1.out.below hb2)); obtain ⟨ab, cb, hvb, _⟩ := id hob.bsl; subst hvb; clear hob hb2 HEF T1 B1 V1 HEX)
      | (go_at_call 12; refine (num_any _ _).mono ?_; rintro e' z ⟨rfl, hz⟩; subst hz)
      | (go_at_call 9; refine HE2.out.mono ?_; rintro e' y3 ⟨rfl, hb3⟩; have B3 := hide (B2.out.trans (hb3.mono B2.out.size)); clear hb3 HE2))
    go_ret
    exact ⟨by first | rfl | (simp; done), B3.out⟩
end Go.Proofs.YtacjibfmhhmbcabDoor
namespace Go.Proofs.YtacjibfmhhmbcabDoor
open Go.RowKit
open Num
set_option linter.unusedVariables false
set_option linter.unusedSimpArgs false
set_option maxRecDepth 20000

theorem tells_part {l : List Nat} (hb : ∀ x ∈ l, x < 256) (h : derr l = 0) {at_ mask lo hi : Nat} (hp : (lo = 0 ∧ hi = 22) ∨ (lo = 22 ∧ hi = 26) ∨ (lo = 26 ∧ hi = l.length)) (hc : tuC (tuO at_ mask lo hi) 32 ≠ 0) : derr (tuL (tuO at_ mask lo hi) l at_ 32) ≠ 0 := by
  have hl := (derr_sum h).1
  have ho : ∀ k, tuO at_ mask lo hi k = true → at_ + k < 8 * hi ∧ 8 * lo ≤ at_ + k := fun k hk => by
    simp only [tuO, Bool.and_eq_true, decide_eq_true_eq] at hk
    exact hk.2
  refine tells hb h (fun k hk => ?_) ?_ hc
  · have := ho k hk; omega
  · rcases hp with ⟨rfl, rfl⟩ | ⟨rfl, rfl⟩ | ⟨rfl, rfl⟩
    · exact .inl fun k hk => by have := ho k hk; omega
    · exact .inr fun k hk => by have := ho k hk; omega
    · exact .inl fun k hk => by have := ho k hk; omega
theorem decErr (y : World) (v : Value) (q : List Nat) (h : BSl y v q) (hE : derr q ≠ 0) :
    Calls Tryd.prog 13 #[v] y fun e w' => ∃ er a5 c5, ¬ ((er : Nat) : Int) = 0 ∧ e = .returned (.tuple #[.agg #[.int .i64 0, .int .u32 0, .int .u32 0, .int .u32 0, .int .u32 0, .slice a5 0 c5], .int .i64 ((er : Nat) : Int)]) ∧ BSl w' (.slice a5 0 c5) [] ∧ Below y.heap.size y w' := by
  refine (decodeFrame_any y v q h).mono ?_
  rintro e w' ⟨v', rfl, ho, hb⟩
  have hk : dk q = 0 := by unfold dk; rw [if_neg hE]
  have hw : ∀ i, dw q i = 0 := fun i => by unfold dw; rw [if_neg hE]
  have hp : dp q = [] := by unfold dp; rw [if_neg hE]
  rw [hp] at ho
  have ho' := ho.bsl
  obtain ⟨a5, c5, hv, _⟩ := id ho'
  subst hv
  refine ⟨derr q, a5, c5, by omega, ?_, ho', hb⟩
  rw [hk, hw, hw, hw, hw]
  rfl

set_option maxHeartbeats 4000000 in
theorem tells_law (w : World) (k : Int) (a b c d : Nat) (v : Value) (l : List Nat) (hT : BTab w) (h : BSl w v l) (hl : l.length ≤ 140737488351232) (hk : -9223372036854775808 ≤ k ∧ k ≤ 9223372036854775807) (ha : a < 4294967296) (hb : b < 4294967296) (hc : c < 4294967296) (hd' : d < 4294967296) (i m p : Int) (hi : (Lit.int .i64 i).wf = true) (hm : (Lit.int .u32 m).wf = true) (hp : (Lit.int .i64 p).wf = true) :
    Calls Tryd.prog 8 #[frV k a b c d v, .int .i64 i, .int .u32 m, .int .i64 p] w fun e w' => e = .returned (.bool true) ∧ Below w.heap.size w w' := by
  have hi' := bounds_i64 hi
  have hm' := bounds_u32 hm
  have hp' := bounds_i64 hp
  obtain ⟨mask, rfl⟩ := Int.eq_ofNat_of_zero_le hm'.1
  obtain ⟨pa, cap, rfl, hl1, hl2, _, hby, _⟩ := id h
  have b0 := (Below.refl w.heap.size w).alloc (Nat.le_refl _) (.cells #[.int .i64 k, .int .u32 (a : Int), .int .u32 (b : Int), .int .u32 (c : Int), .int .u32 (d : Int), .slice pa l.length cap] 38)
  have B0 := hide b0
  have X0 := hide (Go.heap_alloc_new w (.cells #[.int .i64 k, .int .u32 (a : Int), .int .u32 (b : Int), .int .u32 (c : Int), .int .u32 (d : Int), .slice pa l.length cap] 38))
  have P0 := hide (h.below b0)
  have T0 := hide (hT.below b0)
  have HEF := hide fun y v1 (hv : BSl y v1 l) => encodeFrame_any y k a b c d v1 l hv hk hl ha hb hc hd'
  have HEX := hide fun y (hy : BTab y) => example_any y hy
  have z0 : ((0 : Nat) : Int) = 0 := rfl
  have z22 : ((22 : Nat) : Int) = 22 := rfl
  have z26 : ((26 : Nat) : Int) = 26 := rfl
  unfold frV at *
  clear h hT hi hm hp b0
  by_cases hE : ferr k l.length = 0
  · obtain ⟨hk1, hk2, hpl⟩ := ferr_zero hE
    obtain ⟨kk, rfl⟩ : ∃ kk : Nat, k = (kk : Int) := ⟨k.toNat, by omega⟩
    have hfb : fbytes kk a b c d l = frm kk a b c d (fsum kk a b c d l) l := by unfold fbytes; rw [if_pos hE, Int.toNat_natCast]
    have hfl : (frm kk a b c d (fsum kk a b c d l) l).length = 26 + l.length := frm_len _ _ _ _ _ _ _
    have HDE := hide (derr_frm (p := l) hE ha hb hc hd' hby).1
    have HBB := hide (frm_lt (k := kk) (a := a) (b := b) (c := c) (d := d) (s := fsum kk a b c d l) (p := l) (by omega) hby)
    rw [hE, hfb] at HEF
    generalize frm kk a b c d (fsum kk a b c d l) l = FB at *
    have h26 : 26 ≤ FB.length := by omega
    have hFL : FB.length ≤ 140737488351258 := by omega
    have HSF := hide fun y v1 v2 (h1 : BSl y v1 []) (h2 : BSl y v2 []) => sameFrame_eq y 0 0 0 0 0 v1 v2 [] h1 h2
    unfold frV at HSF
    simp only [z0] at HSF HEF
    clear hfb hE hk1 hk2 hfl hby ha hb hc hd' hk
    by_cases hneg : i < 0
    · clear HDE HBB HSF
      go_enter Tryd.func8, Tryd.ntmps8
      go_wp2_with (first
        | (go_at_call 9; refine (HEX.out _ T0.out).mono ?_; rintro e' y1 ⟨rfl, hb1⟩; have B1 := hide (B0.out.trans (hb1.mono B0.out.size)); obtain ⟨u0, u1, u2, u3, u4, u5, _⟩ := row6f ((hb1.block _ (Array.getElem?_eq_some_iff.1 X0.out).1).trans X0.out); have HOF := hide (ownFrame_any y1 kk a b c d (.slice pa l.length cap) l (P0.out.below hb1) hl); unfold frV at HOF; clear hb1 HEX P0 T0 B0 X0)
        | (go_at_call 20; refine HOF.out.mono ?_; rintro e' y2 ⟨v1, rfl, hv1, hb2⟩; have V1 := hide hv1; have B2 := hide (B1.out.trans (hb2.mono B1.out.size)); clear hv1 hb2 HOF B1 u0 u1 u2 u3 u4 u5)
        | (go_at_call 15; refine (HEF.out _ _ V1.out).mono ?_; rintro e' y3 ⟨vb, rfl, hob, hb3⟩; have B3 := hide (B2.out.trans (hb3.mono B2.out.size)); have O3 := hide hob.bsl; obtain ⟨ab, cb, hvb, _⟩ := id hob.bsl; subst hvb; clear hob hb3 HEF B2 V1)
        | (go_at_call 12; refine (num_any _ _).mono ?_; rintro e' z ⟨rfl, hz⟩; subst hz))
      go_ret
      exact ⟨by first | rfl | (simp; done), B3.out⟩
    obtain ⟨n, rfl⟩ := Int.eq_ofNat_of_zero_le (show 0 ≤ i by omega)
    by_cases hp1 : p = 1
    · subst hp1
      have HTU := hide fun y v (h : BSl y v FB) => turned_any v FB n mask 22 26 y h (by omega) (by omega) (by omega) (by omega) (by omega) (by omega)
      have HTE := hide fun hc => tells_part (l := FB) HBB.out HDE.out (at_ := n) (mask := mask) (lo := 22) (hi := 26) (.inr (.inl ⟨rfl, rfl⟩)) hc
      simp only [z0, z22, z26] at HTU
      have HDF := hide fun y v (h : BSl y v (tuL (tuO n mask 22 26) FB n 32)) => decErr y v _ h
      generalize hcn : tuC (tuO n mask 22 26) 32 = cn at *
      have hcl : cn ≤ 32 := hcn ▸ tuC_le _ _
      generalize tuL (tuO n mask 22 26) FB n 32 = QB at *
      clear hcn HDE HBB
      go_enter Tryd.func8, Tryd.ntmps8
      go_wp2_with (first
        | (go_at_call 9; refine (HEX.out _ T0.out).mono ?_; rintro e' y1 ⟨rfl, hb1⟩; have B1 := hide (B0.out.trans (hb1.mono B0.out.size)); obtain ⟨u0, u1, u2, u3, u4, u5, _⟩ := row6f ((hb1.block _ (Array.getElem?_eq_some_iff.1 X0.out).1).trans X0.out); have HOF := hide (ownFrame_any y1 kk a b c d (.slice pa l.length cap) l (P0.out.below hb1) hl); unfold frV at HOF; clear hb1 HEX P0 T0 B0 X0)
        | (go_at_call 20; refine HOF.out.mono ?_; rintro e' y2 ⟨v1, rfl, hv1, hb2⟩; have V1 := hide hv1; have B2 := hide (B1.out.trans (hb2.mono B1.out.size)); clear hv1 hb2 HOF B1 u0 u1 u2 u3 u4 u5)
        | (go_at_call 15; refine (HEF.out _ _ V1.out).mono ?_; rintro e' y3 ⟨vb, rfl, hob, hb3⟩; have B3 := hide (B2.out.trans (hb3.mono B2.out.size)); have O3 := hide hob.bsl; obtain ⟨ab, cb, hvb, _⟩ := id hob.bsl; subst hvb; clear hob hb3 HEF B2 V1)
        | (go_at_call 12; refine (num_any _ _).mono ?_; rintro e' z ⟨rfl, hz⟩; subst hz))
      refine (HTU.out _ _ O3.out).mono ?_
      rintro e' y4 ⟨v4, rfl, hv4, hb4⟩
      have V4 := hide hv4
      have B4 := hide (B3.out.trans (hb4.mono B3.out.size))
      clear hv4 hb4 HTU O3 B3
      by_cases h0 : cn = 0
      · subst h0
        go_wp2_with fail
        go_ret
        exact ⟨by first | rfl | (simp; done), B4.out⟩
      · have hcI : ¬ (cn : Int) = 0 := by omega
        have HD := hide (HDF.out _ _ V4.out (HTE.out h0))
        clear HDF HTE V4
        go_wp2_with (first
          | (go_at_call 13; refine HD.out.mono ?_; rintro e' y5 ⟨er, a5, c5, her, rfl, ho5, hb5⟩; have O5 := hide ho5; have B5 := hide (B4.out.trans (hb5.mono B4.out.size)); have b6 := hide ((Below.refl y5.heap.size y5).alloc (Nat.le_refl _) (.cells #[.int .i64 0, .int .u32 0, .int .u32 0, .int .u32 0, .int .u32 0, .slice a5 0 c5] 38)); have X6 := hide (Go.heap_alloc_new y5 (.cells #[.int .i64 0, .int .u32 0, .int .u32 0, .int .u32 0, .int .u32 0, .slice a5 0 c5] 38)); clear ho5 hb5 HD B4)
          | (go_at_call 12; refine (num_any _ _).mono ?_; rintro e' z ⟨rfl, hz⟩; subst hz)
          | (refine wpList_load_rowW (by kernel_rfl) 38 (.tmp 14) rfl y5.heap.size (by first | rfl | simp [Act.eval, Act.put]) 38 #[.int .i64 0, .int .u32 0, .int .u32 0, .int .u32 0, .int .u32 0, .slice a5 0 c5] (0, 0) _ X6.out Tryd.underlying38 rfl (by kernel_rfl) ?_)
          | (go_at_call 14; refine (HSF.out _ _ _ (O5.out.below b6.out) (bsl_nil _)).mono ?_; rintro e' y7 ⟨rfl, hb7⟩; have B6 := hide (B5.out.trans (b6.out.mono B5.out.size)); have B7 := hide (B6.out.trans (hb7.mono B6.out.size)); clear hb7 HSF))
        go_ret
        exact ⟨by first | rfl | (simp; done) | (simp; omega), B7.out⟩
    by_cases hp0 : p = 0
    · subst hp0
      have HTU := hide fun y v (h : BSl y v FB) => turned_any v FB n mask 0 22 y h (by omega) (by omega) (by omega) (by omega) (by omega) (by omega)
      have HTE := hide fun hc => tells_part (l := FB) HBB.out HDE.out (at_ := n) (mask := mask) (lo := 0) (hi := 22) (.inl ⟨rfl, rfl⟩) hc
      simp only [z0, z22, z26] at HTU
      have HDF := hide fun y v (h : BSl y v (tuL (tuO n mask 0 22) FB n 32)) => decErr y v _ h
      generalize hcn : tuC (tuO n mask 0 22) 32 = cn at *
      have hcl : cn ≤ 32 := hcn ▸ tuC_le _ _
      generalize tuL (tuO n mask 0 22) FB n 32 = QB at *
      clear hcn HDE HBB
      go_enter Tryd.func8, Tryd.ntmps8
      go_wp2_with (first
        | (go_at_call 9; refine (HEX.out _ T0.out).mono ?_; rintro e' y1 ⟨rfl, hb1⟩; have B1 := hide (B0.out.trans (hb1.mono B0.out.size)); obtain ⟨u0, u1, u2, u3, u4, u5, _⟩ := row6f ((hb1.block _ (Array.getElem?_eq_some_iff.1 X0.out).1).trans X0.out); have HOF := hide (ownFrame_any y1 kk a b c d (.slice pa l.length cap) l (P0.out.below hb1) hl); unfold frV at HOF; clear hb1 HEX P0 T0 B0 X0)
        | (go_at_call 20; refine HOF.out.mono ?_; rintro e' y2 ⟨v1, rfl, hv1, hb2⟩; have V1 := hide hv1; have B2 := hide (B1.out.trans (hb2.mono B1.out.size)); clear hv1 hb2 HOF B1 u0 u1 u2 u3 u4 u5)
        | (go_at_call 15; refine (HEF.out _ _ V1.out).mono ?_; rintro e' y3 ⟨vb, rfl, hob, hb3⟩; have B3 := hide (B2.out.trans (hb3.mono B2.out.size)); have O3 := hide hob.bsl; obtain ⟨ab, cb, hvb, _⟩ := id hob.bsl; subst hvb; clear hob hb3 HEF B2 V1)
        | (go_at_call 12; refine (num_any _ _).mono ?_; rintro e' z ⟨rfl, hz⟩; subst hz))
      refine (HTU.out _ _ O3.out).mono ?_
      rintro e' y4 ⟨v4, rfl, hv4, hb4⟩
      have V4 := hide hv4
      have B4 := hide (B3.out.trans (hb4.mono B3.out.size))
      clear hv4 hb4 HTU O3 B3
      by_cases h0 : cn = 0
      · subst h0
        go_wp2_with fail
        go_ret
        exact ⟨by first | rfl | (simp; done), B4.out⟩
      · have hcI : ¬ (cn : Int) = 0 := by omega
        have HD := hide (HDF.out _ _ V4.out (HTE.out h0))
        clear HDF HTE V4
        go_wp2_with (first
          | (go_at_call 13; refine HD.out.mono ?_; rintro e' y5 ⟨er, a5, c5, her, rfl, ho5, hb5⟩; have O5 := hide ho5; have B5 := hide (B4.out.trans (hb5.mono B4.out.size)); have b6 := hide ((Below.refl y5.heap.size y5).alloc (Nat.le_refl _) (.cells #[.int .i64 0, .int .u32 0, .int .u32 0, .int .u32 0, .int .u32 0, .slice a5 0 c5] 38)); have X6 := hide (Go.heap_alloc_new y5 (.cells #[.int .i64 0, .int .u32 0, .int .u32 0, .int .u32 0, .int .u32 0, .slice a5 0 c5] 38)); clear ho5 hb5 HD B4)
          | (go_at_call 12; refine (num_any _ _).mono ?_; rintro e' z ⟨rfl, hz⟩; subst hz)
          | (refine wpList_load_rowW (by kernel_rfl) 38 (.tmp 14) rfl y5.heap.size (by first | rfl | simp [Act.eval, Act.put]) 38 #[.int .i64 0, .int .u32 0, .int .u32 0, .int .u32 0, .int .u32 0, .slice a5 0 c5] (0, 0) _ X6.out Tryd.underlying38 rfl (by kernel_rfl) ?_)
          | (go_at_call 14; refine (HSF.out _ _ _ (O5.out.below b6.out) (bsl_nil _)).mono ?_; rintro e' y7 ⟨rfl, hb7⟩; have B6 := hide (B5.out.trans (b6.out.mono B5.out.size)); have B7 := hide (B6.out.trans (hb7.mono B6.out.size)); clear hb7 HSF))
        go_ret
        exact ⟨by first | rfl | (simp; done) | (simp; omega), B7.out⟩
    · have hp2 := hp1
      have HTU := hide fun y v (h : BSl y v FB) => turned_any v FB n mask 26 FB.length y h (by omega) (by omega) (by omega) (by omega) (by omega) (by omega)
      have HTE := hide fun hc => tells_part (l := FB) HBB.out HDE.out (at_ := n) (mask := mask) (lo := 26) (hi := FB.length) (.inr (.inr ⟨rfl, rfl⟩)) hc
      simp only [z0, z22, z26] at HTU
      have HDF := hide fun y v (h : BSl y v (tuL (tuO n mask 26 FB.length) FB n 32)) => decErr y v _ h
      generalize hcn : tuC (tuO n mask 26 FB.length) 32 = cn at *
      have hcl : cn ≤ 32 := hcn ▸ tuC_le _ _
      generalize tuL (tuO n mask 26 FB.length) FB n 32 = QB at *
      clear hcn HDE HBB
      go_enter Tryd.func8, Tryd.ntmps8
      go_wp2_with (first
        | (go_at_call 9; refine (HEX.out _ T0.out).mono ?_; rintro e' y1 ⟨rfl, hb1⟩; have B1 := hide (B0.out.trans (hb1.mono B0.out.size)); obtain ⟨u0, u1, u2, u3, u4, u5, _⟩ := row6f ((hb1.block _ (Array.getElem?_eq_some_iff.1 X0.out).1).trans X0.out); have HOF := hide (ownFrame_any y1 kk a b c d (.slice pa l.length cap) l (P0.out.below hb1) hl); unfold frV at HOF; clear hb1 HEX P0 T0 B0 X0)
        | (go_at_call 20; refine HOF.out.mono ?_; rintro e' y2 ⟨v1, rfl, hv1, hb2⟩; have V1 := hide hv1; have B2 := hide (B1.out.trans (hb2.mono B1.out.size)); clear hv1 hb2 HOF B1 u0 u1 u2 u3 u4 u5)
        | (go_at_call 15; refine (HEF.out _ _ V1.out).mono ?_; rintro e' y3 ⟨vb, rfl, hob, hb3⟩; have B3 := hide (B2.out.trans (hb3.mono B2.out.size)); have O3 := hide hob.bsl; obtain ⟨ab, cb, hvb, _⟩ := id hob.bsl; subst hvb; clear hob hb3 HEF B2 V1)
        | (go_at_call 12; refine (num_any _ _).mono ?_; rintro e' z ⟨rfl, hz⟩; subst hz))
      refine (HTU.out _ _ O3.out).mono ?_
      rintro e' y4 ⟨v4, rfl, hv4, hb4⟩
      have V4 := hide hv4
      have B4 := hide (B3.out.trans (hb4.mono B3.out.size))
      clear hv4 hb4 HTU O3 B3
      by_cases h0 : cn = 0
      · subst h0
        go_wp2_with fail
        go_ret
        exact ⟨by first | rfl | (simp; done), B4.out⟩
      · have hcI : ¬ (cn : Int) = 0 := by omega
        have HD := hide (HDF.out _ _ V4.out (HTE.out h0))
        clear HDF HTE V4
        go_wp2_with (first
          | (go_at_call 13; refine HD.out.mono ?_; rintro e' y5 ⟨er, a5, c5, her, rfl, ho5, hb5⟩; have O5 := hide ho5; have B5 := hide (B4.out.trans (hb5.mono B4.out.size)); have b6 := hide ((Below.refl y5.heap.size y5).alloc (Nat.le_refl _) (.cells #[.int .i64 0, .int .u32 0, .int .u32 0, .int .u32 0, .int .u32 0, .slice a5 0 c5] 38)); have X6 := hide (Go.heap_alloc_new y5 (.cells #[.int .i64 0, .int .u32 0, .int .u32 0, .int .u32 0, .int .u32 0, .slice a5 0 c5] 38)); clear ho5 hb5 HD B4)
          | (go_at_call 12; refine (num_any _ _).mono ?_; rintro e' z ⟨rfl, hz⟩; subst hz)
          | (refine wpList_load_rowW (by kernel_rfl) 38 (.tmp 14) rfl y5.heap.size (by first | rfl | simp [Act.eval, Act.put]) 38 #[.int .i64 0, .int .u32 0, .int .u32 0, .int .u32 0, .int .u32 0, .slice a5 0 c5] (0, 0) _ X6.out Tryd.underlying38 rfl (by kernel_rfl) ?_)
          | (go_at_call 14; refine (HSF.out _ _ _ (O5.out.below b6.out) (bsl_nil _)).mono ?_; rintro e' y7 ⟨rfl, hb7⟩; have B6 := hide (B5.out.trans (b6.out.mono B5.out.size)); have B7 := hide (B6.out.trans (hb7.mono B6.out.size)); clear hb7 HSF))
        go_ret
        exact ⟨by first | rfl | (simp; done) | (simp; omega), B7.out⟩
  · have hne : ¬ ((ferr k l.length : Nat) : Int) = 0 := by omega
    have hfb : fbytes k a b c d l = [] := by unfold fbytes; rw [if_neg hE]
    rw [hfb] at HEF
    generalize ferr k l.length = er at *
    clear hfb hE hby ha hb hc hd' hk
    go_enter Tryd.func8, Tryd.ntmps8
    go_wp2_with (first
      | (go_at_call 9; refine (HEX.out _ T0.out).mono ?_; rintro e' y1 ⟨rfl, hb1⟩; have B1 := hide (B0.out.trans (hb1.mono B0.out.size)); obtain ⟨u0, u1, u2, u3, u4, u5, _⟩ := row6f ((hb1.block _ (Array.getElem?_eq_some_iff.1 X0.out).1).trans X0.out); have HOF := hide (ownFrame_any y1 k a b c d (.slice pa l.length cap) l (P0.out.below hb1) hl); unfold frV at HOF; clear hb1 HEX P0 T0 B0 X0)
      | (go_at_call 20; refine HOF.out.mono ?_; rintro e' y2 ⟨v1, rfl, hv1, hb2⟩; have V1 := hide hv1; have B2 := hide (B1.out.trans (hb2.mono B1.out.size)); clear hv1 hb2 HOF B1 u0 u1 u2 u3 u4 u5)
      | (go_at_call 15; refine (HEF.out _ _ V1.out).mono ?_; rintro e' y3 ⟨vb, rfl, hob, hb3⟩; have B3 := hide (B2.out.trans (hb3.mono B2.out.size)); have O3 := hide hob.bsl; obtain ⟨ab, cb, hvb, _⟩ := id hob.bsl; subst hvb; clear hob hb3 HEF B2 V1)
      | (go_at_call 12; refine (num_any _ _).mono ?_; rintro e' z ⟨rfl, hz⟩; subst hz))
    go_ret
    exact ⟨by first | rfl | (simp; done), B3.out⟩
end Go.Proofs.YtacjibfmhhmbcabDoor
namespace Go.Proofs.YtacjibfmhhmbcabDoor
open Go.ChangeShapes Go.WideShapes Go.ChangeAt Go.RowKit
open Num
set_option linter.unusedVariables false
set_option linter.unusedSimpArgs false
set_option maxRecDepth 20000

theorem own : ownKnob Tryd.prog.godebug = none := by kernel_rfl
theorem laidOut : laidOutB Tryd.prog = true := by kernel_rfl
theorem cellsFrame : Tryd.prog.cellsOf 38 = 6 := by kernel_rfl
theorem cellsI : Tryd.prog.cellsOf 3 = 1 := by kernel_rfl
theorem cellsV : Tryd.prog.cellsOf 24 = 1 := by kernel_rfl
theorem cellsB : Tryd.prog.cellsOf 22 = 1 := by kernel_rfl

def IsRow (k : IntKind) (w : World) (a : Option Addr) (len cap : Nat) (zs : List Int) : Prop :=
  (a = none ∧ len = 0 ∧ cap = 0 ∧ zs = []) ∨
  ∃ x, a = some x ∧ len ≤ cap ∧ cap ≤ maxLen ∧ zs.length = cap ∧ (∀ i, i < zs.length → w.cell? (x.add i) = some (.int k (zs.getD i 0))) ∧ ∀ n ∈ zs, (Lit.int k n).wf = true

/-- what came in, as bytes -/
theorem bsl_of_row {w : World} {a : Option Addr} {len cap : Nat} {zs : List Int} (h : IsRow .u8 w a len cap zs) : ∃ l : List Nat, l.length = len ∧ BSl w (.slice a len cap) l := by
  rcases h with ⟨rfl, rfl, rfl, rfl⟩ | ⟨x, rfl, hl, hm, hz, hcell, hwz⟩
  · exact ⟨[], rfl, none, 0, rfl, Nat.le_refl _, by unfold maxLen; omega, fun _ => rfl, by simp, by simp⟩
  · have hlen : ((zs.take len).map Int.toNat).length = len := by simp; omega
    refine ⟨(zs.take len).map Int.toNat, hlen, _, cap, by rw [hlen], by omega, hm, by simp, ?_, ?_⟩
    · intro b hb
      obtain ⟨n, hn, rfl⟩ := List.mem_map.1 hb
      have := bounds_u8 (hwz n (List.mem_of_mem_take hn))
      omega
    · intro hp
      obtain ⟨b, off, rfl, hc⟩ := ints_at hcell (by omega)
      refine ⟨b, off, rfl, fun i hi => ?_⟩
      rw [hc i (by omega)]
      have hi' : i < zs.length := by omega
      have hb := bounds_u8 (hwz zs[i] (List.getElem_mem hi'))
      have hi2 : i < len := by omega
      have e2 : ((zs.take len).map Int.toNat).getD i 0 = zs[i].toNat := by
        simp [List.getD, hi', hi2]
      have e3 : zs.getD i 0 = zs[i] := by simp [List.getD, hi']
      rw [e2, e3, Int.toNat_of_nonneg hb.1]

/-- a list of bytes that came in: what it reads as, and how long it may be -/
theorem open_bytes {H : Type} {enc : TypeId × Value → H} {W : World} {base : Nat} {v : Value} {d : DataW H} {p : List MemPlace} {ts : List TypeId} {ds : List (DataW H)} (j : Nat) (hts : ts[j]? = some 22) (hds : ds[j]? = some d)
    (hsz : (DataW.weightsEach Tryd.prog ts ds).all (· ≤ reachBytes) = true) (hok : Value.okWide Tryd.prog W .any base 22 v) (h1 : DataW.Trod enc Tryd.prog W 0 (fun _ => true) true 22 v d p) : ∃ l : List Nat, BSl W v l ∧ l.length ≤ 140737488351232 := by
  obtain ⟨a1, len1, cap1, rfl⟩ := okWide_slice Tryd.underlying22 hok
  obtain ⟨z1, w1, hr1⟩ : ∃ zs, IsRow .u8 W a1 len1 cap1 zs ∧ len1 ≤ 140737488351232 := by
    obtain ⟨fuel, hf⟩ := h1
    rcases open_ints Tryd.underlying22 Tryd.underlying5 (by kernel_rfl) hf with ⟨hcs, _⟩ | ⟨x, l, c, zs, hcs, _, hl, hm, hz, hx, hcell, hwz⟩
    · simp [Value.cells] at hcs
      obtain ⟨rfl, rfl, rfl⟩ := hcs
      exact ⟨[], .inl ⟨rfl, rfl, rfl, rfl⟩, by omega⟩
    · simp [Value.cells] at hcs
      obtain ⟨rfl, rfl, rfl⟩ := hcs
      simp only [Prod.mk.injEq] at hx
      obtain ⟨rfl, hp⟩ := hx
      have hw := sized_slice hsz (j := j) (t := 22) (e := 5) hts hds Tryd.underlying22
      rw [show Tryd.prog.bytesOf 5 = 1 from by kernel_rfl] at hw
      simp only [lits, List.length_map, List.length_take, List.length_drop, reachBytes] at hw
      simp only [if_true] at hz
      exact ⟨zs, .inr ⟨_, rfl, hl, hm, hz, hcell, hwz⟩, by omega⟩
  obtain ⟨l, hll, hb⟩ := bsl_of_row w1
  exact ⟨l, hb, by omega⟩
theorem trod_place_lt {H : Type} {enc : TypeId × Value → H} {W : World} {t : TypeId} {v : Value} {d : DataW H} {p : List MemPlace} (h1 : DataW.Trod enc Tryd.prog W 0 (fun _ => true) true t v d p) : ∀ x ∈ p, x.block < W.heap.size := by
  obtain ⟨m, hm⟩ := h1; exact DataW.trod_lt m _ _ _ hm
/-- it reads on as it did -/
theorem again_bytes {H : Type} {enc : TypeId × Value → H} {W W' : World} {v : Value} {d : DataW H} {p : List MemPlace} (h1 : DataW.Trod enc Tryd.prog W 0 (fun _ => true) true 22 v d p) (bel : Below W.heap.size W W') :
    DataW.Trod enc Tryd.prog W' 0 (fun b => decide (b < W.heap.size)) true 22 v d p := Below.trod laidOut (by kernel_rfl) (of_decide_eq_true (by kernel_rfl)) h1 bel (trod_place_lt h1)

theorem sized_struct {H : Type} {P : Program} {ts : List TypeId} {ds : List (DataW H)} (h : (DataW.weightsEach P ts ds).all (· ≤ reachBytes) = true) {j : Nat} {t : TypeId} {xs : List (DataW H)} {fs : Array Field} (ht : ts[j]? = some t) (hd : ds[j]? = some (.agg xs)) (hu : P.underlying t = some (.struct fs)) :
    (DataW.weightsEach P (fs.toList.map (·.type)) xs).all (· ≤ reachBytes) = true := by
  refine List.all_eq_true.2 fun n hn => List.all_eq_true.1 h _ (DataW.weights_mem_each ht hd n ?_)
  simpa [DataW.weights, hu] using hn

/-- a field of bytes: what it reads as, and how long it may be -/
theorem open_field {H : Type} {enc : TypeId × Value → H} {W : World} {n : Nat} {v : Value} {y : DataW H × List MemPlace} {ts : List TypeId} {ds : List (DataW H)} (j : Nat) (hts : ts[j]? = some 22) (hds : ds[j]? = some y.1)
    (hsz : (DataW.weightsEach Tryd.prog ts ds).all (· ≤ reachBytes) = true) (h : DataW.trod enc Tryd.prog W 0 (fun _ => true) true n 22 [v] = some y) : ∃ l : List Nat, BSl W v l ∧ l.length ≤ 140737488351232 := by
  rcases open_ints Tryd.underlying22 Tryd.underlying5 (by kernel_rfl) h with ⟨hcs, hy⟩ | ⟨x, len, cap, zs, hcs, _, hl, hm, hz, hx, hcell, hwz⟩
  · simp at hcs
    subst hcs
    exact ⟨[], ⟨none, 0, rfl, Nat.le_refl _, by unfold maxLen; omega, fun _ => rfl, by simp, by simp⟩, by simp⟩
  · simp at hcs
    subst hcs
    rw [hx] at hds
    have hw := sized_slice hsz (j := j) (t := 22) (e := 5) hts hds Tryd.underlying22
    rw [show Tryd.prog.bytesOf 5 = 1 from by kernel_rfl] at hw
    simp only [lits, List.length_map, List.length_take, List.length_drop, reachBytes] at hw
    simp only [if_true] at hz
    obtain ⟨l, hll, hb⟩ := bsl_of_row (.inr ⟨_, rfl, hl, hm, hz, hcell, hwz⟩)
    exact ⟨l, hb, by omega⟩

theorem open_frame {H : Type} {enc : TypeId × Value → H} {W : World} {base : Nat} {v : Value} {d : DataW H} {p : List MemPlace} {ts : List TypeId} {ds : List (DataW H)} (j : Nat) (hts : ts[j]? = some 38) (hds : ds[j]? = some d)
    (hsz : (DataW.weightsEach Tryd.prog ts ds).all (· ≤ reachBytes) = true) (hok : Value.okWide Tryd.prog W .any base 38 v) (h1 : DataW.Trod enc Tryd.prog W 0 (fun _ => true) true 38 v d p) :
    ∃ (k : Int) (a b c e : Nat) (x : Value) (l : List Nat), v = frV k a b c e x ∧ BSl W x l ∧ l.length ≤ 140737488351232 ∧ (-9223372036854775808 ≤ k ∧ k ≤ 9223372036854775807) ∧ a < 4294967296 ∧ b < 4294967296 ∧ c < 4294967296 ∧ e < 4294967296 := by
  obtain ⟨cs, rfl, hcs⟩ := okWide_struct Tryd.underlying38 hok
  rw [cellsFrame] at hcs
  obtain ⟨fuel, hf⟩ := h1
  obtain ⟨l⟩ := cs
  match l, hcs with
  | [v0, v1, v2, v3, v4, v5], _ =>
    obtain ⟨xs, k, hk, hxy, _, hxl, hfd⟩ := DataW.trod_struct Tryd.underlying38 hf
    match xs, hxl with
    | [y0, y1, y2, y3, y4, y5], _ =>
      have g0 := hfd 0 _ rfl
      have g1 := hfd 1 _ rfl
      have g2 := hfd 2 _ rfl
      have g3 := hfd 3 _ rfl
      have g4 := hfd 4 _ rfl
      have g5 := hfd 5 _ rfl
      simp [cellsI, cellsV, cellsB, Value.cells] at g0 g1 g2 g3 g4 g5
      obtain ⟨a0, e0, _, f0⟩ := DataW.trod_int Tryd.underlying3 g0
      obtain ⟨a1, e1, _, f1⟩ := DataW.trod_int Tryd.underlying24 g1
      obtain ⟨a2, e2, _, f2⟩ := DataW.trod_int Tryd.underlying24 g2
      obtain ⟨a3, e3, _, f3⟩ := DataW.trod_int Tryd.underlying24 g3
      obtain ⟨a4, e4, _, f4⟩ := DataW.trod_int Tryd.underlying24 g4
      simp at e0 e1 e2 e3 e4
      subst e0 e1 e2 e3 e4
      have f0 := bounds_i64 f0
      have f1 := bounds_u32 f1
      have f2 := bounds_u32 f2
      have f3 := bounds_u32 f3
      have f4 := bounds_u32 f4
      simp only [Prod.mk.injEq] at hxy
      have hin := sized_struct hsz (j := j) hts (by rw [hds, hxy.1]) Tryd.underlying38
      obtain ⟨q, hq, hql⟩ := open_field 5 rfl rfl hin g5
      refine ⟨a0, a1.toNat, a2.toNat, a3.toNat, a4.toNat, v5, q, ?_, hq, hql, f0, by omega, by omega, by omega, by omega⟩
      unfold frV
      rw [Int.toNat_of_nonneg f1.1, Int.toNat_of_nonneg f2.1, Int.toNat_of_nonneg f3.1, Int.toNat_of_nonneg f4.1]
theorem again_frame {H : Type} {enc : TypeId × Value → H} {W W' : World} {v : Value} {d : DataW H} {p : List MemPlace} (h1 : DataW.Trod enc Tryd.prog W 0 (fun _ => true) true 38 v d p) (bel : Below W.heap.size W W') :
    DataW.Trod enc Tryd.prog W' 0 (fun b => decide (b < W.heap.size)) true 38 v d p := Below.trod laidOut (by kernel_rfl) (of_decide_eq_true (by kernel_rfl)) h1 bel (trod_place_lt h1)
end Go.Proofs.YtacjibfmhhmbcabDoor
namespace Go.Proofs.YtacjibfmhhmbcabDoor
open Go.ChangeShapes Go.WideShapes Go.ChangeAt Go.RowKit
set_option linter.unusedVariables false
set_option linter.unusedSimpArgs false
set_option maxRecDepth 20000

theorem cellsU64 : Tryd.prog.cellsOf 25 = 1 := by kernel_rfl
theorem cellsRec : Tryd.prog.cellsOf 95 = 3 := by kernel_rfl
theorem cellsBtab : Tryd.prog.cellsOf 96 = 54 := by kernel_rfl
theorem gB : Tryd.prog.globalNamed "replica/wire.bounds" = some 0 := by kernel_rfl
theorem gBty : (Tryd.prog.globals[0]?).map (·.type) = some 96 := by kernel_rfl
def recD {H : Type} (z : Nat × Nat × Nat) : DataW H := .agg [.lit (.int .i64 (z.1 : Int)), .lit (.int .u64 (z.2.1 : Int)), .lit (.int .u64 (z.2.2 : Int))]
theorem laid_bounds : (Rows.laid_replica_wire_bounds : DataW Unit) = .agg (bndL.map recD) := rfl
theorem rec_cells {H : Type} {enc : TypeId × Value → H} {W : World} {sp : Nat → Bool} {hh : Bool} {n base : Nat} {v0 v1 v2 : Value} {y : DataW H × List MemPlace} (h : DataW.trod enc Tryd.prog W base sp hh n 95 [v0, v1, v2] = some y) : ∃ a b c : Int, v0 = .int .i64 a ∧ v1 = .int .u64 b ∧ v2 = .int .u64 c ∧ y.1 = .agg [.lit (.int .i64 a), .lit (.int .u64 b), .lit (.int .u64 c)] := by
  obtain ⟨xs2, k2, hk2, hxy2, _, hxl2, hfd2⟩ := DataW.trod_struct Tryd.underlying95 h
  match xs2, hxl2 with
  | [u0, u1, u2], _ =>
    have m0 := hfd2 0 _ rfl
    have m1 := hfd2 1 _ rfl
    have m2 := hfd2 2 _ rfl
    simp [cellsI, cellsU64] at m0 m1 m2
    obtain ⟨b0, p0, q0, _⟩ := DataW.trod_int Tryd.underlying3 m0
    obtain ⟨b1, p1, q1, _⟩ := DataW.trod_int Tryd.underlying25 m1
    obtain ⟨b2, p2, q2, _⟩ := DataW.trod_int Tryd.underlying25 m2
    simp at p0 p1 p2
    subst q0 q1 q2
    exact ⟨b0, b1, b2, p0, p1, p2, by rw [hxy2]; rfl⟩
theorem cells_of_recs {H : Type} {enc : TypeId × Value → H} {w : World} {base : Nat} {sp : Nat → Bool} {held : Bool} {fuel : Nat} {cs : List Value} {zs : List (Nat × Nat × Nat)} {p : List MemPlace} (hz : zs.length = 18)
    (h : DataW.trod enc Tryd.prog w base sp held fuel 96 cs = some (.agg (zs.map recD), p)) : ∀ i, i < 18 → cs[i * 3]? = some (.int .i64 ((zs.getD i (0, 0, 0)).1 : Nat)) ∧ cs[i * 3 + 1]? = some (.int .u64 ((zs.getD i (0, 0, 0)).2.1 : Nat)) ∧ cs[i * 3 + 2]? = some (.int .u64 ((zs.getD i (0, 0, 0)).2.2 : Nat)) := by
  cases fuel with
  | zero => simp [DataW.trod] at h
  | succ fuel =>
    simp only [DataW.trod, Tryd.underlying96, cellsRec, cellsBtab] at h
    split at h
    · rename_i hl
      have hlen : cs.length = 54 := by simpa using hl
      obtain ⟨xs, hm, hx⟩ := Option.map_eq_some_iff.1 h
      have hxs : xs.map (·.1) = zs.map recD := by
        have := congrArg Prod.fst hx
        simpa using this
      intro i hi
      obtain ⟨b, hb, hf⟩ := Lib.mapM_at hm i i (by simp [hi])
      have h3 : ((cs.drop (i * 3)).take 3).length = 3 := by simp; omega
      obtain ⟨v0, v1, v2, hv⟩ : ∃ v0 v1 v2, (cs.drop (i * 3)).take 3 = [v0, v1, v2] := by
        match (cs.drop (i * 3)).take 3, h3 with
        | [v0, v1, v2], _ => exact ⟨v0, v1, v2, rfl⟩
      rw [hv] at hf
      obtain ⟨a, b1, c, rfl, rfl, rfl, hy⟩ := rec_cells hf
      have h2 : (xs.map (·.1))[i]? = some b.1 := by simp [hb]
      rw [hxs, hy] at h2
      have hzi : zs[i]? = some (zs.getD i (0, 0, 0)) := by rw [List.getD_eq_getElem?_getD, List.getElem?_eq_getElem (by omega)]; rfl
      rw [List.getElem?_map, hzi] at h2
      simp [recD] at h2
      obtain ⟨e1, e2, e3⟩ := h2
      have g : ∀ j, j < 3 → cs[i * 3 + j]? = [Value.int .i64 a, .int .u64 b1, .int .u64 c][j]? := fun j hj => by
        rw [← hv, List.getElem?_take, if_pos hj, List.getElem?_drop]
      have g0 := g 0 (by decide)
      have g1 := g 1 (by decide)
      have g2 := g 2 (by decide)
      simp at g0 g1 g2
      exact ⟨by rw [g0, ← e1]; simp, by rw [g1, ← e2]; simp, by rw [g2, ← e3]; simp⟩
    · cases h
def listed : List (String × DataW Unit) := [("replica/wire.bounds", Rows.laid_replica_wire_bounds)]
theorem stabs_of_laid {W : World} (h : laidMetH Tryd.prog listed W) : BTab W := by
  have h' : laidMet Tryd.prog [("replica/wire.bounds", (.agg (bndL.map recD) : DataW Unit))] W := h
  obtain ⟨ps, ⟨g', t', cs, fuel, p, q, hg', ht', hvar, hd, _⟩, _⟩ := h'
  obtain rfl := Option.some.inj (gB.symm.trans hg')
  obtain rfl := Option.some.inj (gBty.symm.trans ht')
  have hc := cells_of_recs rfl hd
  intro n hn
  obtain ⟨c0, c1, c2⟩ := hc n hn
  have k := fun j => World.var?_cell gB hvar j
  exact ⟨by rw [k, List.getElem?_toArray]; exact c0, by rw [k, List.getElem?_toArray]; exact c1, by rw [k, List.getElem?_toArray]; exact c2⟩
def relay (cs : List Value) : Obj → Obj
  | .cells _ t fr => .cells cs.toArray t fr
  | o => o
def laidIn (w : World) : World := { w with heap := w.heap.modify 0 (relay (bndL.flatMap fun z => [.int .i64 (z.1 : Int), .int .u64 (z.2.1 : Int), .int .u64 (z.2.2 : Int)])) }
end Go.Proofs.YtacjibfmhhmbcabDoor
