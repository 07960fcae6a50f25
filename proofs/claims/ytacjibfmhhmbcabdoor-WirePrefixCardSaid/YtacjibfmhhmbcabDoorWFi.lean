import Derived.Test.YtacjibfmhhmbcabDoorWFn
import Derived.Test.YtacjibfmhhmbcabDoorWRead
namespace Go.Proofs.YtacjibfmhhmbcabDoor
open Go.RowKit
set_option linter.unusedVariables false
set_option linter.unusedSimpArgs false
set_option maxRecDepth 20000

theorem ds_ident {w x : World} {B rb pb b off cap : Nat} {l : List Nat} {at' : Nat} {stuck : Bool} {p : PV} {v : Value} (h : DS w x B rb pb b off cap l at' stuck p v) :
    Calls Tryd.prog 39 #[.pointer (some ⟨rb, 0, none⟩)] x fun e' y => e' = .returned (.int .u64 ((rdS l [(0, 18446744073709551615)] 8 at' stuck).1 : Nat)) ∧ DS w y B rb pb b off cap l (rdS l [(0, 18446744073709551615)] 8 at' stuck).2.1 (rdS l [(0, 18446744073709551615)] 8 at' stuck).2.2 p v := by
  refine (ident_any x rb b off cap at' l stuck h.rd h.at_).mono ?_
  rintro e' y ⟨rfl, h1, h2⟩
  exact ⟨rfl, h.num h1 h2 (rdS_le h.at_).2⟩
set_option maxHeartbeats 2000000 in
theorem field_ids : FieldSpec .ids := by
  intro w x B rb pb b off cap l at' stuck p v h
  have HD := hide (h.below ((Below.refl x.heap.size x).alloc (Nat.le_refl _) (.cells #[] 92)))
  have HB := h.rd.hb
  obtain ⟨r0, hr0⟩ : ∃ r, r = rdS l [(0, 18446744073709551615)] 8 at' stuck := ⟨_, rfl⟩
  obtain ⟨r1, hr1⟩ : ∃ r, r = rdS l [(0, 18446744073709551615)] 8 r0.2.1 r0.2.2 := ⟨_, rfl⟩
  obtain ⟨r2, hr2⟩ : ∃ r, r = rdS l [(0, 18446744073709551615)] 8 r1.2.1 r1.2.2 := ⟨_, rfl⟩
  obtain ⟨r3, hr3⟩ : ∃ r, r = rdS l [(0, 18446744073709551615)] 8 r2.2.1 r2.2.2 := ⟨_, rfl⟩
  have HF1 : Hid (fieldF l p at' stuck .ids = ({ p with g0 := r0.1, g1 := r1.1, g2 := r2.1, g3 := r3.1 }, r3.2)) := hide (by rw [hr3, hr2, hr1, hr0]; rfl)
  have HX : Hid (r0.1 < 18446744073709551616 ∧ r1.1 < 18446744073709551616 ∧ r2.1 < 18446744073709551616 ∧ r3.1 < 18446744073709551616) := hide ⟨by rw [hr0]; exact rdS_lt HB, by rw [hr1]; exact rdS_lt HB, by rw [hr2]; exact rdS_lt HB, by rw [hr3]; exact rdS_lt HB⟩
  have HI0 := hide (ds_ident HD.out)
  have HI1 := hide fun y (hy : DS w y B rb pb b off cap l r0.2.1 r0.2.2 p v) => ds_ident hy
  have HI2 := hide fun y (hy : DS w y B rb pb b off cap l r1.2.1 r1.2.2 p v) => ds_ident hy
  have HI3 := hide fun y (hy : DS w y B rb pb b off cap l r2.2.1 r2.2.2 p v) => ds_ident hy
  rw [← hr0] at HI0
  rw [← hr1] at HI1
  rw [← hr2] at HI2
  rw [← hr3] at HI3
  have HST : Hid (∀ y, DS w y B rb pb b off cap l r3.2.1 r3.2.2 p v → DS w ((((y.setCell ⟨pb, 5, none⟩ (.int .u64 (r0.1 : Int))).setCell ⟨pb, 6, none⟩ (.int .u64 (r1.1 : Int))).setCell ⟨pb, 7, none⟩ (.int .u64 (r2.1 : Int))).setCell ⟨pb, 8, none⟩ (.int .u64 (r3.1 : Int))) B rb pb b off cap l r3.2.1 r3.2.2 { p with g0 := r0.1, g1 := r1.1, g2 := r2.1, g3 := r3.1 } v) := hide fun y hy =>
    hy.put (hy.pm.setG _ _ _ _ HX.out.1 HX.out.2.1 HX.out.2.2.1 HX.out.2.2.2) (((((Oth.refl pb y).set 5 _).set 6 _).set 7 _).set 8 _) hy.vr hy.vn
  have m1 := as_idents_number
  have m2 := as_idents_idents
  unfold Fd.val
  clear h hr0 hr1 hr2 hr3 HB
  obtain ⟨r01, r02, r03⟩ := r0
  obtain ⟨r11, r12, r13⟩ := r1
  obtain ⟨r21, r22, r23⟩ := r2
  obtain ⟨r31, r32, r33⟩ := r3
  simp only at *
  go_enter Tryd.func24, Tryd.ntmps24
  go_wp2_with (first
    | (go_at_call 39; refine HI0.out.mono ?_; rintro e' y0 ⟨rfl, hd0⟩; have HD0 := hide hd0; clear hd0 HI0)
    | (go_at_call 39; refine (HI1.out _ HD0.out).mono ?_; rintro e' y1 ⟨rfl, hd1⟩; have HD1 := hide hd1; clear hd1 HI1)
    | (go_at_call 39; refine (HI2.out _ HD1.out).mono ?_; rintro e' y2 ⟨rfl, hd2⟩; have HD2 := hide hd2; clear hd2 HI2)
    | (go_at_call 39; refine (HI3.out _ HD2.out).mono ?_; rintro e' y3 ⟨rfl, hd3⟩; have HD3 := hide hd3; obtain ⟨k5, k6, k7, k8⟩ := hd3.pm.gens; have f5 := hd3.pm.fz 5; have f6 := hd3.pm.fz 6; have f7 := hd3.pm.fz 7; have f8 := hd3.pm.fz 8; clear hd3 HI3))
  go_end0
  exact ⟨rfl, v, by rw [HF1.out]; exact HST.out _ HD3.out⟩

set_option maxHeartbeats 2000000 in
theorem take_any (w : World) (rb b off cap at' c : Nat) (l : List Nat) (stuck : Bool) (h : Rd w rb b off cap l at' stuck) (hc : c ≤ 65535) (ha : at' ≤ l.length) (hbl : b < w.heap.size) :
    Calls Tryd.prog 41 #[.pointer (some ⟨rb, 0, none⟩), .int .i64 (c : Int)] w fun e' w' => ∃ v', e' = .returned v' ∧ Own w' w.heap.size v' (tkR l at' stuck c).1 ∧ Rd w' rb b off cap l (tkR l at' stuck c).2.1 (tkR l at' stuck c).2.2 ∧ Oth rb w w' := by
  by_cases h0 : stuck = true ∨ c = 0
  · have e : tkR l at' stuck c = ([], at', stuck) := by unfold tkR; rw [if_pos h0]
    rw [e]
    refine (take_none w rb b off cap at' c l stuck h hc h0).mono ?_
    rintro e' w' ⟨rfl, h1, h2⟩
    exact ⟨_, rfl, own_nil _ _, h1, h2⟩
  · have hs : stuck = false := by cases stuck <;> simp_all
    subst hs
    have hc0 : c ≠ 0 := by simp_all
    have hcap := h.h2
    have hlc := h.h1
    unfold maxLen at hcap
    have HR := hide h
    obtain ⟨c0, c1, c2, f1, f2⟩ := h.cells
    have b1 : ((c : Int) == 0) = false := by simp only [beq_eq_false_iff_ne]; omega
    by_cases hl : l.length - at' < c
    · have e : tkR l at' false c = ([], l.length, true) := by unfold tkR; rw [if_neg h0, if_pos hl]
      rw [e]
      have i1 : (l.length : Int) - (at' : Int) < (c : Int) := by omega
      have HFIN : Hid (∀ k, Rd (((w.drewN k).setCell ⟨rb, 1, none⟩ (.int .i64 (l.length : Int))).setCell ⟨rb, 2, none⟩ (.bool true)) rb b off cap l l.length true) := hide fun k => (((h.same rfl rfl : Rd (w.drewN k) rb b off cap l at' false).go l.length).stop)
      clear h h0 e
      go_enter Tryd.func41, Tryd.ntmps41
      go_wp2
      repeat (go_quiet (fail); go_wp2)
      go_ret
      exact ⟨_, rfl, own_nil _ _, HFIN.out _, (((Oth.refl rb w).drewN _).set 1 _).set 2 _⟩
    · have e : tkR l at' false c = (sg l at' c, at' + c, false) := by unfold tkR; rw [if_neg h0, if_neg hl]
      rw [e]
      have hsl : (sg l at' c).length = c := sg_len (by omega)
      have hbs : BSl w (.slice (some ⟨b, off, none⟩) l.length cap) l := ⟨_, cap, rfl, hlc, by unfold maxLen; omega, (fun e => by cases e), h.hb, fun _ => ⟨b, off, rfl, h.dat⟩⟩
      have HCL := hide fun k => cloneB_any _ _ (w.drewN k) (BSl.seg hbs at' c (by omega)) (by rw [hsl]; omega) (by rw [hsl]; omega)
      have HFIN : Hid (∀ y, Below w.heap.size w y → Rd (y.setCell ⟨rb, 1, none⟩ (.int .i64 ((at' + c : Nat) : Int))) rb b off cap l (at' + c) false ∧ y.cell? ⟨rb, 1, none⟩ = some (.int .i64 (at' : Int)) ∧ y.frozen? ⟨rb, 1, none⟩ = false) := hide fun y hy => ⟨(h.below hy).go _, (h.below hy).cells.2.1, (h.below hy).cells.2.2.2.1⟩
      have HRB : Hid (rb < w.heap.size) := hide (Array.getElem?_eq_some_iff.1 h.row).1
      generalize sg l at' c = sl at *
      have i1 : ¬ (l.length : Int) - (at' : Int) < (c : Int) := by omega
      have i2 : (at' : Int) + (c : Int) ≤ (cap : Int) := by omega
      have i3 : (at' : Int) ≤ (at' : Int) + (c : Int) := by omega
      have i4 : ¬ cap = at' := by omega
      have i5 : IntKind.i64.wrap ((at' : Int) + (c : Int)) = (at' : Int) + (c : Int) := by simp [IntKind.wrap, IntKind.bits, IntKind.signed]; omega
      have i6 : (0 : Int) ≤ (at' : Int) := by omega
      have i7 : (0 : Int) ≤ (at' : Int) + (c : Int) := by omega
      have i8 : ((at' : Int) + (c : Int)).toNat = at' + c := by omega
      have i9 : at' + c - at' = c := by omega
      clear h h0 e hbs
      go_enter Tryd.func41, Tryd.ntmps41
      go_wp2
      go_quiet (fail)
      go_wp2_with fail
      go_region_held3 (fun y => y.cell? ⟨rb, 0, none⟩ = some (.slice (some ⟨b, off, none⟩) l.length cap) ∧ y.cell? ⟨rb, 1, none⟩ = some (.int .i64 (at' : Int))) (first | exact ⟨c0, c1⟩ | exact HSY.out)
        ((go_at_call 31; refine (HCL.out _).mono ?_; rintro e' y ⟨v', rfl, ho', hb'⟩; have HO2 := hide ho'; have HB2 : Hid (Below w.heap.size w y) := hide ((show Below w.heap.size w (w.drewN _) from ⟨rfl, rfl, rfl, Nat.le_refl _, fun _ _ => rfl⟩).trans hb'); obtain ⟨g1, g2, g3⟩ := HFIN.out y HB2.out; have G1 := hide g1; have HSY : Hid (y.cell? ⟨rb, 0, none⟩ = some (.slice (some ⟨b, off, none⟩) l.length cap) ∧ y.cell? ⟨rb, 1, none⟩ = some (.int .i64 (at' : Int))) := hide ⟨(HB2.out.cell (p := ⟨rb, 0, none⟩) HRB.out).trans c0, g2⟩; clear ho' hb' g1 HCL))
      all_goals
        go_wp2_with fail
        go_ret
        have hrb := HRB.out
        have how : Own (y.setCell ⟨rb, 1, none⟩ (.int .i64 ((at' : Int) + (c : Int)))) w.heap.size v' sl := by
          obtain ⟨g0, cap0, hv0, hg0, _⟩ := HO2.out.shape (by rw [hsl]; omega)
          have hg0 : w.heap.size ≤ g0 := hg0
          refine (show Own y w.heap.size v' sl from HO2.out).keptIf fun g hg => Go.heap_setCell_other _ _ _ _ ?_
          rw [hv0] at hg
          simp [Value.ownBlock] at hg
          show g ≠ rb
          omega
        have hrd := G1.out
        rw [Int.natCast_add] at hrd
        exact ⟨_, rfl, how, hrd, ((Oth.refl rb w).below HB2.out).set 1 _⟩

theorem Own.block {w : World} {base g : Nat} {v : Value} {l : List Nat} (h : Own w base v l) (hg : v.ownBlock = some g) : base ≤ g ∧ g < w.heap.size := by
  rcases h.1.2 with ⟨e, h0⟩ | ⟨g', cap, cur, rfl, hb, hg', _⟩
  · rw [e] at hg; simp [Value.ownBlock] at hg
  · simp [Value.ownBlock] at hg
    subst hg
    exact ⟨hb, (Array.getElem?_eq_some_iff.1 hg').1⟩
theorem tkR_le {l : List Nat} {at' c : Nat} {stuck : Bool} (h : at' ≤ l.length) : (tkR l at' stuck c).2.1 ≤ l.length := by
  unfold tkR
  split
  · exact h
  · split
    · exact Nat.le_refl _
    · simp; omega
/-- bytes taken while a packet is read -/
theorem ds_take {w x : World} {B rb pb b off cap : Nat} {l : List Nat} {at' : Nat} {stuck : Bool} {p : PV} {v : Value} (h : DS w x B rb pb b off cap l at' stuck p v) (c : Nat) (hc : c ≤ 65535) :
    Calls Tryd.prog 41 #[.pointer (some ⟨rb, 0, none⟩), .int .i64 (c : Int)] x fun e' y => ∃ v', e' = .returned v' ∧ DS w y B rb pb b off cap l (tkR l at' stuck c).2.1 (tkR l at' stuck c).2.2 p v ∧ BSl y v' (tkR l at' stuck c).1 ∧ v'.ownBlock ≠ some rb ∧ v'.ownBlock ≠ some pb ∧ (∀ g, v'.ownBlock = some g → B ≤ g ∧ g < y.heap.size) := by
  have h1 := h.hB
  have hrl := (Array.getElem?_eq_some_iff.1 h.rd.row).1
  have hpl := h.pm.lt
  refine (take_any x rb b off cap at' c l stuck h.rd hc h.at_ (by omega)).mono ?_
  rintro e' y ⟨v', rfl, ho, hr, hoth⟩
  refine ⟨v', rfl, h.num hr hoth (tkR_le h.at_), ho.bsl, ?_⟩
  refine ⟨fun e => ?_, fun e => ?_, fun g e => ?_⟩
  · have := (ho.block e).1; omega
  · have := (ho.block e).1; omega
  · have := ho.block e; exact ⟨by omega, this.2⟩
end Go.Proofs.YtacjibfmhhmbcabDoor
