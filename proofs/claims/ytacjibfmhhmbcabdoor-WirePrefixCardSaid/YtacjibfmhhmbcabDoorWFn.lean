import Derived.Test.YtacjibfmhhmbcabDoorWDs
namespace Go.Proofs.YtacjibfmhhmbcabDoor
open Go.RowKit
set_option linter.unusedVariables false
set_option linter.unusedSimpArgs false
set_option maxRecDepth 20000

theorem spl_ne {w : World} {v : Value} {L : List (Nat × Nat)} {rb b off cap at' : Nat} {l : List Nat} {stuck : Bool} (h : SpL w v L) (hL : 0 < L.length) (hr : Rd w rb b off cap l at' stuck) : v.ownBlock ≠ some rb := by
  obtain ⟨b0, off0, cap0, rfl, h1, h2, h3, h4⟩ := h
  obtain ⟨c0, _⟩ := h4 0 hL
  intro e
  have e' : b0 = rb := by simpa [Value.ownBlock] using e
  subst e'
  rw [cell_of_row _ _ _ _ _ _ hr.row] at c0
  match off0, c0 with
  | 0, c0 => simp at c0
  | 1, c0 => simp at c0
  | 2, c0 => simp at c0
  | n + 3, c0 => simp at c0
theorem mayL_pos (n a b : Nat) : 0 < (mayL n a b).length := by
  unfold mayL
  split <;> try split <;> try split <;> try split
  all_goals simp
theorem smayL_pos (t : Bool) (e : Nat) : 0 < (smayL t e).length := by unfold smayL; split <;> simp
theorem dmayL_pos (lo hi : Nat) (t : Bool) (e : Nat) : 0 < (dmayL lo hi t e).length := by unfold dmayL; split <;> simp
/-- a number read while a packet is read -/
theorem ds_number {w x : World} {B rb pb b off cap : Nat} {l : List Nat} {at' : Nat} {stuck : Bool} {p : PV} {v : Value} (h : DS w x B rb pb b off cap l at' stuck p v) (sv : Value) (L : List (Nat × Nat)) (hs : SpL x sv L) (hL : 0 < L.length) (width : Nat) (hw : 0 < width) (hw8 : width ≤ 8) :
    Calls Tryd.prog 22 #[.pointer (some ⟨rb, 0, none⟩), .int .i64 (width : Int), sv] x fun e' y => e' = .returned (.int .u64 ((rdS l L width at' stuck).1 : Nat)) ∧ DS w y B rb pb b off cap l (rdS l L width at' stuck).2.1 (rdS l L width at' stuck).2.2 p v := by
  refine (number_all x rb b off cap at' width l L sv stuck h.rd hs (spl_ne hs hL h.rd) hw hw8 h.at_).mono ?_
  rintro e' y ⟨rfl, h1, h2⟩
  exact ⟨rfl, h.num h1 h2 (rdS_le h.at_).2⟩
theorem DS.drew {w x : World} {B rb pb b off cap : Nat} {l : List Nat} {at' : Nat} {stuck : Bool} {p : PV} {v : Value} (h : DS w x B rb pb b off cap l at' stuck p v) : DS w x.drew B rb pb b off cap l at' stuck p v := h.below ⟨rfl, rfl, rfl, Nat.le_refl _, fun _ _ => rfl⟩

set_option maxHeartbeats 2000000 in
theorem field_num (n : Nat) (hn : n < 18) : FieldSpec (.num n) := by
  intro w x B rb pb b off cap l at' stuck p v h
  have HD := hide h.drew
  obtain ⟨c0, c1, c2, c3, c4⟩ := HD.out.pm.five
  obtain ⟨t0, _, _⟩ := HD.out.tab n hn
  obtain ⟨hpl, _, _⟩ := bnd_lt n hn
  have HM := hide (may_any x.drew n p.a p.b p.c p.d p.e HD.out.tab hn h.pm.ok.a h.pm.ok.b)
  have HN := hide fun y sv (hy : DS w y B rb pb b off cap l at' stuck p v) (hs : SpL y sv (mayL n p.a p.b)) => ds_number hy sv _ hs (mayL_pos n p.a p.b) 4 (by decide) (by decide)
  have HX : Hid ((rdS l (mayL n p.a p.b) 4 at' stuck).1 < 4294967296) := hide (rdS_lt h.rd.hb)
  have HF1 : Hid ((fieldF l p at' stuck (.num n)) = (p.set (bnd n).1 (rdS l (mayL n p.a p.b) 4 at' stuck).1, (rdS l (mayL n p.a p.b) 4 at' stuck).2)) := hide rfl
  generalize hL : mayL n p.a p.b = L at *
  generalize hr : rdS l L 4 at' stuck = r at *
  have HCL : Hid (∀ at2 st2 y, DS w y B rb pb b off cap l at2 st2 p v → (y.cell? ⟨pb, 0, none⟩ = some (.int .u32 (p.a : Int)) ∧ y.cell? ⟨pb, 1, none⟩ = some (.int .u32 (p.b : Int)) ∧ y.cell? ⟨pb, 2, none⟩ = some (.int .u32 (p.c : Int)) ∧ y.cell? ⟨pb, 3, none⟩ = some (.int .u32 (p.d : Int)) ∧ y.cell? ⟨pb, 4, none⟩ = some (.int .u32 (p.e : Int))) ∧ y.cell? ⟨0, n * 3, none⟩ = some (.int .i64 ((bnd n).1 : Nat)) ∧ (∃ z, y.cell? ⟨pb, (bnd n).1, none⟩ = some z) ∧ y.frozen? ⟨pb, (bnd n).1, none⟩ = false) := hide fun at2 st2 y hy =>
    ⟨hy.pm.five, (hy.tab n hn).1, ⟨_, hy.pm.five.at hpl⟩, hy.pm.fz _⟩
  have HST : Hid (∀ y, DS w y B rb pb b off cap l r.2.1 r.2.2 p v → DS w (y.setCell ⟨pb, (bnd n).1, none⟩ (.int .u32 (r.1 : Int))) B rb pb b off cap l r.2.1 r.2.2 (p.set (bnd n).1 r.1) v) := hide fun y hy => hy.put (hy.pm.setN _ _ hpl HX.out) ((Oth.refl pb y).set _ _) hy.vr hy.vn
  have m1 := as_number_number
  unfold Fd.val
  unfold aheadV at HM
  generalize p.a = pa at *
  generalize p.b = pb' at *
  generalize p.c = pc at *
  generalize p.d = pd at *
  generalize p.e = pe at *
  generalize hbn : (bnd n).1 = pl at *
  have i1 : (n : Int) < 18 := by omega
  have i2 : (pl : Int) < 5 := by omega
  have hwx : IntKind.u32.wrap ((r.1 : Nat) : Int) = ((r.1 : Nat) : Int) := by have := HX.out; simp [IntKind.wrap, IntKind.bits, IntKind.signed]; omega
  rename_i dd1 dd2 dd3 dd4
  clear dd1 dd2 dd3 dd4 h hL hr hbn
  obtain ⟨r1, r2, r3⟩ := r
  simp only at *
  go_enter Tryd.func24, Tryd.ntmps24
  go_wp2_with fail
  go_region_law (first
    | (refine step_callTo rfl 38 #[.int .i64 (n : Int), .agg #[.int .u32 (pa : Int), .int .u32 (pb' : Int), .int .u32 (pc : Int), .int .u32 (pd : Int), .int .u32 (pe : Int)]] (by kernel_rfl) HM.out (fun e w' h => by obtain ⟨v, rfl, _⟩ := h; exact ⟨_, rfl⟩) ?_; rintro v4 w4 ⟨sv, hv4, hs4, hb4⟩; injection hv4 with hv4; subst hv4; have HD4 := hide (HD.out.below hb4); have HSP := hide hs4; obtain ⟨⟨d0, d1, d2, d3, d4⟩, d5, ⟨d7, d8⟩, d6⟩ := HCL.out _ _ _ HD4.out; clear hs4 hb4)
    | (refine step_callTo rfl 22 #[.pointer (some ⟨rb, 0, none⟩), .int .i64 4, v4] (by kernel_rfl) (HN.out _ _ HD4.out HSP.out) (fun e w' h => ⟨_, h.1⟩) ?_; rintro v5 w5 ⟨hv5, hd5⟩; injection hv5 with hv5; subst hv5; have HD5 := hide hd5; obtain ⟨⟨e0, e1, e2, e3, e4⟩, e5, ⟨e7, e8⟩, e6⟩ := HCL.out _ _ _ HD5.out; clear hd5))
  all_goals
    (try simp only [Exit.inBlock])
    go_end0
    exact ⟨rfl, v, by rw [HF1.out]; exact HST.out _ HD5.out⟩
end Go.Proofs.YtacjibfmhhmbcabDoor
