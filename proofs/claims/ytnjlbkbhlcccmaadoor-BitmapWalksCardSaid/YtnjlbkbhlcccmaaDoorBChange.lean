import Derived.Test.YtnjlbkbhlcccmaaDoorBNews
import Derived.Test.YtnjlbkbhlcccmaaDoorBRef5
namespace Go.Proofs.YtnjlbkbhlcccmaaDoor
open Go.RowKit Go.Shelf
set_option linter.unusedVariables false
set_option linter.unusedSimpArgs false
set_option maxRecDepth 20000

/-- the two bitmaps and the pair lie apart: their types are their own -/
theorem Pr.disj {w : World} {pp k n B : Nat} {L : BL} {R : RL} (h : Pr w pp k L R n B) : (∀ b, L.U b → ¬ R.U b ∧ b ≠ pp) ∧ ∀ b, R.U b → b ≠ pp := by
  refine ⟨?_, ?_⟩
  · rintro b (rfl | rfl | rfl)
    · exact ⟨by rintro (e | e); exact neType h.m.hp h.r.hp (by decide) e; exact neType h.m.hp h.r.hb (by decide) e, neType h.m.hp h.row (by decide)⟩
    · exact ⟨by rintro (e | e); exact neType h.m.hlo h.r.hp (by decide) e; exact neType h.m.hlo h.r.hb (by decide) e, neType h.m.hlo h.row (by decide)⟩
    · exact ⟨by rintro (e | e); exact neType h.m.hhi h.r.hp (by decide) e; exact neType h.m.hhi h.r.hb (by decide) e, neType h.m.hhi h.row (by decide)⟩
  · rintro b (rfl | rfl)
    · exact neType h.r.hp h.row (by decide)
    · exact neType h.r.hb h.row (by decide)
/-- half way: the program's bitmap has turned, the document's has not -/
structure Half (w0 w : World) (pp k bx : Nat) (L : BL) (R : RL) (n B B' : Nat) (bxr : Array Value) : Prop where
  row : w.heap[pp]? = some (.cells #[PB L, PR R, .pointer (some ⟨k, 0, none⟩)] 36 (0, 0))
  m : BRep w L n B'
  r : RRep w R n B
  box : w.heap[bx]? = some (.cells bxr 39 (0, 0))
  chg : Chg (PU pp L R) w0 w
  d1 : ∀ b, L.U b → ¬ R.U b ∧ b ≠ pp ∧ b < bx
  d2 : ∀ b, R.U b → b ≠ pp ∧ b < bx
theorem Half.start {w : World} {pp k n B : Nat} {L : BL} {R : RL} (h : Pr w pp k L R n B) (bxr : Array Value) : Half w (w.alloc (.cells bxr 39)) pp k w.heap.size L R n B B bxr := by
  have hb := (Below.refl w.heap.size w).alloc (Nat.le_refl _) (.cells bxr 39)
  have hp := h.below hb
  exact ⟨hp.row, hp.m, hp.r, Go.heap_alloc_new w _, Chg.ofBelow hb, fun b e => ⟨(h.disj.1 b e).1, (h.disj.1 b e).2, h.lt b (.inr (.inl e))⟩, fun b e => ⟨h.disj.2 b e, h.lt b (.inr (.inr e))⟩⟩
theorem Half.drew {w0 w : World} {pp k bx n B B' : Nat} {L : BL} {R : RL} {bxr : Array Value} (h : Half w0 w pp k bx L R n B B' bxr) : Half w0 w.drew pp k bx L R n B B' bxr :=
  ⟨h.row, h.m.kept fun _ _ => rfl, h.r.kept fun _ _ => rfl, h.box, ⟨h.chg.os, h.chg.tape, h.chg.output, h.chg.size, h.chg.keep⟩, h.d1, h.d2⟩
theorem Half.turnM {w0 w w' : World} {pp k bx n B B' : Nat} {L : BL} {R : RL} {bxr : Array Value} (h : Half w0 w pp k bx L R n B B bxr) (hm : BRep w' L n B') (hc : Chg L.U w w') : Half w0 w' pp k bx L R n B B' bxr := by
  have hpp := (Array.getElem?_eq_some_iff.1 h.row).1
  have hbx := (Array.getElem?_eq_some_iff.1 h.box).1
  exact ⟨(hc.keep pp hpp fun e => (h.d1 pp e).2.1 rfl).trans h.row, hm, h.r.chg hc fun b e e2 => (h.d1 b e2).1 e, (hc.keep bx hbx fun e => by have := (h.d1 bx e).2.2; omega).trans h.box,
    h.chg.trans (hc.mono fun b _ e => .inr (.inl e)), h.d1, h.d2⟩
theorem Half.turnR {w0 w w' : World} {pp k bx n B B' : Nat} {L : BL} {R : RL} {bxr : Array Value} (h : Half w0 w pp k bx L R n B B' bxr) (hr : RRep w' R n B') (hc : Chg R.U w w') : Pr w' pp k L R n B' ∧ Chg (PU pp L R) w0 w' ∧ w'.heap[bx]? = some (.cells bxr 39 (0, 0)) := by
  have hpp := (Array.getElem?_eq_some_iff.1 h.row).1
  have hbx := (Array.getElem?_eq_some_iff.1 h.box).1
  exact ⟨⟨(hc.keep pp hpp fun e => (h.d2 pp e).1 rfl).trans h.row, h.m.chg hc fun b e e2 => (h.d1 b e).1 e2, hr⟩, h.chg.trans (hc.mono fun b _ e => .inr (.inr e)), (hc.keep bx hbx fun e => by have := (h.d2 bx e).2; omega).trans h.box⟩
theorem Half.c {w0 w : World} {pp k bx n B B' : Nat} {L : BL} {R : RL} {bxr : Array Value} (h : Half w0 w pp k bx L R n B B' bxr) (i : Nat) : w.cell? ⟨pp, i, none⟩ = (#[PB L, PR R, .pointer (some ⟨k, 0, none⟩)] : Array Value)[i]? := cell_of_row _ _ _ _ _ _ h.row
theorem Half.b {w0 w : World} {pp k bx n B B' : Nat} {L : BL} {R : RL} {bxr : Array Value} (h : Half w0 w pp k bx L R n B B' bxr) (i : Nat) : w.cell? ⟨bx, i, none⟩ = bxr[i]? := cell_of_row _ _ _ _ _ _ h.box

set_option maxHeartbeats 1000000 in
theorem change_1 {w : World} {pp k n B B' : Nat} {L : BL} {R : RL} (h : Pr w pp k L R n B) (A C er : Int) (rv : Bool) (s again : Bool) (a1 a2 a3 : Option Addr) (n1 n2 n3 c1 c2 c3 : Nat)
    (hM : ∀ x, BRep x L n B → Calls Tryd.prog 34 #[PB L, .int .i64 A] x fun e w' => e = .returned (.tuple #[.bool rv, .int .i64 er]) ∧ BRep w' L n B' ∧ Chg L.U x w')
    (hR : ∀ x, RRep x R n B → Calls Tryd.prog 35 #[PR R, .int .i64 A, .bool true] x fun e w' => e = .returned (.tuple #[.bool rv, .int .i64 er]) ∧ RRep w' R n B' ∧ Chg R.U x w') :
    Calls Tryd.prog 21 #[.pointer (some ⟨pp, 0, none⟩), opA 1 A C s again a1 a2 a3 n1 n2 n3 c1 c2 c3] w fun e w' => e = .returned (.bool true) ∧ Pr w' pp k L R n B' ∧ Chg (PU pp L R) w w' := by
  unfold opA
  have HM := hide hM
  have HR := hide hR
  have HH := hide (Half.start h #[.int .i64 1, .bool s, .int .i64 A, .int .i64 C, .slice a1 n1 c1, .slice a2 n2 c2, .slice a3 n3 c3, .bool again])
  have p0 := HH.out.c 0
  have p2 := HH.out.b 2
  have p3 := HH.out.b 3
  simp only [PB, PR] at p0 HM HR
  clear h hM hR
  go_enter Tryd.func21, Tryd.ntmps21
  go_wp2
  go_region_held3 (fun w' => w'.cell? ⟨pp, 0, none⟩ = some (.pointer (some ⟨L.p, 0, none⟩)) ∧ w'.cell? ⟨w.heap.size, 2, none⟩ = some (.int .i64 A)) (first | exact ⟨p0, p2⟩ | exact ⟨q0, q2⟩)
    ((go_at_call 34; refine (HM.out _ HH.out.drew.m).mono ?_; rintro e w2 ⟨rfl, hB2, hC2⟩; have HH2 := hide (HH.out.drew.turnM hB2 hC2); have q0 := HH2.out.c 0; simp only [PB, PR] at q0; have q2 := HH2.out.b 2;  clear hB2 hC2))
  all_goals
    have r0 := HH2.out.c 1; simp only [PB, PR] at r0; have r2 := HH2.out.b 2
    go_wp2_with fail
    go_region_held3 (fun w' => w'.cell? ⟨pp, 1, none⟩ = some (.pointer (some ⟨R.p, 0, none⟩)) ∧ w'.cell? ⟨w.heap.size, 2, none⟩ = some (.int .i64 A)) (first | exact ⟨r0, r2⟩ | exact ⟨z0, z2⟩)
      ((go_at_call 35; refine (HR.out _ HH2.out.drew.r).mono ?_; rintro e w3 ⟨rfl, hB3, hC3⟩; have HF := hide (HH2.out.drew.turnR hB3 hC3); have z0 : w3.cell? ⟨pp, 1, none⟩ = some (.pointer (some ⟨R.p, 0, none⟩)) := HF.out.1.c 1; have z2 : w3.cell? ⟨w.heap.size, 2, none⟩ = some (.int .i64 A) := (by rw [cell_of_row _ _ _ _ _ _ HF.out.2.2]; rfl);  clear hB3 hC3))
    all_goals
      go_wp2_with fail
      go_ret
      exact ⟨rfl, HF.out.1, HF.out.2.1⟩

set_option maxHeartbeats 1000000 in
theorem change_2 {w : World} {pp k n B B' : Nat} {L : BL} {R : RL} (h : Pr w pp k L R n B) (A C er : Int) (rv : Bool) (s again : Bool) (a1 a2 a3 : Option Addr) (n1 n2 n3 c1 c2 c3 : Nat)
    (hM : ∀ x, BRep x L n B → Calls Tryd.prog 36 #[PB L, .int .i64 A] x fun e w' => e = .returned (.tuple #[.bool rv, .int .i64 er]) ∧ BRep w' L n B' ∧ Chg L.U x w')
    (hR : ∀ x, RRep x R n B → Calls Tryd.prog 35 #[PR R, .int .i64 A, .bool false] x fun e w' => e = .returned (.tuple #[.bool rv, .int .i64 er]) ∧ RRep w' R n B' ∧ Chg R.U x w') :
    Calls Tryd.prog 21 #[.pointer (some ⟨pp, 0, none⟩), opA 2 A C s again a1 a2 a3 n1 n2 n3 c1 c2 c3] w fun e w' => e = .returned (.bool true) ∧ Pr w' pp k L R n B' ∧ Chg (PU pp L R) w w' := by
  unfold opA
  have HM := hide hM
  have HR := hide hR
  have HH := hide (Half.start h #[.int .i64 2, .bool s, .int .i64 A, .int .i64 C, .slice a1 n1 c1, .slice a2 n2 c2, .slice a3 n3 c3, .bool again])
  have p0 := HH.out.c 0
  have p2 := HH.out.b 2
  have p3 := HH.out.b 3
  simp only [PB, PR] at p0 HM HR
  clear h hM hR
  go_enter Tryd.func21, Tryd.ntmps21
  go_wp2
  go_region_held3 (fun w' => w'.cell? ⟨pp, 0, none⟩ = some (.pointer (some ⟨L.p, 0, none⟩)) ∧ w'.cell? ⟨w.heap.size, 2, none⟩ = some (.int .i64 A)) (first | exact ⟨p0, p2⟩ | exact ⟨q0, q2⟩)
    ((go_at_call 36; refine (HM.out _ HH.out.drew.m).mono ?_; rintro e w2 ⟨rfl, hB2, hC2⟩; have HH2 := hide (HH.out.drew.turnM hB2 hC2); have q0 := HH2.out.c 0; simp only [PB, PR] at q0; have q2 := HH2.out.b 2;  clear hB2 hC2))
  all_goals
    have r0 := HH2.out.c 1; simp only [PB, PR] at r0; have r2 := HH2.out.b 2
    go_wp2_with fail
    go_region_held3 (fun w' => w'.cell? ⟨pp, 1, none⟩ = some (.pointer (some ⟨R.p, 0, none⟩)) ∧ w'.cell? ⟨w.heap.size, 2, none⟩ = some (.int .i64 A)) (first | exact ⟨r0, r2⟩ | exact ⟨z0, z2⟩)
      ((go_at_call 35; refine (HR.out _ HH2.out.drew.r).mono ?_; rintro e w3 ⟨rfl, hB3, hC3⟩; have HF := hide (HH2.out.drew.turnR hB3 hC3); have z0 : w3.cell? ⟨pp, 1, none⟩ = some (.pointer (some ⟨R.p, 0, none⟩)) := HF.out.1.c 1; have z2 : w3.cell? ⟨w.heap.size, 2, none⟩ = some (.int .i64 A) := (by rw [cell_of_row _ _ _ _ _ _ HF.out.2.2]; rfl);  clear hB3 hC3))
    all_goals
      go_wp2_with fail
      go_ret
      exact ⟨rfl, HF.out.1, HF.out.2.1⟩

set_option maxHeartbeats 1000000 in
theorem change_3 {w : World} {pp k n B B' : Nat} {L : BL} {R : RL} (h : Pr w pp k L R n B) (A C er : Int) (rv : Int) (s again : Bool) (a1 a2 a3 : Option Addr) (n1 n2 n3 c1 c2 c3 : Nat)
    (hM : ∀ x, BRep x L n B → Calls Tryd.prog 37 #[PB L, .int .i64 A, .int .i64 C] x fun e w' => e = .returned (.tuple #[.int .i64 rv, .int .i64 er]) ∧ BRep w' L n B' ∧ Chg L.U x w')
    (hR : ∀ x, RRep x R n B → Calls Tryd.prog 38 #[PR R, .int .i64 A, .int .i64 C, .bool true] x fun e w' => e = .returned (.tuple #[.int .i64 rv, .int .i64 er]) ∧ RRep w' R n B' ∧ Chg R.U x w') :
    Calls Tryd.prog 21 #[.pointer (some ⟨pp, 0, none⟩), opA 3 A C s again a1 a2 a3 n1 n2 n3 c1 c2 c3] w fun e w' => e = .returned (.bool true) ∧ Pr w' pp k L R n B' ∧ Chg (PU pp L R) w w' := by
  unfold opA
  have HM := hide hM
  have HR := hide hR
  have HH := hide (Half.start h #[.int .i64 3, .bool s, .int .i64 A, .int .i64 C, .slice a1 n1 c1, .slice a2 n2 c2, .slice a3 n3 c3, .bool again])
  have p0 := HH.out.c 0
  have p2 := HH.out.b 2
  have p3 := HH.out.b 3
  simp only [PB, PR] at p0 HM HR
  clear h hM hR
  go_enter Tryd.func21, Tryd.ntmps21
  go_wp2
  go_region_held3 (fun w' => w'.cell? ⟨pp, 0, none⟩ = some (.pointer (some ⟨L.p, 0, none⟩)) ∧ w'.cell? ⟨w.heap.size, 2, none⟩ = some (.int .i64 A) ∧ w'.cell? ⟨w.heap.size, 3, none⟩ = some (.int .i64 C)) (first | exact ⟨p0, p2, p3⟩ | exact ⟨q0, q2, q3⟩)
    ((go_at_call 37; refine (HM.out _ HH.out.drew.m).mono ?_; rintro e w2 ⟨rfl, hB2, hC2⟩; have HH2 := hide (HH.out.drew.turnM hB2 hC2); have q0 := HH2.out.c 0; simp only [PB, PR] at q0; have q2 := HH2.out.b 2; have q3 := HH2.out.b 3;  clear hB2 hC2))
  all_goals
    have r0 := HH2.out.c 1; simp only [PB, PR] at r0; have r2 := HH2.out.b 2; have r3 := HH2.out.b 3
    go_wp2_with fail
    go_region_held3 (fun w' => w'.cell? ⟨pp, 1, none⟩ = some (.pointer (some ⟨R.p, 0, none⟩)) ∧ w'.cell? ⟨w.heap.size, 2, none⟩ = some (.int .i64 A) ∧ w'.cell? ⟨w.heap.size, 3, none⟩ = some (.int .i64 C)) (first | exact ⟨r0, r2, r3⟩ | exact ⟨z0, z2, z3⟩)
      ((go_at_call 38; refine (HR.out _ HH2.out.drew.r).mono ?_; rintro e w3 ⟨rfl, hB3, hC3⟩; have HF := hide (HH2.out.drew.turnR hB3 hC3); have z0 : w3.cell? ⟨pp, 1, none⟩ = some (.pointer (some ⟨R.p, 0, none⟩)) := HF.out.1.c 1; have z2 : w3.cell? ⟨w.heap.size, 2, none⟩ = some (.int .i64 A) := (by rw [cell_of_row _ _ _ _ _ _ HF.out.2.2]; rfl); have z3 : w3.cell? ⟨w.heap.size, 3, none⟩ = some (.int .i64 C) := (by rw [cell_of_row _ _ _ _ _ _ HF.out.2.2]; rfl);  clear hB3 hC3))
    all_goals
      go_wp2_with fail
      go_ret
      exact ⟨rfl, HF.out.1, HF.out.2.1⟩

set_option maxHeartbeats 1000000 in
theorem change_4 {w : World} {pp k n B B' : Nat} {L : BL} {R : RL} (h : Pr w pp k L R n B) (A C er : Int) (rv : Int) (s again : Bool) (a1 a2 a3 : Option Addr) (n1 n2 n3 c1 c2 c3 : Nat)
    (hM : ∀ x, BRep x L n B → Calls Tryd.prog 39 #[PB L, .int .i64 A, .int .i64 C] x fun e w' => e = .returned (.tuple #[.int .i64 rv, .int .i64 er]) ∧ BRep w' L n B' ∧ Chg L.U x w')
    (hR : ∀ x, RRep x R n B → Calls Tryd.prog 38 #[PR R, .int .i64 A, .int .i64 C, .bool false] x fun e w' => e = .returned (.tuple #[.int .i64 rv, .int .i64 er]) ∧ RRep w' R n B' ∧ Chg R.U x w') :
    Calls Tryd.prog 21 #[.pointer (some ⟨pp, 0, none⟩), opA 4 A C s again a1 a2 a3 n1 n2 n3 c1 c2 c3] w fun e w' => e = .returned (.bool true) ∧ Pr w' pp k L R n B' ∧ Chg (PU pp L R) w w' := by
  unfold opA
  have HM := hide hM
  have HR := hide hR
  have HH := hide (Half.start h #[.int .i64 4, .bool s, .int .i64 A, .int .i64 C, .slice a1 n1 c1, .slice a2 n2 c2, .slice a3 n3 c3, .bool again])
  have p0 := HH.out.c 0
  have p2 := HH.out.b 2
  have p3 := HH.out.b 3
  simp only [PB, PR] at p0 HM HR
  clear h hM hR
  go_enter Tryd.func21, Tryd.ntmps21
  go_wp2
  go_region_held3 (fun w' => w'.cell? ⟨pp, 0, none⟩ = some (.pointer (some ⟨L.p, 0, none⟩)) ∧ w'.cell? ⟨w.heap.size, 2, none⟩ = some (.int .i64 A) ∧ w'.cell? ⟨w.heap.size, 3, none⟩ = some (.int .i64 C)) (first | exact ⟨p0, p2, p3⟩ | exact ⟨q0, q2, q3⟩)
    ((go_at_call 39; refine (HM.out _ HH.out.drew.m).mono ?_; rintro e w2 ⟨rfl, hB2, hC2⟩; have HH2 := hide (HH.out.drew.turnM hB2 hC2); have q0 := HH2.out.c 0; simp only [PB, PR] at q0; have q2 := HH2.out.b 2; have q3 := HH2.out.b 3;  clear hB2 hC2))
  all_goals
    have r0 := HH2.out.c 1; simp only [PB, PR] at r0; have r2 := HH2.out.b 2; have r3 := HH2.out.b 3
    go_wp2_with fail
    go_region_held3 (fun w' => w'.cell? ⟨pp, 1, none⟩ = some (.pointer (some ⟨R.p, 0, none⟩)) ∧ w'.cell? ⟨w.heap.size, 2, none⟩ = some (.int .i64 A) ∧ w'.cell? ⟨w.heap.size, 3, none⟩ = some (.int .i64 C)) (first | exact ⟨r0, r2, r3⟩ | exact ⟨z0, z2, z3⟩)
      ((go_at_call 38; refine (HR.out _ HH2.out.drew.r).mono ?_; rintro e w3 ⟨rfl, hB3, hC3⟩; have HF := hide (HH2.out.drew.turnR hB3 hC3); have z0 : w3.cell? ⟨pp, 1, none⟩ = some (.pointer (some ⟨R.p, 0, none⟩)) := HF.out.1.c 1; have z2 : w3.cell? ⟨w.heap.size, 2, none⟩ = some (.int .i64 A) := (by rw [cell_of_row _ _ _ _ _ _ HF.out.2.2]; rfl); have z3 : w3.cell? ⟨w.heap.size, 3, none⟩ = some (.int .i64 C) := (by rw [cell_of_row _ _ _ _ _ _ HF.out.2.2]; rfl);  clear hB3 hC3))
    all_goals
      go_wp2_with fail
      go_ret
      exact ⟨rfl, HF.out.1, HF.out.2.1⟩

set_option maxHeartbeats 1000000 in
theorem ask_6 {w : World} {pp k n B B' : Nat} {L : BL} {R : RL} (h : Pr w pp k L R n B) (A C er : Int) (rv : Bool) (s again : Bool) (a1 a2 a3 : Option Addr) (n1 n2 n3 c1 c2 c3 : Nat)
    (hM : ∀ x, BRep x L n B → Calls Tryd.prog 41 #[PB L, .int .i64 A] x fun e w' => e = .returned (.tuple #[.bool rv, .int .i64 er]) ∧ BRep w' L n B' ∧ Chg L.U x w')
    (hR : ∀ x, RRep x R n B → Calls Tryd.prog 42 #[PR R, .int .i64 A] x fun e w' => e = .returned (.tuple #[.bool rv, .int .i64 er]) ∧ RRep w' R n B' ∧ Chg R.U x w') :
    Calls Tryd.prog 22 #[.pointer (some ⟨pp, 0, none⟩), opA 6 A C s again a1 a2 a3 n1 n2 n3 c1 c2 c3] w fun e w' => e = .returned (.bool true) ∧ Pr w' pp k L R n B' ∧ Chg (PU pp L R) w w' := by
  unfold opA
  have HM := hide hM
  have HR := hide hR
  have HH := hide (Half.start h #[.int .i64 6, .bool s, .int .i64 A, .int .i64 C, .slice a1 n1 c1, .slice a2 n2 c2, .slice a3 n3 c3, .bool again])
  have p0 := HH.out.c 0
  have p2 := HH.out.b 2
  have p3 := HH.out.b 3
  simp only [PB, PR] at p0 HM HR
  clear h hM hR
  go_enter Tryd.func22, Tryd.ntmps22
  go_wp2
  go_region_held3 (fun w' => w'.cell? ⟨pp, 0, none⟩ = some (.pointer (some ⟨L.p, 0, none⟩)) ∧ w'.cell? ⟨w.heap.size, 2, none⟩ = some (.int .i64 A)) (first | exact ⟨p0, p2⟩ | exact ⟨q0, q2⟩)
    ((go_at_call 41; refine (HM.out _ HH.out.drew.m).mono ?_; rintro e w2 ⟨rfl, hB2, hC2⟩; have HH2 := hide (HH.out.drew.turnM hB2 hC2); have q0 := HH2.out.c 0; simp only [PB, PR] at q0; have q2 := HH2.out.b 2;  clear hB2 hC2))
  all_goals
    have r0 := HH2.out.c 1; simp only [PB, PR] at r0; have r2 := HH2.out.b 2
    go_wp2_with fail
    go_region_held3 (fun w' => w'.cell? ⟨pp, 1, none⟩ = some (.pointer (some ⟨R.p, 0, none⟩)) ∧ w'.cell? ⟨w.heap.size, 2, none⟩ = some (.int .i64 A)) (first | exact ⟨r0, r2⟩ | exact ⟨z0, z2⟩)
      ((go_at_call 42; refine (HR.out _ HH2.out.drew.r).mono ?_; rintro e w3 ⟨rfl, hB3, hC3⟩; have HF := hide (HH2.out.drew.turnR hB3 hC3); have z0 : w3.cell? ⟨pp, 1, none⟩ = some (.pointer (some ⟨R.p, 0, none⟩)) := HF.out.1.c 1; have z2 : w3.cell? ⟨w.heap.size, 2, none⟩ = some (.int .i64 A) := (by rw [cell_of_row _ _ _ _ _ _ HF.out.2.2]; rfl);  clear hB3 hC3))
    all_goals
      go_wp2_with fail
      go_ret
      exact ⟨rfl, HF.out.1, HF.out.2.1⟩

set_option maxHeartbeats 1000000 in
theorem ask_8 {w : World} {pp k n B B' : Nat} {L : BL} {R : RL} (h : Pr w pp k L R n B) (A C er : Int) (rv : Int) (s again : Bool) (a1 a2 a3 : Option Addr) (n1 n2 n3 c1 c2 c3 : Nat)
    (hM : ∀ x, BRep x L n B → Calls Tryd.prog 45 #[PB L, .int .i64 A, .int .i64 C] x fun e w' => e = .returned (.tuple #[.int .i64 rv, .int .i64 er]) ∧ BRep w' L n B' ∧ Chg L.U x w')
    (hR : ∀ x, RRep x R n B → Calls Tryd.prog 46 #[PR R, .int .i64 A, .int .i64 C] x fun e w' => e = .returned (.tuple #[.int .i64 rv, .int .i64 er]) ∧ RRep w' R n B' ∧ Chg R.U x w') :
    Calls Tryd.prog 22 #[.pointer (some ⟨pp, 0, none⟩), opA 8 A C s again a1 a2 a3 n1 n2 n3 c1 c2 c3] w fun e w' => e = .returned (.bool true) ∧ Pr w' pp k L R n B' ∧ Chg (PU pp L R) w w' := by
  unfold opA
  have HM := hide hM
  have HR := hide hR
  have HH := hide (Half.start h #[.int .i64 8, .bool s, .int .i64 A, .int .i64 C, .slice a1 n1 c1, .slice a2 n2 c2, .slice a3 n3 c3, .bool again])
  have p0 := HH.out.c 0
  have p2 := HH.out.b 2
  have p3 := HH.out.b 3
  simp only [PB, PR] at p0 HM HR
  clear h hM hR
  go_enter Tryd.func22, Tryd.ntmps22
  go_wp2
  go_region_held3 (fun w' => w'.cell? ⟨pp, 0, none⟩ = some (.pointer (some ⟨L.p, 0, none⟩)) ∧ w'.cell? ⟨w.heap.size, 2, none⟩ = some (.int .i64 A) ∧ w'.cell? ⟨w.heap.size, 3, none⟩ = some (.int .i64 C)) (first | exact ⟨p0, p2, p3⟩ | exact ⟨q0, q2, q3⟩)
    ((go_at_call 45; refine (HM.out _ HH.out.drew.m).mono ?_; rintro e w2 ⟨rfl, hB2, hC2⟩; have HH2 := hide (HH.out.drew.turnM hB2 hC2); have q0 := HH2.out.c 0; simp only [PB, PR] at q0; have q2 := HH2.out.b 2; have q3 := HH2.out.b 3;  clear hB2 hC2))
  all_goals
    have r0 := HH2.out.c 1; simp only [PB, PR] at r0; have r2 := HH2.out.b 2; have r3 := HH2.out.b 3
    go_wp2_with fail
    go_region_held3 (fun w' => w'.cell? ⟨pp, 1, none⟩ = some (.pointer (some ⟨R.p, 0, none⟩)) ∧ w'.cell? ⟨w.heap.size, 2, none⟩ = some (.int .i64 A) ∧ w'.cell? ⟨w.heap.size, 3, none⟩ = some (.int .i64 C)) (first | exact ⟨r0, r2, r3⟩ | exact ⟨z0, z2, z3⟩)
      ((go_at_call 46; refine (HR.out _ HH2.out.drew.r).mono ?_; rintro e w3 ⟨rfl, hB3, hC3⟩; have HF := hide (HH2.out.drew.turnR hB3 hC3); have z0 : w3.cell? ⟨pp, 1, none⟩ = some (.pointer (some ⟨R.p, 0, none⟩)) := HF.out.1.c 1; have z2 : w3.cell? ⟨w.heap.size, 2, none⟩ = some (.int .i64 A) := (by rw [cell_of_row _ _ _ _ _ _ HF.out.2.2]; rfl); have z3 : w3.cell? ⟨w.heap.size, 3, none⟩ = some (.int .i64 C) := (by rw [cell_of_row _ _ _ _ _ _ HF.out.2.2]; rfl);  clear hB3 hC3))
    all_goals
      go_wp2_with fail
      go_ret
      exact ⟨rfl, HF.out.1, HF.out.2.1⟩

set_option maxHeartbeats 1000000 in
theorem ask_9 {w : World} {pp k n B : Nat} {L : BL} {R : RL} (h : Pr w pp k L R n B) (A C rv : Int) (s again : Bool) (a1 a2 a3 : Option Addr) (n1 n2 n3 c1 c2 c3 : Nat)
    (hM : ∀ x, Below w.heap.size w x → BRep x L n B → Calls Tryd.prog 32 #[PB L, .int .i64 A] x fun e w' => e = .returned (.int .i64 rv) ∧ w' = x)
    (hR : ∀ x, RRep x R n B → Calls Tryd.prog 19 #[PR R, .int .i64 A, .bool true] x fun e w' => e = .returned (.int .i64 rv) ∧ w' = x) :
    Calls Tryd.prog 22 #[.pointer (some ⟨pp, 0, none⟩), opA 9 A C s again a1 a2 a3 n1 n2 n3 c1 c2 c3] w fun e w' => e = .returned (.bool true) ∧ Pr w' pp k L R n B ∧ Chg (PU pp L R) w w' := by
  unfold opA
  have HM := hide hM
  have HR := hide hR
  have HBE := hide (Below.drew ((Below.refl w.heap.size w).alloc (Nat.le_refl _) (.cells #[.int .i64 9, .bool s, .int .i64 A, .int .i64 C, .slice a1 n1 c1, .slice a2 n2 c2, .slice a3 n3 c3, .bool again] 39)))
  have HH := hide (Half.start h #[.int .i64 9, .bool s, .int .i64 A, .int .i64 C, .slice a1 n1 c1, .slice a2 n2 c2, .slice a3 n3 c3, .bool again])
  have HP := hide (h.below HBE.out)
  have p0 := HH.out.c 0
  have p1 := HH.out.c 1
  have p2 := HH.out.b 2
  simp only [PB, PR] at p0 p1 HM HR
  clear h hM hR
  go_enter Tryd.func22, Tryd.ntmps22
  go_wp2
  go_region_held3 (fun w' => w'.cell? ⟨pp, 0, none⟩ = some (.pointer (some ⟨L.p, 0, none⟩)) ∧ w'.cell? ⟨pp, 1, none⟩ = some (.pointer (some ⟨R.p, 0, none⟩)) ∧ w'.cell? ⟨w.heap.size, 2, none⟩ = some (.int .i64 A)) (exact ⟨p0, p1, p2⟩)
    (first
      | (go_at_call 32; refine (HM.out _ HBE.out HH.out.drew.m).mono ?_; rintro e w' ⟨rfl, rfl⟩)
      | (go_at_call 19; refine (HR.out _ HH.out.drew.r).mono ?_; rintro e w' ⟨rfl, rfl⟩))
  all_goals
    go_wp2_with fail
    go_ret
    exact ⟨rfl, HP.out, Chg.ofBelow HBE.out⟩

set_option maxHeartbeats 1000000 in
theorem ask_10 {w : World} {pp k n B : Nat} {L : BL} {R : RL} (h : Pr w pp k L R n B) (A C rv : Int) (s again : Bool) (a1 a2 a3 : Option Addr) (n1 n2 n3 c1 c2 c3 : Nat)
    (hM : ∀ x, Below w.heap.size w x → BRep x L n B → Calls Tryd.prog 47 #[PB L, .int .i64 A] x fun e w' => e = .returned (.int .i64 rv) ∧ w' = x)
    (hR : ∀ x, RRep x R n B → Calls Tryd.prog 19 #[PR R, .int .i64 A, .bool false] x fun e w' => e = .returned (.int .i64 rv) ∧ w' = x) :
    Calls Tryd.prog 22 #[.pointer (some ⟨pp, 0, none⟩), opA 10 A C s again a1 a2 a3 n1 n2 n3 c1 c2 c3] w fun e w' => e = .returned (.bool true) ∧ Pr w' pp k L R n B ∧ Chg (PU pp L R) w w' := by
  unfold opA
  have HM := hide hM
  have HR := hide hR
  have HBE := hide (Below.drew ((Below.refl w.heap.size w).alloc (Nat.le_refl _) (.cells #[.int .i64 10, .bool s, .int .i64 A, .int .i64 C, .slice a1 n1 c1, .slice a2 n2 c2, .slice a3 n3 c3, .bool again] 39)))
  have HH := hide (Half.start h #[.int .i64 10, .bool s, .int .i64 A, .int .i64 C, .slice a1 n1 c1, .slice a2 n2 c2, .slice a3 n3 c3, .bool again])
  have HP := hide (h.below HBE.out)
  have p0 := HH.out.c 0
  have p1 := HH.out.c 1
  have p2 := HH.out.b 2
  simp only [PB, PR] at p0 p1 HM HR
  clear h hM hR
  go_enter Tryd.func22, Tryd.ntmps22
  go_wp2
  go_region_held3 (fun w' => w'.cell? ⟨pp, 0, none⟩ = some (.pointer (some ⟨L.p, 0, none⟩)) ∧ w'.cell? ⟨pp, 1, none⟩ = some (.pointer (some ⟨R.p, 0, none⟩)) ∧ w'.cell? ⟨w.heap.size, 2, none⟩ = some (.int .i64 A)) (exact ⟨p0, p1, p2⟩)
    (first
      | (go_at_call 47; refine (HM.out _ HBE.out HH.out.drew.m).mono ?_; rintro e w' ⟨rfl, rfl⟩)
      | (go_at_call 19; refine (HR.out _ HH.out.drew.r).mono ?_; rintro e w' ⟨rfl, rfl⟩))
  all_goals
    go_wp2_with fail
    go_ret
    exact ⟨rfl, HP.out, Chg.ofBelow HBE.out⟩
end Go.Proofs.YtnjlbkbhlcccmaaDoor
