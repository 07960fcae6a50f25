import Derived.Test.YtlmfdbimchhjjabIdCmp
namespace Go.Proofs.Ytlmfdbimchhjjab
open Go.RowKit
set_option linter.unusedVariables false
set_option linter.unusedSimpArgs false
set_option maxRecDepth 20000

theorem mt_comm (x y : Int) : mt x y = mt y x := by
  unfold mt
  by_cases h : x = y
  · rw [h]
  · have h1 : (x == y) = false := beq_false_of_ne h
    have h2 : (y == x) = false := beq_false_of_ne fun e => h e.symm
    rw [h1, h2]
    rfl
theorem sho_tu (P : Pr) : P.tu.sho = P.sho := by
  obtain ⟨⟨c, b, o1, o2⟩, x, ⟨c', b', p1, p2⟩, y, f⟩ := P
  simp only [Pr.sho, Pr.hit, Gn.hip, Pr.tu]
  rw [mt_comm b' b, mt_comm b' o1, mt_comm b' o2, mt_comm p1 b, mt_comm p1 o1, mt_comm p1 o2, mt_comm p2 b, mt_comm p2 o1, mt_comm p2 o2]
  generalize mt b b' = q1
  generalize mt o1 b' = q2
  generalize mt o2 b' = q3
  generalize mt b p1 = q4
  generalize mt o1 p1 = q5
  generalize mt o2 p1 = q6
  generalize mt b p2 = q7
  generalize mt o1 p2 = q8
  generalize mt o2 p2 = q9
  revert q1 q2 q3 q4 q5 q6 q7 q8 q9
  decide
/-- the verdict at node 0, of what is asked there -/
def rf (N1 N2 E x y Z1 Z2 am bm ao bo m sh : Bool) : Int × Int :=
  if N1 && N2 then (0, 1) else if N2 then (3, 2) else if N1 then (4, 2)
  else if E then (if x && y then (1, 4) else if x then (1, 3) else if y then (2, 3) else if Z1 && Z2 then (1, 7) else if Z1 then (1, 5) else if Z2 then (2, 5) else (0, 6))
  else if am && bm then (5, 8) else if am then (1, 9) else if bm then (2, 9)
  else if ao && bo then (6, 10) else if ao then (3, 11) else if bo then (4, 11)
  else if m then (5, 12) else if sh then (6, 13) else (7, 14)
def Pr.rf (P : Pr) : Int × Int := Go.Proofs.Ytlmfdbimchhjjab.rf (nil4 P.o.c) (nil4 P.p.c) (P.o.c == P.p.c) P.x P.y (P.o.b != 0) (P.p.b != 0) P.ofc P.tu.ofc P.tu.oip P.oip (mt P.o.b P.p.b) P.sho
/-- the questions, of what is asked -/
def aq (f N1 N2 E x y Z1 Z2 am ao m sh bm bo : Bool) : Nat → Bool
  | 0 => N1 && N2
  | 1 => N1 && !N2
  | 2 => (E && !N1) && x && !y
  | 3 => (E && !N1) && x && y && f
  | 4 => (E && !N1) && Z1 && !Z2
  | 5 => (E && !N1) && !Z1 && !Z2
  | 6 => (E && !N1) && f
  | 7 => am && bm
  | 8 => am
  | 9 => bo && ao
  | 10 => bo
  | 11 => m
  | 12 => sh
  | _ => true
theorem ask_aq (P : Pr) (i : Nat) : P.ask i = aq P.f (nil4 P.o.c) (nil4 P.p.c) (P.o.c == P.p.c) P.x P.y (P.o.b != 0) (P.p.b != 0) P.ofc P.tu.oip (mt P.o.b P.p.b) P.sho P.tu.ofc P.oip i := by
  have h1 : ∀ z : Int, (z == 0) = !(z != 0) := fun z => by simp [bne]
  unfold Pr.ask aq Pr.sm
  split <;> simp only [mt, h1]
theorem tu_aq (P : Pr) (i : Nat) : P.tu.ask i = aq (!P.f) (nil4 P.p.c) (nil4 P.o.c) (P.o.c == P.p.c) P.y P.x (P.p.b != 0) (P.o.b != 0) P.tu.ofc P.oip (mt P.o.b P.p.b) P.sho P.ofc P.tu.oip i := by
  rw [ask_aq]
  have h2 : P.tu.tu = P := by cases P; simp [Pr.tu]
  rw [h2, sho_tu P]
  show aq (!P.f) (nil4 P.p.c) (nil4 P.o.c) (P.p.c == P.o.c) P.y P.x (P.p.b != 0) (P.o.b != 0) P.tu.ofc P.oip (mt P.p.b P.o.b) P.sho P.ofc P.tu.oip i = _
  rw [mt_comm P.p.b P.o.b, show (P.p.c == P.o.c) = (P.o.c == P.p.c) from BEq.comm]
/-- the first rule that applies, of the questions -/
def fr (a b : Nat → Bool) : Nat → Nat → Int × Int
  | 0, i => (0, 0)
  | m + 1, i => if a i || b i then (if a i then ruleKind i else mirK (ruleKind i), (i : Int) + 1) else fr a b m (i + 1)
theorem from_fr (P : Pr) : ∀ m i, P.from_ m i = fr P.ask P.tu.ask m i
  | 0, i => rfl
  | m + 1, i => by
    show (if P.fnd i then _ else P.from_ m (i + 1)) = _
    rw [from_fr P m (i + 1)]
    rfl
end Go.Proofs.Ytlmfdbimchhjjab
