import Derived.Test.YtnjlbkbhlcccmaaDoorBCopied
import Derived.Test.YtnjlbkbhlcccmaaDoorBStep
import Derived.Test.YtnjlbkbhlcccmaaDoorBSettle
import Derived.Test.YtnjlbkbhlcccmaaDoorBKeepA
import Derived.Test.YtnjlbkbhlcccmaaDoorBMadeB
import Derived.Test.YtnjlbkbhlcccmaaDoorBMeth
import Derived.Test.YtnjlbkbhlcccmaaDoorCards
import Derived.Test.YtnjlbkbhlcccmaaDoorTie
import Derived.WalkKit
import Derived.ProofKit
import Derived.OpenShut
import Derived.ChangeOld
import Derived.SizedLaws
import Derived.ChangeSlices
import Derived.Deep.Slices
import Derived.ChangeSame
import Derived.Deep.DeepHandedRow
import Derived.Lib.LaidTab
namespace Go.Proofs.YtnjlbkbhlcccmaaDoor
open Go.RowKit Go.Shelf
set_option linter.unusedVariables false
set_option linter.unusedSimpArgs false
set_option maxRecDepth 20000

def i64ok (n : Int) : Prop := -9223372036854775808 ≤ n ∧ n ≤ 9223372036854775807
structure ActV where
  kind : Int
  a : Int
  b : Int
structure OpV where
  kind : Int
  sec : Bool
  a : Int
  b : Int
  wv : Value
  wl : List Nat
  bv : Value
  bl : List ActV
  av : Value
  al : List ActV
  again : Bool
/-- a list of acts -/
def ASl (w : World) (v : Value) (l : List ActV) : Prop :=
  ∃ a cap, v = .slice a l.length cap ∧ l.length ≤ cap ∧ cap ≤ maxLen ∧ (∀ s ∈ l, i64ok s.kind ∧ i64ok s.a ∧ i64ok s.b) ∧
    (0 < l.length → ∃ b off, a = some ⟨b, off, none⟩ ∧ ∀ i (h : i < l.length), w.cell? ⟨b, off + i * 3, none⟩ = some (.int .i64 l[i].kind) ∧ w.cell? ⟨b, off + i * 3 + 1, none⟩ = some (.int .i64 l[i].a) ∧ w.cell? ⟨b, off + i * 3 + 2, none⟩ = some (.int .i64 l[i].b))
structure OpOk (w : World) (s : OpV) : Prop where
  w1 : WSl w s.wv s.wl
  w2 : s.wl.length ≤ 17592186044416
  b1 : ASl w s.bv s.bl
  a1 : ASl w s.av s.al
  k : i64ok s.kind
  a : i64ok s.a
  b : i64ok s.b
/-- a script -/
def OSl (w : World) (v : Value) (l : List OpV) : Prop :=
  ∃ a cap, v = .slice a l.length cap ∧ l.length ≤ cap ∧ cap ≤ maxLen ∧ (∀ s ∈ l, OpOk w s) ∧
    (0 < l.length → ∃ b off, a = some ⟨b, off, none⟩ ∧ ∀ i (h : i < l.length),
      w.cell? ⟨b, off + i * 8, none⟩ = some (.int .i64 l[i].kind) ∧ w.cell? ⟨b, off + i * 8 + 1, none⟩ = some (.bool l[i].sec) ∧ w.cell? ⟨b, off + i * 8 + 2, none⟩ = some (.int .i64 l[i].a) ∧ w.cell? ⟨b, off + i * 8 + 3, none⟩ = some (.int .i64 l[i].b) ∧
      w.cell? ⟨b, off + i * 8 + 4, none⟩ = some l[i].wv ∧ w.cell? ⟨b, off + i * 8 + 5, none⟩ = some l[i].bv ∧ w.cell? ⟨b, off + i * 8 + 6, none⟩ = some l[i].av ∧ w.cell? ⟨b, off + i * 8 + 7, none⟩ = some (.bool l[i].again))
theorem cell_below {w w' : World} {b o : Nat} {v : Value} (hb : Below w.heap.size w w') (h : w.cell? ⟨b, o, none⟩ = some v) : w'.cell? ⟨b, o, none⟩ = some v := by
  rw [hb.cell (p := ⟨b, o, none⟩) (World.block_lt_of_cell? w _ h)]; exact h
theorem ASl.below {w w' : World} {v : Value} {l : List ActV} (h : ASl w v l) (hb : Below w.heap.size w w') : ASl w' v l := by
  obtain ⟨a, cap, rfl, h1, h2, h4, h5⟩ := h
  refine ⟨a, cap, rfl, h1, h2, h4, fun hp => ?_⟩
  obtain ⟨b, off, rfl, hc⟩ := h5 hp
  refine ⟨b, off, rfl, fun i hi => ?_⟩
  obtain ⟨q1, q2, q3⟩ := hc i hi
  exact ⟨cell_below hb q1, cell_below hb q2, cell_below hb q3⟩
theorem OpOk.below {w w' : World} {s : OpV} (h : OpOk w s) (hb : Below w.heap.size w w') : OpOk w' s := ⟨h.w1.below hb, h.w2, h.b1.below hb, h.a1.below hb, h.k, h.a, h.b⟩
theorem OSl.below {w w' : World} {v : Value} {l : List OpV} (h : OSl w v l) (hb : Below w.heap.size w w') : OSl w' v l := by
  obtain ⟨a, cap, rfl, h1, h2, h4, h5⟩ := h
  refine ⟨a, cap, rfl, h1, h2, fun s hs => (h4 s hs).below hb, fun hp => ?_⟩
  obtain ⟨b, off, rfl, hc⟩ := h5 hp
  refine ⟨b, off, rfl, fun i hi => ?_⟩
  obtain ⟨q1, q2, q3, q4, q5, q6, q7, q8⟩ := hc i hi
  exact ⟨cell_below hb q1, cell_below hb q2, cell_below hb q3, cell_below hb q4, cell_below hb q5, cell_below hb q6, cell_below hb q7, cell_below hb q8⟩

/-- what a call that changes makes of the bits -/
def setO (n B : Nat) (i : Int) : Nat := if 0 ≤ i ∧ i < n then setR B i.toNat (i.toNat + 1) else B
def clrO (n B : Nat) (i : Int) : Nat := if 0 ≤ i ∧ i < n then clrR B i.toNat (i.toNat + 1) else B
def setRO (n B : Nat) (a c : Int) : Nat := if rgErr n a c = 0 then setR B a.toNat (a.toNat + c.toNat) else B
def clrRO (n B : Nat) (a c : Int) : Nat := if rgErr n a c = 0 then clrR B a.toNat (a.toNat + c.toNat) else B
def mrgO (n B : Nat) (l : List Nat) : Nat := if cwErr n l = 0 then B ||| valW l else B
theorem rgErr_zero {n : Nat} {a c : Int} (h : rgErr n a c = 0) : 0 ≤ a ∧ 0 ≤ c ∧ a.toNat + c.toNat ≤ n ∧ a = (a.toNat : Int) ∧ c = (c.toNat : Int) := by
  unfold rgErr at h
  by_cases h1 : c < 0
  · rw [if_pos h1] at h; cases h
  · rw [if_neg h1] at h
    by_cases h2 : a < 0 ∨ (n : Int) < a ∨ (n : Int) - a < c
    · rw [if_pos h2] at h; cases h
    · omega

def Two (e : Ending) : Prop := ∃ x y, e = .returned (.tuple #[x, y])
theorem Set_all {w : World} {L : BL} {n B : Nat} (h : BRep w L n B) (i : Int) : Calls Tryd.prog 34 #[PB L, .int .i64 i] w fun e w' => Two e ∧ BRep w' L n (setO n B i) ∧ Chg L.U w w' := by
  unfold setO
  by_cases hi : 0 ≤ i ∧ i < n
  · rw [if_pos hi]
    obtain ⟨k, rfl⟩ : ∃ k : Nat, i = (k : Int) := ⟨i.toNat, by omega⟩
    rw [Int.toNat_natCast]
    exact (Set_any h (by omega)).mono fun e w' hp => ⟨⟨_, _, hp.1⟩, hp.2⟩
  · rw [if_neg hi]
    exact (Set_no h i hi).mono fun e w' hp => ⟨⟨_, _, hp.1⟩, h.below hp.2, Chg.ofBelow hp.2⟩
theorem Clear_all {w : World} {L : BL} {n B : Nat} (h : BRep w L n B) (i : Int) : Calls Tryd.prog 36 #[PB L, .int .i64 i] w fun e w' => Two e ∧ BRep w' L n (clrO n B i) ∧ Chg L.U w w' := by
  unfold clrO
  by_cases hi : 0 ≤ i ∧ i < n
  · rw [if_pos hi]
    obtain ⟨k, rfl⟩ : ∃ k : Nat, i = (k : Int) := ⟨i.toNat, by omega⟩
    rw [Int.toNat_natCast]
    exact (Clear_any h (by omega)).mono fun e w' hp => ⟨⟨_, _, hp.1⟩, hp.2⟩
  · rw [if_neg hi]
    exact (Clear_no h i hi).mono fun e w' hp => ⟨⟨_, _, hp.1⟩, h.below hp.2, Chg.ofBelow hp.2⟩
theorem SetRange_all {w : World} {L : BL} {n B : Nat} (h : BRep w L n B) (a c : Int) : Calls Tryd.prog 37 #[PB L, .int .i64 a, .int .i64 c] w fun e w' => Two e ∧ BRep w' L n (setRO n B a c) ∧ Chg L.U w w' := by
  unfold setRO
  by_cases he : rgErr n a c = 0
  · rw [if_pos he]
    obtain ⟨h1, h2, h3, h4, h5⟩ := rgErr_zero he
    have := SetRange_any h h3
    rw [← h4, ← h5] at this
    exact this.mono fun e w' hp => ⟨⟨_, _, hp.1⟩, hp.2⟩
  · rw [if_neg he]
    exact (SetRange_no h a c he).mono fun e w' hp => ⟨⟨_, _, hp.1⟩, h.below hp.2, Chg.ofBelow hp.2⟩
theorem ClearRange_all {w : World} {L : BL} {n B : Nat} (h : BRep w L n B) (a c : Int) : Calls Tryd.prog 39 #[PB L, .int .i64 a, .int .i64 c] w fun e w' => Two e ∧ BRep w' L n (clrRO n B a c) ∧ Chg L.U w w' := by
  unfold clrRO
  by_cases he : rgErr n a c = 0
  · rw [if_pos he]
    obtain ⟨h1, h2, h3, h4, h5⟩ := rgErr_zero he
    have := ClearRange_any h h3
    rw [← h4, ← h5] at this
    exact this.mono fun e w' hp => ⟨⟨_, _, hp.1⟩, hp.2⟩
  · rw [if_neg he]
    exact (ClearRange_no h a c he).mono fun e w' hp => ⟨⟨_, _, hp.1⟩, h.below hp.2, Chg.ofBelow hp.2⟩
theorem Merge_all {w : World} {L : BL} {n B : Nat} {v : Value} {l : List Nat} (h : BRep w L n B) (hv : WSl w v l) (hap : ∀ g, blockOf v = some g → ¬ L.U g) : Calls Tryd.prog 25 #[PB L, v] w fun e w' => Two e ∧ BRep w' L n (mrgO n B l) ∧ Chg L.U w w' := by
  unfold mrgO
  by_cases he : cwErr n l = 0
  · rw [if_pos he]
    exact (Merge_any h hv hap he).mono fun e w' hp => ⟨⟨_, _, hp.1⟩, hp.2.1, hp.2.2.1⟩
  · rw [if_neg he]
    exact (Merge_no h hv he).mono fun e w' hp => ⟨⟨_, _, hp.1⟩, by rw [hp.2]; exact h, by rw [hp.2]; exact Chg.refl _ _⟩

def stepO (n B : Nat) (o : OpV) : Nat :=
  if o.kind = 1 then setO n B o.a else if o.kind = 2 then clrO n B o.a else if o.kind = 3 then setRO n B o.a o.b else if o.kind = 4 then clrRO n B o.a o.b else if o.kind = 5 then mrgO n B o.wl else B
def foldO (n B : Nat) (l : List OpV) : Nat := l.foldl (stepO n) B
theorem foldO_take {n B k : Nat} {l : List OpV} (h : k < l.length) : foldO n B (l.take (k + 1)) = stepO n (foldO n B (l.take k)) l[k] := by
  unfold foldO
  rw [List.take_succ_eq_append_getElem h, List.foldl_append]
  rfl

theorem BNewAt.step {w w1 w2 : World} {L : BL} {n B B' : Nat} (h : BNewAt w w1 L n B) (hr : BRep w2 L n B') (hc : Chg L.U w1 w2) : BNewAt w w2 L n B' := ⟨hr, h.2.1.trans (hc.below h.2.1.size h.2.2), h.2.2⟩
theorem BNewAt.below {w w1 w2 : World} {L : BL} {n B : Nat} (h : BNewAt w w1 L n B) (hb : Below w1.heap.size w1 w2) : BNewAt w w2 L n B := ⟨h.1.below hb, h.2.1.trans (hb.mono h.2.1.size), h.2.2⟩
theorem ptrEqNil (W : World) (a : Addr) : (binOp .eql 33 (.pointer (some a)) (.pointer none)).run Tryd.prog W = .ok (.bool false) W := by kernel_rfl
end Go.Proofs.YtnjlbkbhlcccmaaDoor
namespace Go.Proofs.YtnjlbkbhlcccmaaDoor
open Go.RowKit Go.Shelf
set_option linter.unusedVariables false
set_option linter.unusedSimpArgs false
set_option maxRecDepth 20000

/-- an operation as a value -/
def opV (s : OpV) : Value := .agg #[.int .i64 s.kind, .bool s.sec, .int .i64 s.a, .int .i64 s.b, s.wv, s.bv, s.av, .bool s.again]
theorem OpOk.form {w : World} {s : OpV} (h : OpOk w s) : ∃ a1 a2 a3 n1 n2 n3 c1 c2 c3, s.wv = .slice a1 n1 c1 ∧ opV s = opA s.kind s.a s.b s.sec s.again a1 a2 a3 n1 n2 n3 c1 c2 c3 := by
  obtain ⟨a1, c1, e1, -⟩ := h.w1
  obtain ⟨a2, c2, e2, -⟩ := h.b1
  obtain ⟨a3, c3, e3, -⟩ := h.a1
  exact ⟨a1, a2, a3, _, _, _, c1, c2, c3, e1, by unfold opV opA; rw [e1, e2, e3]⟩
theorem change_0 {w : World} (pp : Nat) (K A C : Int) (s again : Bool) (a1 a2 a3 : Option Addr) (n1 n2 n3 c1 c2 c3 : Nat) (hK : K < 1) :
    Calls Tryd.prog 21 #[.pointer (some ⟨pp, 0, none⟩), opA K A C s again a1 a2 a3 n1 n2 n3 c1 c2 c3] w fun e w' => e = .returned (.bool true) ∧ Below w.heap.size w w' := by
  unfold opA
  have HBE := hide ((Below.refl w.heap.size w).alloc (Nat.le_refl _) (.cells #[.int .i64 K, .bool s, .int .i64 A, .int .i64 C, .slice a1 n1 c1, .slice a2 n2 c2, .slice a3 n3 c3, .bool again] 39))
  have b1 : (K == 1) = false := by simp; omega
  have b2 : (K == 2) = false := by simp; omega
  have b3 : (K == 3) = false := by simp; omega
  have b4 : (K == 4) = false := by simp; omega
  have b5 : (K == 5) = false := by simp; omega
  clear hK
  go_enter Tryd.func21, Tryd.ntmps21
  go_wp2_with fail
  go_ret
  exact ⟨rfl, HBE.out⟩
theorem ask_0 {w : World} (pp : Nat) (K A C : Int) (s again : Bool) (a1 a2 a3 : Option Addr) (n1 n2 n3 c1 c2 c3 : Nat) (hK : 13 < K) :
    Calls Tryd.prog 22 #[.pointer (some ⟨pp, 0, none⟩), opA K A C s again a1 a2 a3 n1 n2 n3 c1 c2 c3] w fun e w' => e = .returned (.bool true) ∧ Below w.heap.size w w' := by
  unfold opA
  have HBE := hide ((Below.refl w.heap.size w).alloc (Nat.le_refl _) (.cells #[.int .i64 K, .bool s, .int .i64 A, .int .i64 C, .slice a1 n1 c1, .slice a2 n2 c2, .slice a3 n3 c3, .bool again] 39))
  have b6 : (K == 6) = false := by simp; omega
  have b7 : (K == 7) = false := by simp; omega
  have b8 : (K == 8) = false := by simp; omega
  have b9 : (K == 9) = false := by simp; omega
  have b10 : (K == 10) = false := by simp; omega
  have b11 : (K == 11) = false := by simp; omega
  have b12 : (K == 12) = false := by simp; omega
  have b13 : (K == 13) = false := by simp; omega
  clear hK
  go_enter Tryd.func22, Tryd.ntmps22
  go_wp2_with fail
  go_ret
  exact ⟨rfl, HBE.out⟩
/-- a change -/
theorem change_any {late : Bool} {w : World} {pp k n B c : Nat} {L : BL} {R : RL} {U : Nat → Prop} {s : OpV} (h : Pr w pp k L R n B) (hb : BkB late w k U c) (hd : ∀ b, PU pp L R b → ¬ U b) (hc : c ≤ 4000000000000) (hs : OpOk w s)
    (hsep : 0 < s.wl.length → ∀ b, blockOf s.wv = some b → ¬ PU pp L R b) (hK : s.kind ≤ 5) :
    Calls Tryd.prog 21 #[.pointer (some ⟨pp, 0, none⟩), opV s] w fun e w' => e = .returned (.bool true) ∧ SP late w w' pp k L R n U (c + 1) := by
  obtain ⟨a1, a2, a3, n1, n2, n3, c1, c2, c3, e1, e⟩ := hs.form
  rw [e]
  have hlt := h.lt
  have fin : ∀ {B' : Nat} {w' : World}, Pr w' pp k L R n B' → Chg (PU pp L R) w w' → SP late w w' pp k L R n U (c + 1) := fun h1 h2 => SP.chg hb hd h1 h2
  by_cases k0 : s.kind < 1
  · exact (change_0 pp _ _ _ _ _ _ _ _ _ _ _ _ _ _ k0).mono fun e w' hp => ⟨hp.1, fin (h.below hp.2) (Chg.ofBelow hp.2)⟩
  by_cases k1 : s.kind = 1
  · rw [k1]
    by_cases hi : 0 ≤ s.a ∧ s.a < n
    · obtain ⟨i, ei⟩ := Int.eq_ofNat_of_zero_le hi.1
      rw [ei] at hi ⊢
      exact (change_1 h (i : Int) s.b 0 (!B.testBit i) _ _ _ _ _ _ _ _ _ _ _ (fun x hx => Set_any hx (by omega)) (fun x hx => (rPut_any hx true (by omega)).mono fun e w' hp => ⟨by rw [hp.1]; simp, hp.2⟩)).mono fun e w' hp => ⟨hp.1, fin hp.2.1 hp.2.2⟩
    · exact (change_1 (B' := B) h s.a s.b 2 false _ _ _ _ _ _ _ _ _ _ _ (fun x hx => (Set_no hx _ hi).mono fun e w' hp => ⟨hp.1, hx.below hp.2, Chg.ofBelow hp.2⟩) (fun x hx => (rPut_no hx _ true hi).mono fun e w' hp => ⟨hp.1, by rw [hp.2]; exact hx, by rw [hp.2]; exact Chg.refl _ _⟩)).mono fun e w' hp => ⟨hp.1, fin hp.2.1 hp.2.2⟩
  by_cases k2 : s.kind = 2
  · rw [k2]
    by_cases hi : 0 ≤ s.a ∧ s.a < n
    · obtain ⟨i, ei⟩ := Int.eq_ofNat_of_zero_le hi.1
      rw [ei] at hi ⊢
      exact (change_2 h (i : Int) s.b 0 (B.testBit i) _ _ _ _ _ _ _ _ _ _ _ (fun x hx => Clear_any hx (by omega)) (fun x hx => (rPut_any hx false (by omega)).mono fun e w' hp => ⟨by rw [hp.1]; simp, hp.2⟩)).mono fun e w' hp => ⟨hp.1, fin hp.2.1 hp.2.2⟩
    · exact (change_2 (B' := B) h s.a s.b 2 false _ _ _ _ _ _ _ _ _ _ _ (fun x hx => (Clear_no hx _ hi).mono fun e w' hp => ⟨hp.1, hx.below hp.2, Chg.ofBelow hp.2⟩) (fun x hx => (rPut_no hx _ false hi).mono fun e w' hp => ⟨hp.1, by rw [hp.2]; exact hx, by rw [hp.2]; exact Chg.refl _ _⟩)).mono fun e w' hp => ⟨hp.1, fin hp.2.1 hp.2.2⟩
  by_cases k3 : s.kind = 3
  · rw [k3]
    by_cases hi : rgErr n s.a s.b = 0
    · obtain ⟨h1, h2, h3, h4, h5⟩ := rgErr_zero hi
      generalize s.a.toNat = i at *
      generalize s.b.toNat = j at *
      rw [h4, h5]
      exact (change_3 h (i : Int) (j : Int) 0 ((cnt (fun q => !B.testBit (i + q)) j : Nat) : Int) _ _ _ _ _ _ _ _ _ _ _ (fun x hx => SetRange_any hx h3) (fun x hx => (rPutRange_any hx true h3).mono fun e w' hp => ⟨by rw [hp.1]; simp, hp.2⟩)).mono fun e w' hp => ⟨hp.1, fin hp.2.1 hp.2.2⟩
    · exact (change_3 (B' := B) h s.a s.b _ 0 _ _ _ _ _ _ _ _ _ _ _ (fun x hx => (SetRange_no hx _ _ hi).mono fun e w' hp => ⟨hp.1, hx.below hp.2, Chg.ofBelow hp.2⟩) (fun x hx => (rPutRange_no hx _ _ true hi).mono fun e w' hp => ⟨hp.1, by rw [hp.2]; exact hx, by rw [hp.2]; exact Chg.refl _ _⟩)).mono fun e w' hp => ⟨hp.1, fin hp.2.1 hp.2.2⟩
  by_cases k4 : s.kind = 4
  · rw [k4]
    by_cases hi : rgErr n s.a s.b = 0
    · obtain ⟨h1, h2, h3, h4, h5⟩ := rgErr_zero hi
      generalize s.a.toNat = i at *
      generalize s.b.toNat = j at *
      rw [h4, h5]
      exact (change_4 h (i : Int) (j : Int) 0 ((cnt (fun q => B.testBit (i + q)) j : Nat) : Int) _ _ _ _ _ _ _ _ _ _ _ (fun x hx => ClearRange_any hx h3) (fun x hx => (rPutRange_any hx false h3).mono fun e w' hp => ⟨by rw [hp.1]; simp, hp.2⟩)).mono fun e w' hp => ⟨hp.1, fin hp.2.1 hp.2.2⟩
    · exact (change_4 (B' := B) h s.a s.b _ 0 _ _ _ _ _ _ _ _ _ _ _ (fun x hx => (ClearRange_no hx _ _ hi).mono fun e w' hp => ⟨hp.1, hx.below hp.2, Chg.ofBelow hp.2⟩) (fun x hx => (rPutRange_no hx _ _ false hi).mono fun e w' hp => ⟨hp.1, by rw [hp.2]; exact hx, by rw [hp.2]; exact Chg.refl _ _⟩)).mono fun e w' hp => ⟨hp.1, fin hp.2.1 hp.2.2⟩
  have k5 : s.kind = 5 := by omega
  rw [k5]
  have hw := hs.w1
  rw [e1] at hw hsep
  have hll := hs.w2
  have hm : s.wl.length + 3 ≤ maxLen := by unfold maxLen; omega
  have keep : ∀ (B' : Nat) (x : World) (v : Value), Pr x pp k L R n B' → Chg (PU pp L R) w x → Cp w.heap.size x v s.wl → Calls Tryd.prog 13 #[.pointer (some ⟨k, 0, none⟩), v] x fun e w' => e = .returned (.tuple #[]) ∧ KPB late k c U x v w' := fun B' x v h1 h2 h3 =>
    keepAny (hb.chg h2 fun b hu hp => hd b hp hu) (h3.rowL hm) (h3.wsl hw.lt hm) hll hc fun b e hu => by have := h3.own b e; have := hb.lt b hu; omega
  by_cases he : cwErr n s.wl = 0
  · refine (change_5 (KP := KPB late k c U) (B' := B ||| valW s.wl) h s.a s.b ((news B (valW s.wl) n : Nat) : Int) 0 _ _ _ _ _ _ _ _ _ _ _ hw hll hsep (fun x v h1 h2 h3 => (Merge_any h1 h2 h3 he).mono fun e w' hp => ⟨hp.1, hp.2.1, hp.2.2.1⟩) (fun x v h1 h2 => rMerge_any h1 h2 he) (keep _)).mono ?_
    rintro e w' ⟨rfl, x, v, h1, h2, h3, h4⟩
    exact ⟨rfl, SP.keep hd hlt h1 h2 h3.own h4⟩
  · refine (change_5 (KP := KPB late k c U) (B' := B) h s.a s.b 0 ((cwErr n s.wl : Nat) : Int) _ _ _ _ _ _ _ _ _ _ _ hw hll hsep (fun x v h1 h2 h3 => (Merge_no h1 h2 he).mono fun e w' hp => ⟨hp.1, by rw [hp.2]; exact h1, by rw [hp.2]; exact Chg.refl _ _⟩) (fun x v h1 h2 => (rMerge_no h1 h2 he).mono fun e w' hp => ⟨hp.1, by rw [hp.2]; exact h1, by rw [hp.2]; exact Chg.refl _ _⟩) (keep _)).mono ?_
    rintro e w' ⟨rfl, x, v, h1, h2, h3, h4⟩
    exact ⟨rfl, SP.keep hd hlt h1 h2 h3.own h4⟩
theorem find_any {w : World} {R : RL} {n B : Nat} (h : RRep w R n B) (i : Int) (to : Bool) :
    Calls Tryd.prog 19 #[PR R, .int .i64 i, .bool to] w fun e w' => e = .returned (.int .i64 (orN (fnd (fun j => B.testBit j == to) i.toNat (n - i.toNat)))) ∧ w' = w := by
  by_cases hi : i < 0
  · exact rFind_neg h i to hi
  · exact rFind_pos h i to (by omega)
/-- a question -/
theorem ask_any {late : Bool} {w : World} {pp k n B c : Nat} {L : BL} {R : RL} {U : Nat → Prop} {s : OpV} (h : Pr w pp k L R n B) (hT : TabAt w) (hb : BkB late w k U c) (hd : ∀ b, PU pp L R b → ¬ U b) (hc : c ≤ 4000000000000) (hs : OpOk w s) (hK : 5 < s.kind) :
    Calls Tryd.prog 22 #[.pointer (some ⟨pp, 0, none⟩), opV s] w fun e w' => e = .returned (.bool true) ∧ SP late w w' pp k L R n U (c + 1) := by
  obtain ⟨a1, a2, a3, n1, n2, n3, c1, c2, c3, e1, e⟩ := hs.form
  rw [e]
  have hlt := h.lt
  have hn := h.m.n2
  have fin : ∀ {B' : Nat} {w' : World}, Pr w' pp k L R n B' → Chg (PU pp L R) w w' → SP late w w' pp k L R n U (c + 1) := fun h1 h2 => SP.chg hb hd h1 h2
  have keep : ∀ (l : List Nat) (x : World) (v : Value), l.length ≤ 1024 → (∀ y ∈ l, y < 18446744073709551616) → Below w.heap.size w x → x.ownsRow w.heap.size 63 1 v l.length (l.map u64V) → Calls Tryd.prog 13 #[.pointer (some ⟨k, 0, none⟩), v] x fun e w' => e = .returned (.tuple #[]) ∧ KPB late k c U x v w' := fun l x v h0 h9 h1 h2 =>
    keepAny (hb.below h1) (row_zero h2) (wsl_of_row h2 h9) (by omega) hc fun b e hu => by have := (h2.lt b e).1; have := hb.lt b hu; omega
  by_cases k6 : s.kind = 6
  · rw [k6]
    by_cases hi : 0 ≤ s.a ∧ s.a < n
    · obtain ⟨i, ei⟩ := Int.eq_ofNat_of_zero_le hi.1
      rw [ei] at hi ⊢
      exact (ask_6 (B' := B) h (i : Int) s.b 0 (B.testBit i) _ _ _ _ _ _ _ _ _ _ _ (fun x hx => (Test_any hx (by omega)).mono fun e w' hp => ⟨hp.1, hx.below hp.2, Chg.ofBelow hp.2⟩) (fun x hx => (rTest_any hx (by omega)).mono fun e w' hp => ⟨hp.1, by rw [hp.2]; exact hx, by rw [hp.2]; exact Chg.refl _ _⟩)).mono fun e w' hp => ⟨hp.1, fin hp.2.1 hp.2.2⟩
    · exact (ask_6 (B' := B) h s.a s.b 2 false _ _ _ _ _ _ _ _ _ _ _ (fun x hx => (Test_no hx _ hi).mono fun e w' hp => ⟨hp.1, hx.below hp.2, Chg.ofBelow hp.2⟩) (fun x hx => (rTest_no hx _ hi).mono fun e w' hp => ⟨hp.1, by rw [hp.2]; exact hx, by rw [hp.2]; exact Chg.refl _ _⟩)).mono fun e w' hp => ⟨hp.1, fin hp.2.1 hp.2.2⟩
  by_cases k7 : s.kind = 7
  · rw [k7]
    exact (ask_count h _ _ _ _ _ _ _ _ _ _ _ _ _).mono fun e w' hp => ⟨hp.1, fin (h.below hp.2) (Chg.ofBelow hp.2)⟩
  by_cases k8 : s.kind = 8
  · rw [k8]
    by_cases hi : rgErr n s.a s.b = 0
    · obtain ⟨h1, h2, h3, h4, h5⟩ := rgErr_zero hi
      generalize s.a.toNat = i at *
      generalize s.b.toNat = j at *
      rw [h4, h5]
      exact (ask_8 (B' := B) h (i : Int) (j : Int) 0 ((cnt (fun q => B.testBit (i + q)) j : Nat) : Int) _ _ _ _ _ _ _ _ _ _ _ (fun x hx => (CountRange_any hx h3).mono fun e w' hp => ⟨hp.1, hx.below hp.2, Chg.ofBelow hp.2⟩) (fun x hx => (rCountRange_any hx h3).mono fun e w' hp => ⟨hp.1, by rw [hp.2]; exact hx, by rw [hp.2]; exact Chg.refl _ _⟩)).mono fun e w' hp => ⟨hp.1, fin hp.2.1 hp.2.2⟩
    · exact (ask_8 (B' := B) h s.a s.b _ 0 _ _ _ _ _ _ _ _ _ _ _ (fun x hx => (CountRange_no hx _ _ hi).mono fun e w' hp => ⟨hp.1, hx.below hp.2, Chg.ofBelow hp.2⟩) (fun x hx => (rCountRange_no hx _ _ hi).mono fun e w' hp => ⟨hp.1, by rw [hp.2]; exact hx, by rw [hp.2]; exact Chg.refl _ _⟩)).mono fun e w' hp => ⟨hp.1, fin hp.2.1 hp.2.2⟩
  by_cases k9 : s.kind = 9
  · rw [k9]
    exact (ask_9 h s.a s.b (orN (nx B n s.a.toNat)) _ _ _ _ _ _ _ _ _ _ _ (fun x h1 h2 => Next_any h2 (hT.below h1) s.a) (fun x hx => (find_any hx s.a true).mono fun e w' hp => ⟨by rw [hp.1]; simp [nx], hp.2⟩)).mono fun e w' hp => ⟨hp.1, fin hp.2.1 hp.2.2⟩
  by_cases k10 : s.kind = 10
  · rw [k10]
    exact (ask_10 h s.a s.b (orN (nc B n s.a.toNat)) _ _ _ _ _ _ _ _ _ _ _ (fun x h1 h2 => NextClear_any h2 (hT.below h1) s.a) (fun x hx => (find_any hx s.a false).mono fun e w' hp => ⟨by rw [hp.1]; simp [nc], hp.2⟩)).mono fun e w' hp => ⟨hp.1, fin hp.2.1 hp.2.2⟩
  by_cases k11 : s.kind = 11
  · rw [k11]
    exact (ask_len h _ _ _ _ _ _ _ _ _ _ _ _ _).mono fun e w' hp => ⟨hp.1, fin (h.below hp.2) (Chg.ofBelow hp.2)⟩
  by_cases k12 : s.kind = 12
  · rw [k12]
    refine (ask_words_g (KP := KPB late k c U) h s.a s.b _ _ _ _ _ _ _ _ _ _ _ (fun x v h1 h2 => keep (wds B (nW n)) x v (by rw [wds_len]; unfold nW; omega) (wds_lt _ _) h1 (by rw [wds_len]; exact h2))).mono ?_
    rintro e w' ⟨rfl, x, v, h1, h2, h4⟩
    exact ⟨rfl, SP.keep hd hlt (h.below h1) (Chg.ofBelow h1) (fun b e => (h2.lt b e).1) h4⟩
  by_cases k13 : s.kind = 13
  · rw [k13]
    refine (ask_sum_g (KP := KPB late k c U) h s.a s.b _ _ _ _ _ _ _ _ _ _ _ (fun x v h1 h2 => keep (wds (up B (nW n)) (nW (nW n))) x v (by rw [wds_len]; unfold nW; omega) (wds_lt _ _) h1 (by rw [wds_len]; exact h2))).mono ?_
    rintro e w' ⟨rfl, x, v, h1, h2, h4⟩
    exact ⟨rfl, SP.keep hd hlt (h.below h1) (Chg.ofBelow h1) (fun b e => (h2.lt b e).1) h4⟩
  exact (ask_0 pp _ _ _ _ _ _ _ _ _ _ _ _ _ _ (by omega)).mono fun e w' hp => ⟨hp.1, fin (h.below hp.2) (Chg.ofBelow hp.2)⟩
/-- a step -/
theorem step_any {late : Bool} {w : World} {pp k n B c : Nat} {L : BL} {R : RL} {U : Nat → Prop} {s : OpV} (h : Pr w pp k L R n B) (hT : TabAt w) (hb : BkB late w k U c) (hd : ∀ b, PU pp L R b → ¬ U b) (hc : c ≤ 4000000000000) (hs : OpOk w s)
    (hsep : 0 < s.wl.length → ∀ b, blockOf s.wv = some b → ¬ PU pp L R b) :
    Calls Tryd.prog 7 #[.pointer (some ⟨pp, 0, none⟩), opV s] w fun e w' => e = .returned (.bool true) ∧ SP late w w' pp k L R n U (c + 1) := by
  have HBE := fun o => (Below.refl w.heap.size w).alloc (Nat.le_refl _) o
  have HCH := hide fun (x : World) (hx : Below w.heap.size w x) (hK : s.kind ≤ 5) => change_any (h.below hx) (hb.below hx) hd hc (hs.below hx) hsep hK
  have HAS := hide fun (x : World) (hx : Below w.heap.size w x) (hK : 5 < s.kind) => ask_any (h.below hx) (hT.below hx) (hb.below hx) hd hc (hs.below hx) hK
  have fin : ∀ x w', Below w.heap.size w x → SP late x w' pp k L R n U (c + 1) → SP late w w' pp k L R n U (c + 1) := fun x w' hx ⟨B', U', h1, h2, h3, h4⟩ => ⟨B', U', h1, h2, (Chg.ofBelow hx).trans h3, fun b e => (h4 b e).imp id fun e => Nat.le_trans hx.size e⟩
  have HFIN := hide fin
  obtain ⟨a1, a2, a3, n1, n2, n3, c1, c2, c3, e1, e⟩ := hs.form
  rw [e] at HCH HAS ⊢
  unfold opA at HCH HAS ⊢
  have HB := hide (HBE (.cells #[.int .i64 s.kind, .bool s.sec, .int .i64 s.a, .int .i64 s.b, .slice a1 n1 c1, .slice a2 n2 c2, .slice a3 n3 c3, .bool s.again] 39))
  clear HBE fin h hT hb hd hc hs hsep e
  generalize s.kind = K at *
  generalize s.a = A at *
  generalize s.b = C at *
  generalize s.sec = S at *
  generalize s.again = G at *
  go_enter Tryd.func7, Tryd.ntmps7
  by_cases hK : K ≤ 5
  · have HC := hide (HCH.out _ HB.out hK)
    go_wp2_with (first
      | (go_at_call 21; refine HC.out.mono ?_; rintro e w2 ⟨rfl, hq⟩; have HQ := hide (HFIN.out _ _ HB.out hq); clear hq))
    go_ret
    exact ⟨rfl, HQ.out⟩
  · have HC := hide (HAS.out _ HB.out (by omega))
    go_wp2_with (first
      | (go_at_call 22; refine HC.out.mono ?_; rintro e w2 ⟨rfl, hq⟩; have HQ := hide (HFIN.out _ _ HB.out hq); clear hq))
    go_ret
    exact ⟨rfl, HQ.out⟩
end Go.Proofs.YtnjlbkbhlcccmaaDoor
namespace Go.Proofs.YtnjlbkbhlcccmaaDoor
open Go.RowKit Go.Shelf
set_option linter.unusedVariables false
set_option linter.unusedSimpArgs false
set_option maxRecDepth 20000

/-- half way through settled: the first i lists are written full -/
structure SvD (w0 wr : World) (N k : Nat) (bv raw was : Value) (ys vs us : List Value) (i : Nat) : Prop where
  s : BkS wr k false bv raw was ys vs us
  len : ys.length = 2 * i
  lt : ∀ b, Ent raw was ys vs us b → b < wr.heap.size
  d1 : ∀ b, Ent raw was ys vs us b → b ≠ k ∧ bv.ownBlock ≠ some b
  own : ∀ (j : Nat) (x : Value), i ≤ j → vs[j]? = some x → ∃ l : List Nat, wr.ownsRow 0 63 1 x l.length (l.map u64V) ∧ l.length ≤ 17592186044416
  d2 : ∀ (j : Nat) (x : Value), i ≤ j → vs[j]? = some x → ∀ b, x.ownBlock = some b → raw.ownBlock ≠ some b ∧ was.ownBlock ≠ some b ∧ (∀ y, (y ∈ ys ∨ y ∈ us) → y.ownBlock ≠ some b) ∧ ∀ (j' : Nat) (y : Value), j' ≠ j → vs[j']? = some y → y.ownBlock ≠ some b
  be : Below N w0 wr
  nb : ∀ b, (b = k ∨ bv.ownBlock = some b ∨ Ent raw was ys vs us b) → N ≤ b
def Sv (w0 wr : World) (N k : Nat) (raw was : Value) (vs us : List Value) (i : Nat) : Prop := ∃ bv ys, SvD w0 wr N k bv raw was ys vs us i
theorem Sv.step {w0 wr : World} {N k i : Nat} {raw was v : Value} {vs us : List Value} (h : Sv w0 wr N k raw was vs us i) (hv : vs[i]? = some v) (hi : i ≤ 4000000000000) :
    Calls Tryd.prog 13 #[.pointer (some ⟨k, 0, none⟩), v] wr fun e w' => e = .returned (.tuple #[]) ∧ Sv w0 w' N k raw was vs us (i + 1) := by
  obtain ⟨bv, ys, h⟩ := h
  obtain ⟨l, hr, hl⟩ := h.own i v (Nat.le_refl _) hv
  have hlen := h.len
  have hE : ∀ b, Ent2 i raw was ys vs us b → Ent raw was ys vs us b := by
    rintro b (e | e | ⟨x, hx, e⟩ | ⟨j, x, _, hx, e⟩)
    · exact .inl e
    · exact .inr (.inl e)
    · exact .inr (.inr ⟨x, hx.imp id .inr, e⟩)
    · exact .inr (.inr ⟨x, .inr (.inl (List.mem_of_getElem? hx)), e⟩)
  refine (keepS2_any h.s (by omega) hv hr hl (by omega) fun b he => ?_).mono ?_
  · refine ⟨(h.d1 b (hE b he)).1, (h.d1 b (hE b he)).2, fun e => ?_⟩
    obtain ⟨q1, q2, q3, q4⟩ := h.d2 i v (Nat.le_refl _) hv b e
    rcases he with e | e | ⟨x, hx, e⟩ | ⟨j, x, hj, hx, e⟩
    · exact q1 e
    · exact q2 e
    · exact q3 x hx e
    · exact q4 j x hj hx e
  · rintro e w' ⟨rfl, bv', gv, hS, hK⟩
    have hsz := hK.chg.size
    have hvE : ∀ b, v.ownBlock = some b → Ent raw was ys vs us b := fun b e => .inr (.inr ⟨v, .inr (.inl (List.mem_of_getElem? hv)), e⟩)
    have hsplit : ∀ b, Ent raw was (ys ++ [v, gv]) vs us b → Ent raw was ys vs us b ∨ v.ownBlock = some b ∨ gv.ownBlock = some b := by
      rintro b (e | e | ⟨x, hx, e⟩)
      · exact .inl (.inl e)
      · exact .inl (.inr (.inl e))
      · rcases hx with hx | hx
        · rcases List.mem_append.1 hx with hx | hx
          · exact .inl (.inr (.inr ⟨x, .inl hx, e⟩))
          · simp only [List.mem_cons, List.not_mem_nil, or_false] at hx
            rcases hx with rfl | rfl
            · exact .inr (.inl e)
            · exact .inr (.inr e)
        · exact .inl (.inr (.inr ⟨x, .inr hx, e⟩))
    refine ⟨rfl, bv', ys ++ [v, gv], ⟨hS, by simp [hlen]; omega, fun b hb => ?_, fun b hb => ?_, fun j x hj hx => ?_, fun j x hj hx b e => ?_, ?_, fun b hb => ?_⟩⟩
    · rcases hsplit b hb with e | e | e
      · exact Nat.lt_of_lt_of_le (h.lt b e) hsz
      · exact (hK.gb b (.inl e)).2.2
      · exact (hK.gb b (.inr e)).2.2
    · rcases hsplit b hb with e | e | e
      · refine ⟨(h.d1 b e).1, fun e2 => ?_⟩
        rcases hK.bloc b e2 with e3 | e3
        · exact (h.d1 b e).2 e3
        · have := h.lt b e; omega
      · exact ⟨(hK.gb b (.inl e)).2.1, (hK.gb b (.inl e)).1⟩
      · exact ⟨(hK.gb b (.inr e)).2.1, (hK.gb b (.inr e)).1⟩
    · obtain ⟨l', h1, h2⟩ := h.own j x (by omega) hx
      refine ⟨l', rowKept h1 fun g hg => hK.chg.keep g (h1.lt g hg).2 ?_, h2⟩
      have hx' : Ent raw was ys vs us g := .inr (.inr ⟨x, .inr (.inl (List.mem_of_getElem? hx)), hg⟩)
      rintro (e | e | e)
      · exact (h.d1 g hx').1 e
      · exact (h.d1 g hx').2 e
      · exact (h.d2 j x (by omega) hx g hg).2.2.2 i v (by omega) hv e
    · obtain ⟨q1, q2, q3, q4⟩ := h.d2 j x (by omega) hx b e
      have hx' : Ent raw was ys vs us b := .inr (.inr ⟨x, .inr (.inl (List.mem_of_getElem? hx)), e⟩)
      refine ⟨q1, q2, fun y hy e2 => ?_, q4⟩
      rcases hy with hy | hy
      · rcases List.mem_append.1 hy with hy | hy
        · exact q3 y (.inl hy) e2
        · simp only [List.mem_cons, List.not_mem_nil, or_false] at hy
          rcases hy with rfl | rfl
          · exact q4 i _ (by omega) hv e2
          · rcases hK.gloc b e2 with e3 | e3
            · exact q4 i _ (by omega) hv e3
            · have := h.lt b hx'; omega
      · exact q3 y (.inr hy) e2
    · refine h.be.trans (hK.chg.below (Nat.le_trans ?_ (Nat.le_of_lt (Array.getElem?_eq_some_iff.1 h.s.row).1)) ?_)
      · exact h.nb k (.inl rfl)
      · rintro b (e | e | e)
        · exact h.nb b (.inl e)
        · exact h.nb b (.inr (.inl e))
        · exact h.nb b (.inr (.inr (hvE b e)))
    · have hk0 : N ≤ wr.heap.size := Nat.le_trans (h.nb k (.inl rfl)) (Nat.le_of_lt (Array.getElem?_eq_some_iff.1 h.s.row).1)
      rcases hb with e | e | e
      · exact h.nb b (.inl e)
      · rcases hK.bloc b e with e3 | e3
        · exact h.nb b (.inr (.inl e3))
        · omega
      · rcases hsplit b e with e | e | e
        · exact h.nb b (.inr (.inr e))
        · exact h.nb b (.inr (.inr (hvE b e)))
        · rcases hK.gloc b e with e3 | e3
          · exact h.nb b (.inr (.inr (hvE b e3)))
          · omega
theorem Sv.start {w w1 : World} {N k : Nat} {U : Nat → Prop} {bv raw was : Value} {vs us : List Value} (h : Bs true w k U bv raw was [] vs us) (hN : ∀ b, U b → N ≤ b) (hq : Qt w w1) : Sv w (w1.setCell ⟨k, 1, none⟩ (.bool false)) N k raw was vs us 0 := by
  have hk : ∀ b, b ≠ k → (w1.setCell ⟨k, 1, none⟩ (.bool false)).heap[b]? = w.heap[b]? := fun b hb => by
    rw [Go.heap_setCell_other _ _ _ _ (by exact hb), hq.1]
  have hsz : (w1.setCell ⟨k, 1, none⟩ (.bool false)).heap.size = w.heap.size := by rw [World.size_setCell, hq.1]
  have hrow : (w1.setCell ⟨k, 1, none⟩ (.bool false)).heap[k]? = some (.cells #[bv, .bool false, raw, was] 32 (0, 0)) := by
    have h1 : w1.heap[k]? = some (.cells #[bv, .bool true, raw, was] 32 (0, 0)) := by rw [hq.1]; exact h.s.row
    exact Go.heap_setCell_same w1 _ 1 _ 32 _ h1
  have hEU : ∀ b, Ent raw was [] vs us b → U b := h.ue
  have hd1 : ∀ b, Ent raw was [] vs us b → b ≠ k ∧ bv.ownBlock ≠ some b := by
    rintro b (e | e | ⟨x, hx, e⟩)
    · exact ⟨h.rk b (.inl e), fun e2 => (h.br b e2).1 e⟩
    · exact ⟨h.rk b (.inr e), fun e2 => (h.br b e2).2 e⟩
    · exact ⟨(h.en x hx b e).1, (h.en x hx b e).2.1⟩
  have hbk : ∀ b, bv.ownBlock = some b → b ≠ k := fun b e => by
    obtain ⟨cs, hcs⟩ := rowCells h.s.bo e
    exact neType hcs h.s.row (by decide)
  refine ⟨bv, [], ⟨⟨hrow, rowKept h.s.bo fun g e => hk g (hbk g e), rowKept h.s.ro fun g e => hk g (h.rk g (.inl e)), rowKept h.s.wo fun g e => hk g (h.rk g (.inr e)), h.s.len, fun j u v h1 h2 => ?_, fun j v h1 => by simp at h1⟩, rfl, fun b e => by rw [hsz]; exact h.lt b (hEU b e), hd1, fun j x _ hx => ?_, fun j x _ hx b e => ?_, ?_, ?_⟩⟩
  · obtain ⟨l1, l2, a, b, c⟩ := h.s.re j u v h1 h2
    exact ⟨l1, l2, a.keptIf fun g e hg => hk g (hd1 g (.inr (.inr ⟨v, .inr (.inl (List.mem_of_getElem? h1)), blockOf_own e⟩))).1, b.keptIf fun g e hg => hk g (hd1 g (.inr (.inr ⟨u, .inr (.inr (List.mem_of_getElem? h2)), blockOf_own e⟩))).1, fun e => by cases e⟩
  · obtain ⟨l, h1, h2⟩ := h.own rfl x (List.mem_of_getElem? hx)
    exact ⟨l, rowKept h1 fun g hg => hk g (hd1 g (.inr (.inr ⟨x, .inr (.inl (List.mem_of_getElem? hx)), hg⟩))).1, h2⟩
  · obtain ⟨q1, q2, q3, q4⟩ := h.en x (.inr (.inl (List.mem_of_getElem? hx))) b e
    refine ⟨q3, q4, fun y hy => ?_, fun j' y hj hy => h.dis rfl j j' x y hx hy (fun e => hj e.symm) b e⟩
    rcases hy with hy | hy
    · cases hy
    · exact h.dus rfl x (List.mem_of_getElem? hx) y hy b e
  · exact (hq.2.mono (Nat.le_of_lt (Nat.lt_of_le_of_lt (hN k h.uk) (h.lt k h.uk)))).setCell (p := ⟨k, 1, none⟩) (hN k h.uk) _
  · rintro b (e | e | e)
    · exact hN b (e ▸ h.uk)
    · exact hN b (h.ub b e)
    · exact hN b (hEU b e)
theorem Sv.c {w0 wr : World} {N k i : Nat} {raw was : Value} {vs us : List Value} (h : Sv w0 wr N k raw was vs us i) : wr.cell? ⟨k, 2, none⟩ = some raw := by
  obtain ⟨bv, ys, h⟩ := h
  exact h.s.c 2
theorem Sv.cv {w0 wr : World} {N k i j : Nat} {was v : Value} {g : Option Addr} {len cap : Nat} {vs us : List Value} (h : Sv w0 wr N k (.slice g len cap) was vs us i) (hv : vs[j]? = some v) : ∃ b, g = some ⟨b, 0, none⟩ ∧ wr.cell? ⟨b, j, none⟩ = some v := by
  obtain ⟨bv, ys, h⟩ := h
  obtain ⟨b, cp, e, hc⟩ := rowCell h.s.ro hv
  simp only [Value.slice.injEq] at e
  exact ⟨b, e.1, hc⟩
end Go.Proofs.YtnjlbkbhlcccmaaDoor
namespace Go.Proofs.YtnjlbkbhlcccmaaDoor
open Go.RowKit Go.Shelf
set_option linter.unusedVariables false
set_option linter.unusedSimpArgs false
set_option maxRecDepth 20000

/-- two pairs and the book, beside each other, all newer than w0 -/
structure PW (X : Nat → Prop) (late : Bool) (w0 w : World) (pp qq k : Nat) (V V' : Nat → Prop) (c : Nat) : Prop where
  ex : ∃ U, BkB late w k U c ∧ ∀ b, U b → w0.heap.size ≤ b ∧ ¬ V b ∧ ¬ V' b ∧ ¬ X b
  p : PS w pp k V
  q : PS w qq k V'
  d : ∀ b, V b → ¬ V' b
  n : ∀ b, (V b ∨ V' b) → w0.heap.size ≤ b ∧ b < w.heap.size
  be : Below w0.heap.size w0 w
  x : ∀ b, X b → b < w.heap.size ∧ ¬ V b ∧ ¬ V' b
theorem PW.swap {X : Nat → Prop} {late : Bool} {w0 w : World} {pp qq k c : Nat} {V V' : Nat → Prop} (h : PW X late w0 w pp qq k V V' c) : PW X late w0 w qq pp k V' V c := by
  obtain ⟨U, h1, h2⟩ := h.ex
  exact ⟨⟨U, h1, fun b e => ⟨(h2 b e).1, (h2 b e).2.2.1, (h2 b e).2.1, (h2 b e).2.2.2⟩⟩, h.q, h.p, fun b h1 h2 => h.d b h2 h1, fun b e => h.n b e.symm, h.be, fun b e => ⟨(h.x b e).1, (h.x b e).2.2, (h.x b e).2.1⟩⟩
theorem PW.below {X : Nat → Prop} {late : Bool} {w0 w w' : World} {pp qq k c : Nat} {V V' : Nat → Prop} (h : PW X late w0 w pp qq k V V' c) (hb : Below w.heap.size w w') : PW X late w0 w' pp qq k V V' c := by
  obtain ⟨U, h1, h2⟩ := h.ex
  exact ⟨⟨U, h1.below hb, h2⟩, h.p.below hb, h.q.below hb, h.d, fun b e => ⟨(h.n b e).1, Nat.lt_of_lt_of_le (h.n b e).2 hb.size⟩, h.be.trans (hb.mono h.be.size), fun b e => ⟨Nat.lt_of_lt_of_le (h.x b e).1 hb.size, (h.x b e).2⟩⟩
theorem PW.more {X : Nat → Prop} {late : Bool} {w0 w : World} {pp qq k c d : Nat} {V V' : Nat → Prop} (h : PW X late w0 w pp qq k V V' c) (hd : c ≤ d) : PW X late w0 w pp qq k V V' d := by
  obtain ⟨U, h1, h2⟩ := h.ex
  exact ⟨⟨U, h1.more hd, h2⟩, h.p, h.q, h.d, h.n, h.be, h.x⟩
/-- a pair is there -/
def IsP (w : World) (pp k : Nat) (V : Nat → Prop) : Prop := ∃ L R n B, Pr w pp k L R n B ∧ ∀ b, PU pp L R b → V b
theorem IsP.c {w : World} {pp k : Nat} {V : Nat → Prop} (h : IsP w pp k V) : ∃ a, w.cell? ⟨pp, 0, none⟩ = some (.pointer (some a)) := by
  obtain ⟨L, R, n, B, h, -⟩ := h
  exact ⟨_, h.c 0⟩
theorem IsP.below {w w' : World} {pp k : Nat} {V : Nat → Prop} (h : IsP w pp k V) (hb : Below w.heap.size w w') : IsP w' pp k V := by
  obtain ⟨L, R, n, B, h, h2⟩ := h
  exact ⟨L, R, n, B, h.below hb, h2⟩
theorem PW.step {X : Nat → Prop} {late : Bool} {w0 w : World} {pp qq k c : Nat} {V V' : Nat → Prop} {s : OpV} (h : PW X late w0 w pp qq k V V' c) (hp : IsP w pp k V) (hT : TabAt w0) (hs : OpOk w0 s) (hc : c ≤ 4000000000000) :
    Calls Tryd.prog 7 #[.pointer (some ⟨pp, 0, none⟩), opV s] w fun e w' => e = .returned (.bool true) ∧ PW X late w0 w' pp qq k V V' (c + 1) ∧ IsP w' pp k V ∧ ∀ b, X b → w'.heap[b]? = w.heap[b]? := by
  obtain ⟨L, R, n, B, hp, hV⟩ := hp
  obtain ⟨U, hb, hU⟩ := h.ex
  refine (step_any hp (hT.below h.be) hb (fun b e hu => (hU b hu).2.1 (hV b e)) hc (hs.below h.be) fun hl b e hu => ?_).mono ?_
  · have := hs.w1.blk hl b e
    have := (h.n b (.inl (hV b hu))).1
    omega
  · rintro e w' ⟨rfl, B', U', h1, h2, h3, h4⟩
    have hsz := h3.size
    refine ⟨rfl, ⟨⟨U', h2, fun b e => ?_⟩, .inr ⟨L, R, n, B', h1, hV⟩, h.q.keep fun b hl e => h3.keep b hl ?_, h.d, fun b e => ⟨(h.n b e).1, Nat.lt_of_lt_of_le (h.n b e).2 hsz⟩, h.be.trans (h3.below h.be.size ?_), fun b e => ⟨Nat.lt_of_lt_of_le (h.x b e).1 hsz, (h.x b e).2⟩⟩, ⟨L, R, n, B', h1, hV⟩, fun b e => h3.keep b (h.x b e).1 ?_⟩
    · rcases h4 b e with e | e
      · exact hU b e
      · have hs0 := h.be.size
        exact ⟨by omega, fun e2 => by have := (h.n b (.inl e2)).2; omega, fun e2 => by have := (h.n b (.inr e2)).2; omega, fun e2 => by have := (h.x b e2).1; omega⟩
    · rintro (e2 | e2)
      · exact h.d b (hV b e2) e
      · exact (hU b e2).2.2.1 e
    · rintro b (e | e)
      · exact (h.n b (.inl (hV b e))).1
      · exact (hU b e).1
    · rintro (e2 | e2)
      · exact (h.x b e).2.1 (hV b e2)
      · exact (hU b e2).2.2.2 e
/-- the two pairs are made -/
theorem PW.start {late : Bool} {w0 w w1 w2 : World} {k c : Nat} {U U1 V : Nat → Prop} {pp qq : Nat} (hw : Below w0.heap.size w0 w) (hU : ∀ b, U b → w0.heap.size ≤ b) (a2 : PS w1 pp k V) (a3 : Chg U w w1) (a4 : ∀ b, U1 b → U b ∨ w.heap.size ≤ b) (a5 : ∀ b, V b → w.heap.size ≤ b ∧ b < w1.heap.size ∧ ¬ U1 b) (h2 : MkP late w1 w2 qq k U1 (c + 1)) : ∃ V', PW (fun _ => False) late w0 w2 pp qq k V V' (c + 2) := by
  obtain ⟨U2, V', b1, b2, b3, b4, b5⟩ := h2
  have hs := hw.size
  have hs1 := a3.size
  have hs2 := b3.size
  have hU1 : ∀ b, U1 b → w0.heap.size ≤ b := fun b e => (a4 b e).elim (hU b) fun e => by omega
  refine ⟨V', ⟨U2, b1, fun b e => ⟨(b4 b e).elim (hU1 b) fun e => by omega, fun e2 => ?_, fun e2 => (b5 b e2).2.2 e, fun e => e⟩⟩, a2.keep fun b hl e => b3.keep b hl fun e2 => (a5 b e).2.2 e2, b2, fun b e e2 => by have := (a5 b e).2.1; have := (b5 b e2).1; omega, ?_, (hw.trans (a3.below hs hU)).trans (b3.below (by omega) hU1), fun b e => e.elim⟩
  · rcases b4 b e with e | e
    · exact (a5 b e2).2.2 e
    · have := (a5 b e2).2.1; omega
  · rintro b (e | e)
    · have := a5 b e; exact ⟨by omega, by omega⟩
    · have := b5 b e; exact ⟨by omega, by omega⟩
/-- with an operation's box -/
theorem PW.box {late : Bool} {w0 w : World} {pp qq k c : Nat} {V V' : Nat → Prop} (h : PW (fun _ => False) late w0 w pp qq k V V' c) (o : Obj) : PW (fun b => b = w.heap.size) late w0 (w.alloc o) pp qq k V V' c := by
  have h2 := h.below ((Below.refl _ _).alloc (Nat.le_refl _) o)
  obtain ⟨U, h3, h4⟩ := h2.ex
  obtain ⟨U0, h5, h6⟩ := h.ex
  exact ⟨⟨U0, h5.below ((Below.refl _ _).alloc (Nat.le_refl _) o), fun b e => ⟨(h6 b e).1, (h6 b e).2.1, (h6 b e).2.2.1, fun e2 => by have := h5.lt b e; omega⟩⟩, h2.p, h2.q, h2.d, h2.n, h2.be, fun b e => ⟨by rw [World.size_alloc]; omega, fun e2 => by have := (h.n b (.inl e2)).2; omega, fun e2 => by have := (h.n b (.inr e2)).2; omega⟩⟩
theorem PW.unbox {X : Nat → Prop} {late : Bool} {w0 w : World} {pp qq k c : Nat} {V V' : Nat → Prop} (h : PW X late w0 w pp qq k V V' c) : PW (fun _ => False) late w0 w pp qq k V V' c := by
  obtain ⟨U, h1, h2⟩ := h.ex
  exact ⟨⟨U, h1, fun b e => ⟨(h2 b e).1, (h2 b e).2.1, (h2 b e).2.2.1, fun e => e⟩⟩, h.p, h.q, h.d, h.n, h.be, fun b e => e.elim⟩
theorem BkB.c1 {late : Bool} {w : World} {k c : Nat} {U : Nat → Prop} (h : BkB late w k U c) : w.cell? ⟨k, 1, none⟩ = some (.bool late) := by
  obtain ⟨_, _, _, _, _, _, h, _⟩ := h
  exact h.s.c 1
theorem made_p {late : Bool} {w : World} {k c : Nat} {U : Nat → Prop} {fr : Bool} {n : Int} {mv : Value} {l : List Nat} (hb : BkB late w k U c) (hc : c ≤ 4000000000000) (hv : WSl w mv l) (hr : l.length ≤ 17592186044416) :
    Calls Tryd.prog 5 #[.agg #[.bool fr, .int .i64 n, mv], .pointer (some ⟨k, 0, none⟩)] w fun e w' => ∃ pp, e = .returned (.tuple #[.pointer (some ⟨pp, 0, none⟩), .bool true]) ∧ MkP late w w' pp k U c :=
  (made_any hb hc hv hr).mono fun e w' hp => ⟨_, hp.1, hp.2⟩
end Go.Proofs.YtnjlbkbhlcccmaaDoor
namespace Go.Proofs.YtnjlbkbhlcccmaaDoor
open Go.RowKit Go.Shelf
set_option linter.unusedVariables false
set_option linter.unusedSimpArgs false
set_option maxRecDepth 20000

end Go.Proofs.YtnjlbkbhlcccmaaDoor
namespace Go.Proofs.YtnjlbkbhlcccmaaDoor
open Go.RowKit Go.Shelf
set_option linter.unusedVariables false
set_option linter.unusedSimpArgs false
set_option maxRecDepth 20000

theorem BkB.new {w : World} (late : Bool) : BkB late (w.alloc (.cells #[.slice none 0 0, .bool late, .slice none 0 0, .slice none 0 0] 32)) w.heap.size (fun b => b = w.heap.size) 0 := by
  refine ⟨.slice none 0 0, .slice none 0 0, .slice none 0 0, [], [], [], ⟨⟨Go.heap_alloc_new _ _, ⟨rfl, .inl ⟨rfl, rfl⟩⟩, ⟨rfl, .inl ⟨rfl, rfl⟩⟩, ⟨rfl, .inl ⟨rfl, rfl⟩⟩, rfl, fun j u v h => by simp at h, fun j v h => by simp at h⟩, rfl, rfl, fun b e => by simp [Value.ownBlock] at e, ?_, fun b e => by rw [World.size_alloc]; omega, fun b e => by simp [Value.ownBlock] at e, fun b e => by simp [Value.ownBlock] at e, fun b e => by simp [Value.ownBlock] at e, fun x hx => by simp at hx, fun _ x hx => by simp at hx, fun _ i j x y hx => by simp at hx, fun _ x hx => by simp at hx⟩, by simp, fun _ => rfl⟩
  rintro b (e | e | ⟨x, hx, e⟩)
  · simp [Value.ownBlock] at e
  · simp [Value.ownBlock] at e
  · simp at hx
end Go.Proofs.YtnjlbkbhlcccmaaDoor
namespace Go.Proofs.YtnjlbkbhlcccmaaDoor
open Go.RowKit Go.Shelf
attribute [local go_sem] Oper.semAt_some
set_option linter.unusedVariables false
set_option linter.unusedSimpArgs false
set_option maxRecDepth 20000

theorem BRep.uniq {w : World} {L : BL} {n B B' : Nat} (h : BRep w L n B) (h' : BRep w L n B') : B = B' := by
  have hlen : ∀ {B : Nat}, BRep w L n B → B < 2 ^ (64 * nW n) := fun h => Nat.lt_of_lt_of_le h.hB (Nat.pow_le_pow_right (by decide) (by unfold nW; omega))
  refine wd_ext (m := nW n) (fun k hk => ?_) (hlen h) (hlen h')
  have e := (h.cl hk).symm.trans (h'.cl hk)
  simp only [Option.some.injEq, Value.int.injEq, true_and] at e
  omega

theorem Runs_any (w : World) (L : BL) :
    Calls Tryd.prog 23 #[PB L] w fun r w' => r = .returned (.func (.func 53) #[] #[.pointer (some ⟨w.heap.size, 0, none⟩)]) ∧ w' = w.alloc (.cells #[PB L] 33) := by
  unfold PB
  go_enter Tryd.func23, Tryd.ntmps23
  go_wp2
  go_ret
  exact ⟨rfl, rfl⟩

/-- a run: where it begins, where it ends -/
def rnEnc (x : Nat × Nat) : Array Value := #[.int .i64 (x.1 : Int), .int .i64 ((x.2 : Int) - (x.1 : Int))]
def rnStep (L : BL) (n : Nat) (s : Nat) (x : Nat × Nat) (s' : Nat) (W : World) : Prop := ∃ B, BRep W L n B ∧ nx B n s = some x.1 ∧ x.2 = (nc B n x.1).getD n ∧ s' = x.2
def rnEnd (L : BL) (n : Nat) (s : Nat) (W : World) : Prop := ∃ B, BRep W L n B ∧ nx B n s = none
def rnInv (L : BL) (n b : Nat) (s : Nat) (W : World) : Prop := (∃ B, BRep W L n B) ∧ TabAt W ∧ W.cell? ⟨b, 0, none⟩ = some (PB L)
theorem run_ends {B n s i : Nat} (hs : s ≤ n) (h : nx B n s = some i) : s ≤ i ∧ i < (nc B n i).getD n ∧ (nc B n i).getD n ≤ n := by
  obtain ⟨h1, h2, h3, h4⟩ := fnd_is _ _ _ h
  cases hc : nc B n i with
  | none => simp only [Option.getD]; omega
  | some e =>
    obtain ⟨k1, k2, k3, k4⟩ := fnd_is _ _ _ hc
    simp only [Option.getD]
    refine ⟨h1, ?_, by omega⟩
    rcases Nat.lt_or_ge i e with hh | hh
    · exact hh
    · have : e = i := by omega
      rw [this, h3] at k3
      simp at k3

set_option maxHeartbeats 1000000 in
theorem runs_seq (m b : Nat) (L : BL) (n : Nat) :
    SeqSt Fence.wide m Tryd.prog 53 #[.pointer (some ⟨b, 0, none⟩)] rnEnc (rnStep L n) (rnEnd L n) (rnInv L n b) 0 := by
  intro l J Jx W hInv hJ hJx hY h0
  refine callsIn_of_wp Tryd.func53 rfl trivial ?_ rfl
  simp only [Tryd.ntmps53, List.size_toArray, List.length_cons, List.length_nil, Nat.reduceAdd, Nat.reduceSub, Array.replicate_succ, Array.replicate_zero, List.push_toArray, List.append_toArray, List.nil_append, List.cons_append]
  gi_wp2
  gi_loopw [3] (fun p wr => ∃ s : Nat, p = .int .i64 (s : Int) ∧ s ≤ n ∧ J s wr) (fun p wr => n - (intOf p).toNat)
  case atStart => exact ⟨0, rfl, Nat.zero_le _, h0⟩
  case round =>
    obtain ⟨s, rfl, hs, hj⟩ := hrel
    obtain ⟨⟨B, hR⟩, hT, hc⟩ := hInv s wr hj
    have hn := hR.n2
    have hN := Next_any hR hT (s : Int)
    rw [Int.toNat_natCast] at hN
    cases hx : nx B n s with
    | none =>
      rw [hx] at hN
      have HE : Hid (rnEnd L n s wr) := hide ⟨B, hR, hx⟩
      have HN := hide hN
      have HJ := hide hj
      simp only [orN] at HN
      clear hN hx hR hT hY hInv h0 hj
      unfold PB at *
      gi_wp2_with ((refine ⟨trivial, fun h => by simp [Fence.wide] at h, ?_⟩; gi_at_call 32; refine (callsIn_wide.2 HN.out).mono ?_; rintro e w' ⟨rfl, rfl⟩))
      refine bodyPost_ret (results_none rfl _ _ _) rfl ?_
      exact ⟨⟨_, rfl⟩, .inl ⟨s, HE.out, HJ.out⟩⟩
    | some i =>
      rw [hx] at hN
      obtain ⟨r1, r2, r3⟩ := run_ends hs hx
      have hE := endOfRun_any hR hT i
      have hYs := hY s (i, (nc B n i).getD n) _ wr hj ⟨B, hR, hx, rfl, rfl⟩
      generalize (nc B n i).getD n = en at *
      have HN := hide hN
      have HE := hide hE
      simp only [orN] at HN
      obtain ⟨fn, tmps, assign, body, hy, hR2⟩ := hYs
      simp only [rnEnc] at hy
      have HY := hide hY
      have HI := hide hInv
      clear hN hE hx hR hT hY hInv h0 hj
      unfold PB at *
      gi_wp2_with (first
        | (refine ⟨trivial, fun h => by simp [Fence.wide] at h, ?_⟩; gi_at_call 32; refine (callsIn_wide.2 HN.out).mono ?_; rintro e w' ⟨rfl, rfl⟩)
        | (refine ⟨trivial, fun h => by simp [Fence.wide] at h, ?_⟩; gi_at_call 54; refine (callsIn_wide.2 HE.out).mono ?_; rintro e w' ⟨rfl, rfl⟩))
      refine ⟨fun h => by simp [Fence.wide] at h, hR2.mono ?_⟩
      rintro r W3 (⟨rfl, hJ3⟩ | ⟨rfl, hJx3⟩)
      · gi_wp2
        go_roundw
        case rel => exact ⟨en, rfl, r3, hJ3⟩
        case measure => simp [intOf]; omega
      · gi_wp2
        refine bodyPost_ret (results_none rfl _ _ _) rfl ?_
        exact ⟨⟨_, rfl⟩, .inr hJx3⟩
end Go.Proofs.YtnjlbkbhlcccmaaDoor
namespace Go.Proofs.YtnjlbkbhlcccmaaDoor
open Go.RowKit Go.Shelf
set_option linter.unusedVariables false
set_option linter.unusedSimpArgs false
set_option maxRecDepth 20000

end Go.Proofs.YtnjlbkbhlcccmaaDoor
namespace Go.Proofs.YtnjlbkbhlcccmaaDoor
open Go.RowKit Go.Shelf
set_option linter.unusedVariables false
set_option linter.unusedSimpArgs false
set_option maxRecDepth 20000

theorem cnt_remove {f g : Nat → Bool} {c : Nat} (hc : f c = true) (hg : ∀ i, g i = (f i && decide (i ≠ c))) : ∀ n, c < n → cnt f n = cnt g n + 1
  | 0, h => by omega
  | n + 1, h => by
    simp only [cnt]
    by_cases e : c = n
    · subst e
      have : cnt f c = cnt g c := cnt_congr c fun i hi => by rw [hg]; have : i ≠ c := by omega
                                                             simp [this]
      rw [this, hc, hg]; simp
    · rw [cnt_remove hc hg n (by omega), hg n]
      have : n ≠ c := by omega
      simp [this]; omega
theorem low_bit {x : Nat} (h0 : x ≠ 0) (hx : x < 18446744073709551616) (i : Nat) : (x &&& (x - 1)).testBit i = (x.testBit i && decide (i ≠ Lib.ctz 64 x)) := by
  obtain ⟨m, hm, hk⟩ := Lib.ctzFrom_spec 64 x (by omega) hx
  have e : Lib.ctz 64 x = Lib.ctzFrom 64 x := by simp [Lib.ctz, h0]
  rw [e]
  generalize Lib.ctzFrom 64 x = c at hm hk
  have hp : 0 < 2 ^ c := Nat.two_pow_pos c
  have e1 : x - 1 = 2 ^ c * (2 * m) + (2 ^ c - 1) := by rw [hm, Nat.mul_add]; omega
  have b1 : ∀ j, (x - 1).testBit j = if j < c then true else (2 * m).testBit (j - c) := fun j => by
    rw [e1, Nat.testBit_two_pow_mul_add _ (by omega), Nat.testBit_two_pow_sub_one]
    by_cases hj : j < c <;> simp [hj]
  have b2 : ∀ j, x.testBit j = if j < c then false else (2 * m + 1).testBit (j - c) := fun j => by
    rw [hm, Nat.mul_comm, Nat.testBit_mul_two_pow]
    by_cases hj : j < c
    · have : ¬ c ≤ j := by omega
      simp [hj, this]
    · have : c ≤ j := by omega
      simp [hj, this]
  rw [Nat.testBit_and, b1, b2]
  by_cases hj : i < c
  · simp [hj]
  · simp only [hj, if_false]
    by_cases ei : i = c
    · subst ei; simp
    · obtain ⟨d, hd⟩ : ∃ d, i - c = d + 1 := ⟨i - c - 1, by omega⟩
      rw [hd, Nat.testBit_succ, Nat.testBit_succ]
      have : (2 * m + 1) / 2 = 2 * m / 2 := by omega
      rw [this]
      simp [ei]
theorem cnt_low {x : Nat} (h0 : x ≠ 0) (hx : x < 18446744073709551616) : cnt x.testBit 64 = cnt (x &&& (x - 1)).testBit 64 + 1 := by
  obtain ⟨h1, h2, h3⟩ := ctz_spec h0 hx
  exact cnt_remove h2 (low_bit h0 hx) 64 h1

/-- the bit that a shift and a mask tell -/
theorem bit_of_shift {B k : Nat} : bits BinOp.and IntKind.u64 (((wd B (k / 64) : Nat) : Int) / 2 ^ (k % 64)) 1 = (((B.testBit k).toNat : Nat) : Int) := by
  have hl : wd B (k / 64) / 2 ^ (k % 64) < 18446744073709551616 := Nat.lt_of_le_of_lt (Nat.div_le_self _ _) (wd_lt _ _)
  have e : ((wd B (k / 64) : Nat) : Int) / 2 ^ (k % 64) = ((wd B (k / 64) / 2 ^ (k % 64) : Nat) : Int) := by rw [Int.natCast_ediv]; simp
  have := u64_and_nat (wd B (k / 64) / 2 ^ (k % 64)) 1 hl (by decide)
  simp only [Int.natCast_one] at this
  rw [e, this, bit_of_wd, Nat.testBit, Nat.and_comm, Nat.shiftRight_eq_div_pow]
  generalize wd B (k / 64) / 2 ^ (k % 64) = y
  rw [Nat.one_and_eq_mod_two]
  rcases Nat.mod_two_eq_zero_or_one y with h | h <;> simp [h]
end Go.Proofs.YtnjlbkbhlcccmaaDoor
namespace Go.Proofs.YtnjlbkbhlcccmaaDoor
open Go.RowKit Go.Shelf
set_option linter.unusedVariables false
set_option linter.unusedSimpArgs false
set_option maxRecDepth 20000

theorem WSl.parts {w : World} {v : Value} {l : List Nat} (h : WSl w v l) (h0 : 0 < l.length) : ∃ b off cap, v = .slice (some ⟨b, off, none⟩) l.length cap ∧ l.length ≤ cap ∧ cap ≤ 9223372036854775807 ∧ ∀ i, i < l.length → w.cell? ⟨b, off + i, none⟩ = some (.int .u64 (l.getD i 0 : Nat)) := by
  obtain ⟨a, cap, rfl, h1, h2, h3, h4, h5⟩ := h
  obtain ⟨b, off, rfl, hc⟩ := h5 h0
  exact ⟨b, off, cap, rfl, h1, by unfold maxLen at h2; omega, hc⟩

end Go.Proofs.YtnjlbkbhlcccmaaDoor
namespace Go.Proofs.YtnjlbkbhlcccmaaDoor
open Go.RowKit Go.Shelf
set_option linter.unusedVariables false
set_option linter.unusedSimpArgs false
set_option maxRecDepth 20000

/-- a count of a range, in any world behind w -/
theorem count_in {w : World} {L : BL} {n B : Nat} (h : BRep w L n B) {a c k : Nat} (hac : a + c ≤ n) (hk : cnt (fun j => B.testBit (a + j)) c = k) {C K : Int} (hC : C = (c : Int)) (hK : K = (k : Int)) :
    ∀ W, Below w.heap.size w W → Calls Tryd.prog 45 #[PB L, .int .i64 (a : Int), .int .i64 C] W fun e w' => e = .returned (.tuple #[.int .i64 K, .int .i64 0]) ∧ Below w.heap.size w w' := by
  intro W hb
  subst hC hK
  have := CountRange_any (h.below hb) hac
  rw [hk] at this
  exact this.mono fun e w' hp => ⟨hp.1, hb.trans (hp.2.mono hb.size)⟩
theorem nx_facts {B n a i : Nat} (h : nx B n a = some i) (ha : a ≤ n) : a ≤ i ∧ i < n ∧ B.testBit i = true ∧ ∀ j, a ≤ j → j < i → B.testBit j = false := by
  obtain ⟨h1, h2, h3, h4⟩ := fnd_is _ _ _ h
  exact ⟨h1, by omega, h3, h4⟩
theorem nc_facts {B n a i : Nat} (h : nc B n a = some i) (ha : a ≤ n) : a ≤ i ∧ i < n ∧ B.testBit i = false ∧ ∀ j, a ≤ j → j < i → B.testBit j = true := by
  obtain ⟨h1, h2, h3, h4⟩ := fnd_is _ _ _ h
  exact ⟨h1, by omega, by simpa using h3, fun j hj hj' => by simpa using h4 j hj hj'⟩
theorem nx_no {B n a : Nat} (h : nx B n a = none) : ∀ j, a ≤ j → j < n → B.testBit j = false := fun j h1 h2 => fnd_isNone _ _ h j h1 (by omega)
theorem nc_no {B n a : Nat} (h : nc B n a = none) : ∀ j, a ≤ j → j < n → B.testBit j = true := fun j h1 h2 => by simpa using fnd_isNone _ _ h j h1 (by omega)

end Go.Proofs.YtnjlbkbhlcccmaaDoor
namespace Go.Proofs.YtnjlbkbhlcccmaaDoor
open Go.RowKit Go.Shelf
attribute [local go_sem] Oper.semAt_some
set_option linter.unusedVariables false
set_option linter.unusedSimpArgs false
set_option maxRecDepth 20000

theorem enters38 : ∀ args w, (callFunc 53 args).run Tryd.prog w = .ok (.enter 53 args) w := enters_of Tryd.func53 (by kernel_rfl) rfl

/-- between two rounds: N, M: where the boxes lie -/
structure TInv (w W : World) (N M : Nat) (L : BL) (n B s t : Nat) : Prop where
  rep : BRep W L n B
  tab : TabAt W
  bel : Below N w W
  b0 : W.heap[N]? = some (.cells #[.int .i64 (n : Int)] 3 (0, 0))
  b1 : W.heap[N + 1]? = some (.cells #[.bool false] 4 (0, 0))
  m0 : W.heap[M]? = some (.cells #[PB L] 33 (0, 0))
  m1 : W.heap[M + 1]? = some (.cells #[PB L] 33 (0, 0))
  m2 : W.heap[M + 1 + 1]? = some (.cells #[.int .i64 (s : Int)] 3 (0, 0))
  m3 : W.heap[M + 1 + 1 + 1]? = some (.cells #[.int .i64 (t : Int)] 3 (0, 0))
theorem TInv.own {w W W' : World} {row : Option Nat} {N M K : Nat} {L : BL} {n B s t : Nat} (h : TInv w W N M L n B s t) (hN : N ≤ K) (h0 : 0 < K) (hg : W.grownBy W' row) (hr : ∀ r, row = some r → K ≤ r ∧ ∃ o : Obj, W.heap[r]? = some o ∧ o.isCells = false) (hNW : N ≤ W.heap.size) : TInv w W' N M L n B s t :=
  ⟨own_rep h.rep hg hr, h.tab.of (hg.block _ h.tab.lt (fun e => by have := (hr _ e.symm).1; omega)), h.bel.grown hg hNW (fun k e => by have := (hr k e).1; omega),
    own_blk h.b0 hg hr, own_blk h.b1 hg hr, own_blk h.m0 hg hr, own_blk h.m1 hg hr, own_blk h.m2 hg hr, own_blk h.m3 hg hr⟩
theorem TInv.below {w W W' : World} {N M : Nat} {L : BL} {n B s t : Nat} (h : TInv w W N M L n B s t) (hb : Below W.heap.size W W') : TInv w W' N M L n B s t := by
  have k : ∀ {b o}, W.heap[b]? = some o → W'.heap[b]? = some o := fun hh => (hb.block _ (Array.getElem?_eq_some_iff.1 hh).1).trans hh
  have hN : N ≤ W.heap.size := Nat.le_of_lt (Array.getElem?_eq_some_iff.1 h.b0).1
  exact ⟨h.rep.below hb, h.tab.below hb, h.bel.trans (hb.mono hN), k h.b0, k h.b1, k h.m0, k h.m1, k h.m2, k h.m3⟩

theorem cnt_gap {B s i e : Nat} (h1 : s ≤ i) (h2 : i ≤ e) (hz : ∀ j, s ≤ j → j < i → B.testBit j = false) (ho : ∀ j, i ≤ j → j < e → B.testBit j = true) : cnt B.testBit e = cnt B.testBit s + (e - i) := by
  obtain ⟨d, rfl⟩ : ∃ d, i = s + d := ⟨i - s, by omega⟩
  obtain ⟨c, rfl⟩ : ∃ c, e = s + d + c := ⟨e - (s + d), by omega⟩
  rw [cnt_add, cnt_add, cnt_zero d (fun j hj => hz _ (by omega) (by omega)), cnt_full c (fun j hj => ho _ (by omega) (by omega))]
  omega
theorem run_all {B n i : Nat} (hi : B.testBit i = true) (hin : i < n) : (∀ j, i ≤ j → j < (nc B n i).getD n → B.testBit j = true) ∧ ((nc B n i).getD n < n → B.testBit ((nc B n i).getD n) = false) := by
  cases hc : nc B n i with
  | none => exact ⟨fun j h1 h2 => nc_no hc j h1 h2, fun h => by simp at h⟩
  | some e =>
    obtain ⟨k1, k2, k3, k4⟩ := nc_facts hc (by omega)
    exact ⟨fun j h1 h2 => k4 j h1 h2, fun _ => k3⟩

/-- the two boxes are written -/
theorem TInv.stored {w W : World} {N M : Nat} {L : BL} {n B s t s' t' : Nat} (h : TInv w W N M L n B s t) (hNM : N + 1 < M) (hU : ∀ b, L.U b → b < M) (hg : 0 < N) {S T : Int} (hS : S = (s' : Int)) (hT : T = (t' : Int)) :
    TInv w ((W.setCell ⟨M + 1 + 1 + 1, 0, none⟩ (.int .i64 T)).setCell ⟨M + 1 + 1, 0, none⟩ (.int .i64 S)) N M L n B s' t' ∧ ∀ K, KeepsFrom K W ((W.setCell ⟨M + 1 + 1 + 1, 0, none⟩ (.int .i64 T)).setCell ⟨M + 1 + 1, 0, none⟩ (.int .i64 S)) := by
  subst hS hT
  have oth : ∀ b, b ≠ M + 1 + 1 → b ≠ M + 1 + 1 + 1 → ((W.setCell ⟨M + 1 + 1 + 1, 0, none⟩ (.int .i64 (t' : Int))).setCell ⟨M + 1 + 1, 0, none⟩ (.int .i64 (s' : Int))).heap[b]? = W.heap[b]? := fun b h1 h2 => by
    rw [Go.heap_setCell_other _ _ _ _ h1, Go.heap_setCell_other _ _ _ _ h2]
  refine ⟨⟨h.rep.kept fun b hu => oth b (by have := hU b hu; omega) (by have := hU b hu; omega), h.tab.of (oth _ (by omega) (by omega)), (h.bel.setCell (p := ⟨M + 1 + 1 + 1, 0, none⟩) (by show N ≤ M + 1 + 1 + 1; omega) _).setCell (p := ⟨M + 1 + 1, 0, none⟩) (by show N ≤ M + 1 + 1; omega) _, ?_, ?_, ?_, ?_, ?_, ?_⟩, fun K => ⟨by simp [World.setCell], fun b o hb ho hc => ?_⟩⟩
  · rw [oth _ (by omega) (by omega)]; exact h.b0
  · rw [oth _ (by omega) (by omega)]; exact h.b1
  · rw [oth _ (by omega) (by omega)]; exact h.m0
  · rw [oth _ (by omega) (by omega)]; exact h.m1
  · rw [Go.heap_setCell_same _ _ 0 _ 3 _ ((Go.heap_setCell_other _ _ _ _ (by show M + 1 + 1 ≠ M + 1 + 1 + 1; omega)).trans h.m2)]; rfl
  · rw [Go.heap_setCell_other _ _ _ _ (by show M + 1 + 1 + 1 ≠ M + 1 + 1; omega), Go.heap_setCell_same _ _ 0 _ 3 _ h.m3]; rfl
  · rw [oth b (fun e => by rw [e, h.m2] at ho; cases ho; simp [Obj.isCells] at hc) (fun e => by rw [e, h.m3] at ho; cases ho; simp [Obj.isCells] at hc)]
    exact ho
theorem fnEqNil (W : World) (f : Nat) (a b : Array Value) : (binOp .eql 59 (.func (.func f) a b) .nilFunc).run Tryd.prog W = .ok (.bool false) W := by kernel_rfl
end Go.Proofs.YtnjlbkbhlcccmaaDoor
namespace Go.Proofs.YtnjlbkbhlcccmaaDoor
open Go.RowKit Go.Shelf
attribute [local go_sem] Oper.semAt_some
set_option linter.unusedVariables false
set_option linter.unusedSimpArgs false
set_option maxRecDepth 20000

theorem KeepsFrom.ofBelow {W W' : World} (h : Below W.heap.size W W') (K : Nat) : KeepsFrom K W W' := ⟨h.size, fun b o _ hb _ => (h.block b (Array.getElem?_eq_some_iff.1 hb).1).trans hb⟩

end Go.Proofs.YtnjlbkbhlcccmaaDoor
namespace Go.Proofs.YtnjlbkbhlcccmaaDoor
open Go.RowKit Go.Shelf
attribute [local go_sem] Oper.semAt_some
set_option linter.unusedVariables false
set_option linter.unusedSimpArgs false
set_option maxRecDepth 20000

/-- only blocks at or beyond N that are no cells have turned -/
structure Turned (N : Nat) (w w' : World) : Prop where
  os : w'.os = w.os
  tape : w'.tape = w.tape
  output : w'.output = w.output
  size : w'.heap.size = w.heap.size
  low : ∀ b : Nat, b < N → w'.heap[b]? = w.heap[b]?
  cells : ∀ (b : Nat) (cs : Array Value) (t : TypeId) (fz : Nat × Nat), w.heap[b]? = some (Obj.cells cs t fz) → w'.heap[b]? = some (Obj.cells cs t fz)
theorem Turned.refl (N : Nat) (w : World) : Turned N w w := ⟨rfl, rfl, rfl, rfl, fun _ _ => rfl, fun _ _ _ _ h => h⟩
theorem Turned.trans {N : Nat} {a b c : World} (h : Turned N a b) (k : Turned N b c) : Turned N a c :=
  ⟨k.os.trans h.os, k.tape.trans h.tape, k.output.trans h.output, k.size.trans h.size, fun i hi => (k.low i hi).trans (h.low i hi), fun i cs t fz hh => k.cells i cs t fz (h.cells i cs t fz hh)⟩
theorem Turned.putObj {N D : Nat} {w : World} {o o' : Obj} (hD : N ≤ D) (hw : w.heap[D]? = some o) (ho : o.isCells = false) : Turned N w (w.putObj D o') := by
  have hg := grownBy_putObj' w D o'
  have hlt := (Array.getElem?_eq_some_iff.1 hw).1
  refine ⟨hg.os, hg.tape, hg.output, by simp [World.putObj], fun b hb => World.putObj_heap_other (by omega), fun b cs t fz hb => ?_⟩
  rw [World.putObj_heap_other (fun e => by rw [e, hw] at hb; cases hb; simp [Obj.isCells] at ho)]
  exact hb
theorem Turned.rep {N : Nat} {w w' : World} {L : BL} {n B : Nat} (h : Turned N w w') (hR : BRep w L n B) : BRep w' L n B := ⟨hR.n1, hR.n2, hR.hB, h.cells _ _ _ _ hR.hp, h.cells _ _ _ _ hR.hlo, h.cells _ _ _ _ hR.hhi, hR.ne⟩
theorem Turned.below {N : Nat} {w w1 w2 : World} (h : Below N w w1) (k : Turned N w1 w2) : Below N w w2 := ⟨k.os.trans h.os, k.tape.trans h.tape, k.output.trans h.output, by rw [k.size]; exact h.size, fun b hb => (k.low b hb).trans (h.block b hb)⟩
theorem Turned.cell {N : Nat} {w w' : World} (h : Turned N w w') {b o : Nat} {cs : Array Value} {t : TypeId} {fz : Nat × Nat} (hb : w.heap[b]? = some (.cells cs t fz)) : w'.cell? ⟨b, o, none⟩ = w.cell? ⟨b, o, none⟩ :=
  World.cell?_of_block ((h.cells b cs t fz hb).trans hb.symm)

/-- the marks of the loops, and where they lie -/
def MarksAt (N : Nat) (w : World) (ds : List Deferred) : Prop := Marks w ds ∧ ∀ d ∈ ds, ∃ D, d.target = .collected D ∧ N ≤ D
theorem Marks.turn {w : World} {D : Nat} {o' : Obj} : ∀ {ds : List Deferred}, Marks w ds → (∀ d ∈ ds, d.target ≠ .collected D) → Marks (w.putObj D o') ds
  | [], _, _ => trivial
  | d :: ds, h, hne => by
    obtain ⟨⟨E, rfl, hE, hr⟩, hm⟩ := h
    refine ⟨⟨E, rfl, ?_, hr⟩, Marks.turn hm fun d' hd' => hne d' (List.mem_cons_of_mem _ hd')⟩
    rw [World.putObj_heap_other (fun e => hne _ List.mem_cons_self (by rw [e]))]
    exact hE
theorem leaves_marks {F : Fence} {m : Nat} {P : Program} {fn : Func} {tmps : Array Value} {R : Ending → World → Prop} {N : Nat} : ∀ (ds : List Deferred) (W : World), MarksAt N W ds →
    (∀ W', Turned N W W' → ∃ v, (results fn tmps).run P W' = .ok v W' ∧ R (.returned v) W') → LeavesInM F m P fn tmps R ds .returning W
  | [], W, _, h => h W (Turned.refl _ _)
  | d :: ds, W, hm, h => by
    obtain ⟨⟨⟨D, rfl, hD, hr⟩, hm2⟩, hN⟩ := hm
    obtain ⟨D', e, hND⟩ := hN _ List.mem_cons_self
    cases e
    refine ⟨by simp, .inl ⟨D, _, rfl, run_takeDeferred hD, ?_⟩⟩
    refine leaves_marks ds _ ⟨hm2.turn hr, fun d hd => hN d (List.mem_cons_of_mem _ hd)⟩ fun W' hW' => h W' ((Turned.putObj hND hD rfl).trans hW')
theorem Marks.keeps {N : Nat} {w w' : World} (hk : KeepsFrom N w w') : ∀ {ds : List Deferred}, MarksAt N w ds → MarksAt N w' ds
  | [], _ => ⟨trivial, fun _ h => by cases h⟩
  | d :: ds, h => by
    obtain ⟨⟨⟨E, rfl, hE, hr⟩, hm⟩, hN⟩ := h
    obtain ⟨D', e, hND⟩ := hN _ List.mem_cons_self
    cases e
    have ih := Marks.keeps hk (ds := ds) ⟨hm, fun d hd => hN d (List.mem_cons_of_mem _ hd)⟩
    exact ⟨⟨⟨E, rfl, hk.same E _ hND hE rfl, hr⟩, ih.1⟩, hN⟩
end Go.Proofs.YtnjlbkbhlcccmaaDoor
namespace Go.Proofs.YtnjlbkbhlcccmaaDoor
open Go.RowKit Go.Shelf
attribute [local go_sem] Oper.semAt_some
set_option linter.unusedVariables false
set_option linter.unusedSimpArgs false
set_option maxRecDepth 20000

/-- a list of lists of words -/
def LSl (w : World) (v : Value) (ls : List (List Nat)) : Prop :=
  ∃ a cap, v = .slice a ls.length cap ∧ ls.length ≤ cap ∧ cap ≤ maxLen ∧
    (0 < ls.length → ∃ b off, a = some ⟨b, off, none⟩ ∧ ∀ i, i < ls.length → ∃ u, w.cell? ⟨b, off + i, none⟩ = some u ∧ WSl w u (ls.getD i []))
theorem LSl.below {w w' : World} {v : Value} {ls : List (List Nat)} (h : LSl w v ls) (hb : Below w.heap.size w w') : LSl w' v ls := by
  obtain ⟨a, cap, rfl, h1, h2, h5⟩ := h
  refine ⟨a, cap, rfl, h1, h2, fun hp => ?_⟩
  obtain ⟨b, off, rfl, hc⟩ := h5 hp
  refine ⟨b, off, rfl, fun i hi => ?_⟩
  obtain ⟨u, hu, hw⟩ := hc i hi
  exact ⟨u, cell_below hb hu, hw.below hb⟩

/-- the bits of all -/
def orAll (ls : List (List Nat)) : Nat := ls.foldl (fun B l => B ||| valW l) 0
theorem orAll_take {ls : List (List Nat)} {k : Nat} (h : k < ls.length) : orAll (ls.take (k + 1)) = orAll (ls.take k) ||| valW (ls.getD k []) := by
  unfold orAll
  rw [List.take_succ_eq_append_getElem h, List.foldl_append]
  simp [List.getD, h]
theorem orAll_lt {n : Nat} : ∀ (ls : List (List Nat)), (∀ l ∈ ls, valW l < 2 ^ n) → orAll ls < 2 ^ n := by
  intro ls
  have key : ∀ (ls : List (List Nat)) (B : Nat), B < 2 ^ n → (∀ l ∈ ls, valW l < 2 ^ n) → ls.foldl (fun B l => B ||| valW l) B < 2 ^ n := by
    intro ls
    induction ls with
    | nil => exact fun B hB _ => hB
    | cons l r ih => exact fun B hB h => ih _ (or_lt hB (h l List.mem_cons_self)) fun x hx => h x (List.mem_cons_of_mem _ hx)
  exact key ls 0 (Nat.two_pow_pos _)
/-- what has been laid when the runs up to s have come -/
def lowU (B V s : Nat) : Nat := B ||| V % 2 ^ s
theorem lowU_zero (B V : Nat) : lowU B V 0 = B := by simp [lowU, Nat.mod_one]
theorem lowU_step {B V n s i e : Nat} (h1 : s ≤ i) (h2 : i ≤ e) (hz : ∀ j, s ≤ j → j < i → V.testBit j = false) (ho : ∀ j, i ≤ j → j < e → V.testBit j = true) : setR (lowU B V s) i e = lowU B V e := by
  apply Nat.eq_of_testBit_eq
  intro j
  unfold lowU
  rw [testBit_setR, Nat.testBit_or, Nat.testBit_or, Nat.testBit_mod_two_pow, Nat.testBit_mod_two_pow]
  by_cases q1 : j < s
  · have : ¬ i ≤ j := by omega
    have : j < e := by omega
    simp [q1, *]
  · by_cases q2 : j < i
    · have a1 : ¬ i ≤ j := by omega
      have a2 := hz j (by omega) q2
      have a3 : j < e := by omega
      simp [q1, a1, a2, a3]
    · have a1 : i ≤ j := by omega
      by_cases q3 : j < e
      · simp [q1, a1, q3, ho j a1 q3]
      · simp [q1, a1, q3]
theorem lowU_end {B V n s : Nat} (hV : V < 2 ^ n) (hz : ∀ j, s ≤ j → j < n → V.testBit j = false) : lowU B V s = B ||| V := by
  unfold lowU
  congr 1
  apply Nat.mod_eq_of_lt
  apply lt_of_bits
  intro i hi
  by_cases q : i < n
  · exact hz i hi q
  · exact bit_ge hV (by omega)
theorem lowU_lt {B V n s : Nat} (hB : B < 2 ^ n) (hV : V < 2 ^ n) : lowU B V s < 2 ^ n := or_lt hB (Nat.lt_of_le_of_lt (Nat.mod_le _ _) hV)

/-- in the loop over the runs of one list -/
structure UInv (w W : World) (N ub rb : Nat) (Lu Lm : BL) (n B V : Nat) (ds : List Deferred) : Prop where
  ru : BRep W Lu n B
  rm : BRep W Lm n V
  tab : TabAt W
  bel : Below N w W
  b0 : W.heap[ub]? = some (.cells #[PB Lu] 33 (0, 0))
  b1 : W.heap[rb]? = some (.cells #[PB Lm] 33 (0, 0))
  ms : MarksAt N W ds
theorem MarksAt.own {N K : Nat} {W W' : World} {row : Option Nat} (hg : W.grownBy W' row) (hr : ∀ r, row = some r → K ≤ r ∧ ∃ o : Obj, W.heap[r]? = some o ∧ o.isCells = false) :
    ∀ {ds : List Deferred}, MarksAt N W ds → (∀ d ∈ ds, ∀ D, d.target = .collected D → D < K) → MarksAt N W' ds
  | [], _, _ => ⟨trivial, fun _ h => by cases h⟩
  | d :: ds, h, hK => by
    obtain ⟨⟨⟨E, rfl, hE, hrr⟩, hm⟩, hN⟩ := h
    have ih := MarksAt.own hg hr (ds := ds) ⟨hm, fun d hd => hN d (List.mem_cons_of_mem _ hd)⟩ fun d hd => hK d (List.mem_cons_of_mem _ hd)
    have hEK := hK _ List.mem_cons_self E rfl
    refine ⟨⟨⟨E, rfl, ?_, hrr⟩, ih.1⟩, hN⟩
    rw [hg.block E (Array.getElem?_eq_some_iff.1 hE).1 (fun e => by have := (hr E e.symm).1; omega)]
    exact hE
theorem UInv.own {w W W' : World} {row : Option Nat} {N K ub rb : Nat} {Lu Lm : BL} {n B V : Nat} {ds : List Deferred} (h : UInv w W N ub rb Lu Lm n B V ds) (hN : N ≤ K) (h0 : 0 < K) (hK : ∀ d ∈ ds, ∀ D, d.target = .collected D → D < K) (hNW : N ≤ W.heap.size) (hg : W.grownBy W' row) (hr : ∀ r, row = some r → K ≤ r ∧ ∃ o : Obj, W.heap[r]? = some o ∧ o.isCells = false) : UInv w W' N ub rb Lu Lm n B V ds :=
  ⟨own_rep h.ru hg hr, own_rep h.rm hg hr, h.tab.of (hg.block _ h.tab.lt (fun e => by have := (hr _ e.symm).1; omega)), h.bel.grown hg hNW (fun k e => by have := (hr k e).1; omega), own_blk h.b0 hg hr, own_blk h.b1 hg hr, h.ms.own hg hr hK⟩
theorem KeepsFrom.ofChg {L : BL} {n B : Nat} {W W' : World} (h : Chg L.U W W') (hR : BRep W L n B) (K : Nat) : KeepsFrom K W W' := ⟨h.size, fun b o _ hb hc => (h.keep b (Array.getElem?_eq_some_iff.1 hb).1 (fun hu => by
  rcases hu with rfl | rfl | rfl
  · rw [hR.hp] at hb; cases hb; simp [Obj.isCells] at hc
  · rw [hR.hlo] at hb; cases hb; simp [Obj.isCells] at hc
  · rw [hR.hhi] at hb; cases hb; simp [Obj.isCells] at hc)).trans hb⟩
theorem UInv.set {w W W' : World} {N ub rb : Nat} {Lu Lm : BL} {n B B' V : Nat} {ds : List Deferred} (h : UInv w W N ub rb Lu Lm n B V ds) (hr : BRep W' Lu n B') (hc : Chg Lu.U W W') (hNu : ∀ b, Lu.U b → N ≤ b) (hg : 0 < N) (hne : ∀ b, Lm.U b → ¬ Lu.U b) (hub : ¬ Lu.U ub) (hrb : ¬ Lu.U rb) (hNW : N ≤ W.heap.size) : UInv w W' N ub rb Lu Lm n B' V ds := by
  have k : ∀ {b o}, W.heap[b]? = some o → ¬ Lu.U b → W'.heap[b]? = some o := fun hb hu => (hc.keep _ (Array.getElem?_eq_some_iff.1 hb).1 hu).trans hb
  exact ⟨hr, h.rm.chg hc hne, h.tab.of (hc.keep _ h.tab.lt (fun hu => by have := hNu _ hu; omega)), h.bel.trans (hc.below hNW hNu), k h.b0 hub, k h.b1 hrb, Marks.keeps (KeepsFrom.ofChg hc h.ru N) h.ms⟩
end Go.Proofs.YtnjlbkbhlcccmaaDoor
namespace Go.Proofs.YtnjlbkbhlcccmaaDoor
open Go.RowKit Go.Shelf
attribute [local go_sem] Oper.semAt_some
set_option linter.unusedVariables false
set_option linter.unusedSimpArgs false
set_option maxRecDepth 20000

theorem All_any (w : World) (L : BL) :
    Calls Tryd.prog 16 #[PB L] w fun r w' => r = .returned (.func (.func 31) #[] #[.pointer (some ⟨w.heap.size, 0, none⟩)]) ∧ w' = w.alloc (.cells #[PB L] 33) := by
  unfold PB
  go_enter Tryd.func16, Tryd.ntmps16
  go_wp2
  go_ret
  exact ⟨rfl, rfl⟩
def alEnc (x : Nat) : Array Value := #[.int .i64 (x : Int)]
def alStep (L : BL) (n : Nat) (s : Nat) (x : Nat) (s' : Nat) (W : World) : Prop := ∃ B, BRep W L n B ∧ nx B n s = some x ∧ s' = x + 1
def alEnd (L : BL) (n : Nat) (s : Nat) (W : World) : Prop := ∃ B, BRep W L n B ∧ nx B n s = none
def alInv (L : BL) (n b : Nat) (s : Nat) (W : World) : Prop := (∃ B, BRep W L n B) ∧ TabAt W ∧ W.cell? ⟨b, 0, none⟩ = some (PB L)
theorem enters_all : ∀ args w, (callFunc 31 args).run Tryd.prog w = .ok (.enter 31 args) w := enters_of Tryd.func31 (by kernel_rfl) rfl

set_option maxHeartbeats 1000000 in
theorem all_seq (m b : Nat) (L : BL) (n : Nat) :
    SeqSt Fence.wide m Tryd.prog 31 #[.pointer (some ⟨b, 0, none⟩)] alEnc (alStep L n) (alEnd L n) (alInv L n b) 0 := by
  intro l J Jx W hInv hJ hJx hY h0
  refine callsIn_of_wp Tryd.func31 rfl trivial ?_ rfl
  simp only [Tryd.ntmps31, List.size_toArray, List.length_cons, List.length_nil, Nat.reduceAdd, Nat.reduceSub, Array.replicate_succ, Array.replicate_zero, List.push_toArray, List.append_toArray, List.nil_append, List.cons_append]
  gi_wp2
  gi_loopw [3] (fun p wr => ∃ s : Nat, p = .int .i64 (s : Int) ∧ s ≤ n ∧ J s wr) (fun p wr => n - (intOf p).toNat)
  case atStart => exact ⟨0, rfl, Nat.zero_le _, h0⟩
  case round =>
    obtain ⟨s, rfl, hs, hj⟩ := hrel
    obtain ⟨⟨B, hR⟩, hT, hc⟩ := hInv s wr hj
    have hn := hR.n2
    have hN := Next_any hR hT (s : Int)
    rw [Int.toNat_natCast] at hN
    cases hx : nx B n s with
    | none =>
      rw [hx] at hN
      have HE : Hid (alEnd L n s wr) := hide ⟨B, hR, hx⟩
      have HN := hide hN
      have HJ := hide hj
      simp only [orN] at HN
      clear hN hx hR hT hY hInv h0 hj
      unfold PB at *
      gi_wp2_with ((refine ⟨trivial, fun h => by simp [Fence.wide] at h, ?_⟩; gi_at_call 32; refine (callsIn_wide.2 HN.out).mono ?_; rintro e w' ⟨rfl, rfl⟩))
      refine ⟨(fun f h => nomatch h), ?_⟩
      gi_wp2
      refine bodyPost_ret (results_none rfl _ _ _) rfl ?_
      exact ⟨⟨_, rfl⟩, .inl ⟨s, HE.out, HJ.out⟩⟩
    | some i =>
      rw [hx] at hN
      obtain ⟨r1, r2, r3, r4⟩ := nx_facts hx hs
      have hYs := hY s i _ wr hj ⟨B, hR, hx, rfl⟩
      have HN := hide hN
      simp only [orN] at HN
      obtain ⟨fn, tmps, assign, body, hy, hR2⟩ := hYs
      simp only [alEnc] at hy
      have HY := hide hY
      have HI := hide hInv
      clear hN hx hR hT hY hInv h0 hj r3 r4
      have hneg : ¬ (i : Int) < 0 := by omega
      unfold PB at *
      gi_wp2_with (first
        | (refine ⟨trivial, fun h => by simp [Fence.wide] at h, ?_⟩; gi_at_call 32; refine (callsIn_wide.2 HN.out).mono ?_; rintro e w' ⟨rfl, rfl⟩))
      refine ⟨fun h => by simp [Fence.wide] at h, hR2.mono ?_⟩
      rintro r W3 (⟨rfl, hJ3⟩ | ⟨rfl, hJx3⟩)
      · gi_wp2
        go_roundw
        case rel => exact ⟨i + 1, by go_num, r2, hJ3⟩
        case measure => simp [intOf]; omega
      · gi_wp2
        refine bodyPost_ret (results_none rfl _ _ _) rfl ?_
        exact ⟨⟨_, rfl⟩, .inr hJx3⟩
end Go.Proofs.YtnjlbkbhlcccmaaDoor
namespace Go.Proofs.YtnjlbkbhlcccmaaDoor
open Go.RowKit Go.Shelf
attribute [local go_sem] Oper.semAt_some
set_option linter.unusedVariables false
set_option linter.unusedSimpArgs false
set_option maxRecDepth 20000

/-- the marks that the loops over iterators leave, between N and T -/
def MK (N T : Nat) (w : World) (ds : List Deferred) : Prop := Marks w ds ∧ ∀ d ∈ ds, ∃ D, d.target = .collected D ∧ N ≤ D ∧ D < T
theorem MK.kept {N T : Nat} {w w' : World} (hk : ∀ D : Nat, N ≤ D → D < T → w.heap[D]? = some (.deferred (some [])) → w'.heap[D]? = some (.deferred (some []))) : ∀ {ds : List Deferred}, MK N T w ds → MK N T w' ds
  | [], _ => ⟨trivial, fun _ h => by cases h⟩
  | d :: ds, h => by
    obtain ⟨⟨⟨E, rfl, hE, hr⟩, hm⟩, hN⟩ := h
    obtain ⟨D', e, hND, hT⟩ := hN _ List.mem_cons_self
    cases e
    have ih := MK.kept hk (ds := ds) ⟨hm, fun d hd => hN d (List.mem_cons_of_mem _ hd)⟩
    exact ⟨⟨⟨E, rfl, hk E hND hT hE, hr⟩, ih.1⟩, hN⟩
theorem MK.more {N T T' D : Nat} {w : World} {ds : List Deferred} (h : MK N T w ds) (hN : N ≤ D) (hT : T ≤ D) (hD : D < T') (hK : w.heap[D]? = some (.deferred (some []))) : MK N T' w ({ target := .collected D, args := #[] } :: ds) := by
  refine ⟨⟨⟨D, rfl, hK, fun d' hd' e => ?_⟩, h.1⟩, fun d hd => ?_⟩
  · obtain ⟨E, e1, _, e3⟩ := h.2 d' hd'
    rw [e1] at e
    cases e
    omega
  · rcases List.mem_cons.1 hd with rfl | hd
    · exact ⟨D, rfl, by omega, hD⟩
    · obtain ⟨E, e1, e2, e3⟩ := h.2 d hd
      exact ⟨E, e1, e2, by omega⟩
theorem MK.mono {N T T' : Nat} {w : World} {ds : List Deferred} (h : MK N T w ds) (hT : T ≤ T') : MK N T' w ds := ⟨h.1, fun d hd => by obtain ⟨E, e1, e2, e3⟩ := h.2 d hd; exact ⟨E, e1, e2, by omega⟩⟩
theorem nodup_inj {α : Type} {l : List α} (hd : l.Nodup) {i j : Nat} {x : α} (hi : l[i]? = some x) (hj : l[j]? = some x) : i = j := by
  obtain ⟨h1, h2⟩ := List.getElem?_eq_some_iff.1 hi
  obtain ⟨h3, h4⟩ := List.getElem?_eq_some_iff.1 hj
  have hp := List.pairwise_iff_getElem.1 hd
  rcases Nat.lt_trichotomy i j with h | h | h
  · exact absurd (h2.trans h4.symm) (hp i j h1 h3 h)
  · exact h
  · exact absurd (h4.trans h2.symm) (hp j i h3 h1 h)
/-- a run of a law's function on a pair: the pair, the function's boxes, the marks of its loops; w: the world of the call -/
structure SB (w W : World) (pp k n : Nat) (L : BL) (R : RL) (bs : List (Nat × Array Value × TypeId)) (T : Nat) (ds : List Deferred) (B : Nat) : Prop where
  p : Pr W pp k L R n B
  t : TabAt W
  ch : Chg (PU pp L R) w W
  bx : ∀ x ∈ bs, W.heap[x.1]? = some (.cells x.2.1 x.2.2 (0, 0)) ∧ w.heap.size ≤ x.1
  nd : (bs.map (·.1)).Nodup
  ms : MK w.heap.size T W ds
  lt : T ≤ W.heap.size
  lo : w.heap.size ≤ T
  pl : ∀ b, PU pp L R b → b < w.heap.size
  tp : ¬ PU pp L R 0
theorem SB.start {w : World} {pp k n B : Nat} {L : BL} {R : RL} (h : Pr w pp k L R n B) (hT : TabAt w) (hp : ¬ PU pp L R 0) : SB w w pp k n L R [] w.heap.size [] B :=
  ⟨h, hT, Chg.ofBelow (Below.refl _ _), fun x hx => (by cases hx), by simp, ⟨trivial, fun d hd => by cases hd⟩, Nat.le_refl _, Nat.le_refl _, h.lt, hp⟩
section
variable {w W W' : World} {pp k n B B' T T' K : Nat} {L : BL} {R : RL} {bs : List (Nat × Array Value × TypeId)} {ds : List Deferred}
theorem SB.below (h : SB w W pp k n L R bs T ds B) (hb : Below W.heap.size W W') : SB w W' pp k n L R bs T ds B :=
  ⟨h.p.below hb, h.t.below hb, h.ch.trans (Chg.ofBelow hb), fun x hx => ⟨(hb.block _ (Array.getElem?_eq_some_iff.1 (h.bx x hx).1).1).trans (h.bx x hx).1, (h.bx x hx).2⟩, h.nd, h.ms.kept fun D _ _ ho => (hb.block _ (Array.getElem?_eq_some_iff.1 ho).1).trans ho, Nat.le_trans h.lt hb.size, h.lo, h.pl, h.tp⟩
theorem SB.alloc (h : SB w W pp k n L R bs T ds B) (cs : Array Value) (t : TypeId) : SB w (W.alloc (.cells cs t)) pp k n L R (bs ++ [(W.heap.size, cs, t)]) T ds B := by
  have hb : Below W.heap.size W (W.alloc (.cells cs t)) := (Below.refl _ _).alloc (Nat.le_refl _) _
  have h' := h.below hb
  refine ⟨h'.p, h'.t, h'.ch, fun x hx => ?_, ?_, h'.ms, h'.lt, h.lo, h.pl, h.tp⟩
  · rcases List.mem_append.1 hx with hx | hx
    · exact h'.bx x hx
    · obtain rfl : x = (W.heap.size, cs, t) := by simpa using hx
      exact ⟨Go.heap_alloc_new _ _, by have := h.lt; have := h.lo; show w.heap.size ≤ W.heap.size; omega⟩
  · rw [List.map_append, List.nodup_append]
    refine ⟨h.nd, by simp, fun a ha b hb e => ?_⟩
    obtain ⟨x, hx, rfl⟩ := List.mem_map.1 ha
    have h1 := (Array.getElem?_eq_some_iff.1 (h.bx x hx).1).1
    have h2 : b = W.heap.size := by simpa using hb
    omega
/-- what a call on the pair leaves -/
theorem SB.call (h : SB w W pp k n L R bs T ds B) (hp : Pr W' pp k L R n B') (hc : Chg (PU pp L R) W W') : SB w W' pp k n L R bs T ds B' := by
  have key : ∀ (b : Nat) (o : Obj), W.heap[b]? = some o → w.heap.size ≤ b → W'.heap[b]? = some o := fun b o hb hw => (hc.keep b (Array.getElem?_eq_some_iff.1 hb).1 fun e => by have := h.pl b e; omega).trans hb
  have hs := hc.size
  exact ⟨hp, h.t.of (hc.keep _ h.t.lt h.tp), h.ch.trans hc, fun x hx => ⟨key _ _ (h.bx x hx).1 (h.bx x hx).2, (h.bx x hx).2⟩, h.nd, h.ms.kept fun D hD _ ho => key _ _ ho hD, Nat.le_trans h.lt hs, h.lo, h.pl, h.tp⟩
theorem SB.keeps (h : SB w W pp k n L R bs T ds B) (hc : Chg (PU pp L R) W W') (hK : w.heap.size ≤ K) : KeepsFrom K W W' :=
  ⟨hc.size, fun b o hb ho _ => (hc.keep b (Array.getElem?_eq_some_iff.1 ho).1 fun e => by have := h.pl b e; omega).trans ho⟩
/-- the iterator's own objects turn -/
theorem SB.own {row : Option Nat} (h : SB w W pp k n L R bs T ds B) (hK : T ≤ K) (hg : W.grownBy W' row) (hr : ∀ r, row = some r → K ≤ r ∧ ∃ o : Obj, W.heap[r]? = some o ∧ o.isCells = false) : SB w W' pp k n L R bs T ds B := by
  have hlo := h.lo
  have key : ∀ b, b < W.heap.size → b < K → W'.heap[b]? = W.heap[b]? := fun b hb hlt => hg.block b hb fun e => by have := (hr b e.symm).1; omega
  refine ⟨⟨own_blk h.p.row hg hr, own_rep h.p.m hg hr, h.p.r.kept fun b hb => key b (h.p.r.uLt b hb) (by have := h.pl b (.inr (.inr hb)); omega)⟩, ?_, own_chg h.ch (by omega) hg hr, fun x hx => ⟨own_blk (h.bx x hx).1 hg hr, (h.bx x hx).2⟩, h.nd, h.ms.kept fun D hD hT ho => (key D (Array.getElem?_eq_some_iff.1 ho).1 (by omega)).trans ho, Nat.le_trans h.lt hg.size, h.lo, h.pl, h.tp⟩
  refine h.t.of (hg.block _ h.t.lt fun e => ?_)
  obtain ⟨_, o, ho, hc⟩ := hr _ e.symm
  have h0 := h.t 0 (by decide)
  unfold World.cell? at h0
  rw [ho] at h0
  cases o <;> simp_all [Obj.isCells]
/-- a box is written -/
theorem SB.set {i b : Nat} {u v : Value} {t : TypeId} (h : SB w W pp k n L R bs T ds B) (hi : bs[i]? = some (b, #[u], t)) : SB w (W.setCell ⟨b, 0, none⟩ v) pp k n L R (bs.set i (b, #[v], t)) T ds B := by
  obtain ⟨hb, hw⟩ := h.bx _ (List.mem_of_getElem? hi)
  dsimp only at hb hw
  have hother : ∀ c, c ≠ b → (W.setCell ⟨b, 0, none⟩ v).heap[c]? = W.heap[c]? := fun c hc => Go.heap_setCell_other _ _ _ _ hc
  have hsz : (W.setCell ⟨b, 0, none⟩ v).heap.size = W.heap.size := World.size_setCell _ _ _
  have hpb : ∀ c, PU pp L R c → c ≠ b := fun c hc e => by have := h.pl c hc; omega
  have htb : 0 ≠ b := fun e => by
    have h0 := h.t 1 (by decide)
    rw [e, cell_of_row _ _ _ _ _ _ hb] at h0
    simp at h0
  refine ⟨h.p.kept fun c hc => hother c (hpb c hc), h.t.of (hother _ htb), ⟨h.ch.os, h.ch.tape, h.ch.output, by rw [hsz]; exact h.ch.size, fun c hc hn => (hother c (by omega)).trans (h.ch.keep c hc hn)⟩, fun x hx => ?_, ?_, h.ms.kept fun D _ _ ho => (hother D fun e => by rw [e, hb] at ho; cases ho).trans ho, by rw [hsz]; exact h.lt, h.lo, h.pl, h.tp⟩
  · obtain ⟨j, hj⟩ := List.getElem?_of_mem hx
    by_cases hij : i = j
    · subst hij
      have hl : i < bs.length := (List.getElem?_eq_some_iff.1 hi).1
      rw [List.getElem?_set_self hl] at hj
      obtain rfl := Option.some.inj hj
      refine ⟨?_, hw⟩
      rw [Go.heap_setCell_same _ _ 0 _ t _ hb]
      rfl
    · rw [List.getElem?_set_ne hij] at hj
      have hxm := h.bx x (List.mem_of_getElem? hj)
      refine ⟨(hother _ fun e => hij ?_).trans hxm.1, hxm.2⟩
      have e1 : (bs.map (·.1))[i]? = some b := by rw [List.getElem?_map, hi]; rfl
      have e2 : (bs.map (·.1))[j]? = some b := by rw [List.getElem?_map, hj]; simp [e]
      exact nodup_inj h.nd e1 e2
  · have : (bs.set i (b, #[v], t)).map (·.1) = bs.map (·.1) := by
      rw [List.map_set]
      refine List.ext_getElem? fun j => ?_
      by_cases hij : i = j
      · subst hij
        have hl : i < bs.length := (List.getElem?_eq_some_iff.1 hi).1
        rw [List.getElem?_set_self (by simpa using hl), List.getElem?_map, hi]
        rfl
      · rw [List.getElem?_set_ne hij]
    rw [this]
    exact h.nd
theorem SB.keepsSet {i b : Nat} {u v : Value} {t : TypeId} (h : SB w W pp k n L R bs T ds B) (hi : bs[i]? = some (b, #[u], t)) (K : Nat) : KeepsFrom K W (W.setCell ⟨b, 0, none⟩ v) :=
  ⟨by rw [World.size_setCell]; exact Nat.le_refl _, fun c o _ ho hc => (Go.heap_setCell_other _ _ _ _ (by
    intro e
    have e' : c = b := e
    rw [e', (h.bx _ (List.mem_of_getElem? hi)).1] at ho
    cases ho
    simp [Obj.isCells] at hc)).trans ho⟩
theorem SB.cell {i b : Nat} {cs : Array Value} {t : TypeId} (h : SB w W pp k n L R bs T ds B) (hi : bs[i]? = some (b, cs, t)) (j : Nat) : W.cell? ⟨b, j, none⟩ = cs[j]? := cell_of_row _ _ _ _ _ _ (h.bx _ (List.mem_of_getElem? hi)).1
theorem SB.frz {i b : Nat} {cs : Array Value} {t : TypeId} (h : SB w W pp k n L R bs T ds B) (hi : bs[i]? = some (b, cs, t)) (j : Nat) : W.frozen? ⟨b, j, none⟩ = false := frozen_of_row _ _ _ _ t (h.bx _ (List.mem_of_getElem? hi)).1
theorem SB.blt {i b : Nat} {cs : Array Value} {t : TypeId} (h : SB w W pp k n L R bs T ds B) (hi : bs[i]? = some (b, cs, t)) : b < W.heap.size := (Array.getElem?_eq_some_iff.1 (h.bx _ (List.mem_of_getElem? hi)).1).1
/-- a mark more -/
theorem SB.mark {D : Nat} (h : SB w W pp k n L R bs T ds B) (hD : T ≤ D) (hK : W.heap[D]? = some (.deferred (some []))) : SB w W pp k n L R bs W.heap.size ({ target := .collected D, args := #[] } :: ds) B :=
  ⟨h.p, h.t, h.ch, h.bx, h.nd, h.ms.more (by have := h.lo; omega) hD (Array.getElem?_eq_some_iff.1 hK).1 hK, Nat.le_refl _, Nat.le_trans h.lo h.lt, h.pl, h.tp⟩
theorem SB.take {D : Nat} {d : Deferred} (h : SB w W pp k n L R bs T (d :: ds) B) (hd : d.target = .collected D) (hK : W.heap[D]? = some (.deferred (some []))) : SB w (W.putObj D (.deferred none)) pp k n L R bs T ds B := by
  obtain ⟨⟨⟨E, rfl, hE, hr⟩, hm2⟩, hN⟩ := h.ms
  cases hd
  obtain ⟨D', e, hND, hT⟩ := hN _ List.mem_cons_self
  cases e
  have hg := grownBy_putObj' W D (.deferred none)
  have hlt := (Array.getElem?_eq_some_iff.1 hK).1
  have cel : ∀ (b : Nat) (cs : Array Value) (t : TypeId), W.heap[b]? = some (.cells cs t (0, 0)) → (W.putObj D (.deferred none)).heap[b]? = some (.cells cs t (0, 0)) := fun b cs t hb => (World.putObj_heap_other (fun e => by rw [e, hK] at hb; cases hb)).trans hb
  have low : ∀ b, b < w.heap.size → (W.putObj D (.deferred none)).heap[b]? = W.heap[b]? := fun b hb => World.putObj_heap_other (by omega)
  refine ⟨h.p.kept fun b hb => low b (h.pl b hb), h.t.of (World.putObj_heap_other fun e => ?_), ⟨hg.os.trans h.ch.os, hg.tape.trans h.ch.tape, hg.output.trans h.ch.output, Nat.le_trans h.ch.size hg.size, fun b hb hn => (low b hb).trans (h.ch.keep b hb hn)⟩, fun x hx => ⟨cel _ _ _ (h.bx x hx).1, (h.bx x hx).2⟩, h.nd, ⟨?_, fun d hd => hN d (List.mem_cons_of_mem _ hd)⟩, Nat.le_trans h.lt hg.size, h.lo, h.pl, h.tp⟩
  · have h0 := h.t 0 (by decide)
    unfold World.cell? at h0
    rw [e, hK] at h0
    simp at h0
  · exact hm2.turn hr
theorem leaves_sb {F : Fence} {m : Nat} {P : Program} {fn : Func} {tmps : Array Value} {Rr : Ending → World → Prop} : ∀ (ds : List Deferred) (W : World), SB w W pp k n L R bs T ds B → (∀ W', SB w W' pp k n L R bs T [] B → ∃ v, (results fn tmps).run P W' = .ok v W' ∧ Rr (.returned v) W') → LeavesInM F m P fn tmps Rr ds .returning W
  | [], W, h, hr => hr W h
  | d :: ds, W, h, hr => by
    obtain ⟨⟨⟨D, rfl, hD, _⟩, _⟩, _⟩ := h.ms
    refine ⟨by simp, .inl ⟨D, _, rfl, run_takeDeferred hD, ?_⟩⟩
    exact leaves_sb ds _ (h.take rfl hD) hr
/-- fewer boxes -/
theorem SB.drop {bs' : List (Nat × Array Value × TypeId)} (h : SB w W pp k n L R (bs ++ bs') T ds B) : SB w W pp k n L R bs T ds B :=
  ⟨h.p, h.t, h.ch, fun x hx => h.bx x (List.mem_append_left _ hx), by have := h.nd; rw [List.map_append, List.nodup_append] at this; exact this.1, h.ms, h.lt, h.lo, h.pl, h.tp⟩
end
theorem range_two {F : Fence} {n : Nat} {P : Program} {σ α : Type} {g : Operand} {ps : Array Tmp} {assign body : Code} {Q : Exit → Act → World → Prop} {a : Act} {w : World} (id : Nat)
    (hro : F.round = none) (h1 : 1 ≤ n) {gf : Nat} {lb : Array Value} (hg : a.eval g = .func (.func gf) #[] lb) (hFg : F.fn gf) (eg : ∀ args w, (callFunc gf args).run P w = .ok (.enter gf args) w)
    {encs : α → Array Value} {Step : σ → α → σ → World → Prop} {End Inv : σ → World → Prop} {s0 : σ} (hseq : SeqSt F (n - 1) P gf lb encs Step End Inv s0) (hps : ∀ x, (encs x).size = ps.size)
    (I : σ → World → Prop) (Mid : World → Prop) (hI : OwnFrom w.heap.size I) (hMid : OwnFrom w.heap.size (fun (_ : Unit) W => Mid W)) (hII : ∀ s W, I s W → Inv s W)
    (hSt : ∀ s x s', OwnFrom w.heap.size (fun (_ : Unit) W => Step s x s' W)) (hEn : OwnFrom w.heap.size End) (hEM : ∀ s W, I s W → End s W → Mid W) (h0 : I s0 w) (a₁ : α → Act)
    (hassign : ∀ (l : Nat) (x : α) (W : World) (K : Act → World → Prop), K (a₁ x) W →
      assign.wpIn (F.inRound l) (n - 1 - 1) P (Exit.then K (fun _ _ _ => False)) { tmps := (ps.zip (encs x)).foldl (fun t (p, v) => t.setIfInBounds p v) a.tmps, defers := [] } W)
    (hbody : ∀ (l : Nat) (s : σ) (x : α) (s' : σ) (W : World), w.heap.size ≤ l → l < W.heap.size → I s W → Step s x s' W → body.wpIn (F.inRound l) (n - 1 - 1) P (stPost w.heap.size I (fun c W => c = .exit id ∧ Mid W) s' W) (a₁ x) W)
    (hrest : ∀ (D : Nat) (e : Exit) (W : World), w.heap.size ≤ D → (e = .normal ∨ e = .exit id) → Mid W → W.heap[D]? = some (.deferred (some [])) → Q e { a with defers := { target := .collected D, args := #[] } :: a.defers } W) :
    (Code.rangeFunc g ps assign body).wpIn F n P Q a w :=
  wpIn_range_st hro h1 hg hFg eg hseq hps I (fun c W => c = .exit id ∧ Mid W) hI (fun c s A B row hs hg hr => ⟨hs.1, hMid s A B row hs.2 hg hr⟩) hII hSt hEn h0 a₁ hassign hbody
    (fun D s W hD hE hi hK => hrest D .normal W hD (.inl rfl) (hEM s W hi hE) hK)
    (fun D c W hD ⟨hc, hm⟩ hK => by subst hc; exact wpIn_exit (hrest D _ W hD (.inr rfl) hm hK))
end Go.Proofs.YtnjlbkbhlcccmaaDoor
namespace Go.Proofs.YtnjlbkbhlcccmaaDoor
open Go.RowKit Go.Shelf
attribute [local go_sem] Oper.semAt_some
set_option linter.unusedVariables false
set_option linter.unusedSimpArgs false
set_option maxRecDepth 20000

/-- the document's search for a bit that is set -/
theorem find_nx {w : World} {R : RL} {n B : Nat} (h : RRep w R n B) (s : Nat) : Calls Tryd.prog 19 #[PR R, .int .i64 (s : Int), .bool true] w fun e w' => e = .returned (.int .i64 (orN (nx B n s))) ∧ w' = w :=
  (find_any h (s : Int) true).mono fun e w' hp => ⟨by rw [hp.1]; simp [nx], hp.2⟩
theorem fnEqAll (W : World) (vs : Array Value) : (binOp .eql 53 (.func (.func 31) #[] vs) Value.nilFunc).run Tryd.prog W = .ok (.bool false) W := by kernel_rfl
def inBs (N pp : Nat) (L : BL) (res : Bool) (s : Nat) : List (Nat × Array Value × TypeId) :=
  [(N, #[.pointer (some ⟨pp, 0, none⟩)], 26), (N + 1, #[.bool res], 4), (N + 2, #[PB L], 33), (N + 3, #[.int .i64 (s : Int)], 3)]
set_option maxHeartbeats 2000000 in
theorem inner_any {w : World} {pp k n B : Nat} {L : BL} {R : RL} (h : Pr w pp k L R n B) (hT : TabAt w) (hp : ¬ PU pp L R 0) :
    Calls Tryd.prog 33 #[.pointer (some ⟨pp, 0, none⟩)] w fun e w' => e = .returned (.bool true) ∧ Pr w' pp k L R n B ∧ Chg (PU pp L R) w w' := by
  refine (callsIn_wide (n := 5)).1 ?_
  have HS0 := hide (((SB.start h hT hp).alloc #[.pointer (some ⟨pp, 0, none⟩)] 26).alloc #[.bool false] 4)
  have hfe := fnEqAll
  have c0 : ((w.alloc (.cells #[.pointer (some ⟨pp, 0, none⟩)] 26)).alloc (.cells #[.bool false] 4)).cell? ⟨w.heap.size, 0, none⟩ = some (.pointer (some ⟨pp, 0, none⟩)) := HS0.out.cell (i := 0) rfl 0
  have c1 : ((w.alloc (.cells #[.pointer (some ⟨pp, 0, none⟩)] 26)).alloc (.cells #[.bool false] 4)).cell? ⟨pp, 0, none⟩ = some (PB L) := HS0.out.p.c 0
  refine callsIn_of_wp_marks Tryd.func33 rfl trivial ?_ rfl
  simp only [Tryd.ntmps33, List.size_toArray, List.length_cons, List.length_nil, Nat.reduceAdd, Nat.reduceSub, Array.replicate_succ, Array.replicate_zero, List.push_toArray, List.append_toArray, List.nil_append, List.cons_append]
  unfold PB at c1
  gi_wp2_with (first
    | (refine ⟨trivial, ?_⟩; gi_at_call 16; refine (callsIn_wide.2 (All_any _ _)).mono ?_; rintro e w' ⟨rfl, rfl⟩))
  obtain ⟨N, hN⟩ : ∃ N, w.heap.size = N := ⟨_, rfl⟩
  have START : SB w ((((w.alloc (.cells #[.pointer (some ⟨pp, 0, none⟩)] 26)).alloc (.cells #[.bool false] 4)).alloc (.cells #[PB L] 33)).alloc (.cells #[.int .i64 0] 3)) pp k n L R (inBs N pp L false 0) N [] B := by
    have h1 := (HS0.out.alloc #[PB L] 33).alloc #[.int .i64 0] 3
    simp only [World.size_alloc, hN, List.nil_append, List.cons_append] at h1
    exact h1
  have HNN := hide hN
  rw [hN]
  clear c0 c1 HS0 h hT hp hfe hN
  generalize (((w.alloc (.cells #[.pointer (some ⟨pp, 0, none⟩)] 26)).alloc (.cells #[.bool false] 4)).alloc (.cells #[PB L] 33)).alloc (.cells #[.int .i64 0] 3) = W0 at *
  refine wpIn_range_st rfl (by decide) (gf := 31) (lb := #[.pointer (some ⟨N + 1 + 1, 0, none⟩)]) rfl trivial enters_all
    (all_seq _ (N + 1 + 1) L n) (fun _ => rfl)
    (fun s W => s ≤ n ∧ SB w W pp k n L R (inBs N pp L false s) N [] B)
    (fun _ _ => False)
    (fun s A B' row hs hg hr => ⟨hs.1, hs.2.own START.lt hg hr⟩)
    (fun _ _ _ _ _ hs _ _ => hs)
    (fun s W hs => ⟨⟨B, hs.2.p.m⟩, hs.2.t, hs.2.cell (i := 2) rfl 0⟩)
    (fun s x s' => fun _ A B' row hs hg hr => by obtain ⟨B2, e1, e2⟩ := hs; exact ⟨B2, own_rep e1 hg hr, e2⟩) (fun s A B' row hs hg hr => by obtain ⟨B2, e1, e2⟩ := hs; exact ⟨B2, own_rep e1 hg hr, e2⟩)
    ⟨Nat.zero_le _, START⟩
    ?a1 ?assign ?body ?done ?stop
  case assign =>
    intro l x W K hK
    simp only [alEnc]
    gi_wp2
    exact hK
  case body =>
    rintro l s x s' W hl1 hl2 ⟨hs1, hI⟩ ⟨B', hR, hx1, rfl⟩
    obtain rfl := hI.p.m.uniq hR
    obtain ⟨r1, r2, -, -⟩ := nx_facts hx1 hs1
    have hF := find_nx hI.p.r s
    rw [hx1] at hF
    simp only [orN] at hF
    have HF := hide (find_nx (hI.p.r.kept (w' := W.drew) fun _ _ => rfl) s)
    have HO : Hid (orN (nx B n s) = (x : Int)) := hide (by rw [hx1]; rfl)
    have k0 : W.cell? ⟨N, 0, none⟩ = some (.pointer (some ⟨pp, 0, none⟩)) := hI.cell (i := 0) rfl 0
    have k1 : W.cell? ⟨pp, 1, none⟩ = some (PR R) := hI.p.c 1
    have k3 : W.cell? ⟨N + 1 + 1 + 1, 0, none⟩ = some (.int .i64 (s : Int)) := hI.cell (i := 3) rfl 0
    have f3 : W.frozen? ⟨N + 1 + 1 + 1, 0, none⟩ = false := hI.frz (i := 3) rfl 0
    have hn2 := hI.p.m.n2
    have HI := hide hI
    rw [HO.out] at HF
    clear hI hR hx1 hF START HO
    have hmx : Tryd.prog.follows .mixedOrders = true := by kernel_rfl
    refine wpIn_block ?_
    refine wpIn_seq ?_
    refine wpIn_seq ?_
    refine wpIn_region_heldR (S := fun z => z.cell? ⟨N, 0, none⟩ = some (.pointer (some ⟨pp, 0, none⟩)) ∧ z.cell? ⟨pp, 1, none⟩ = some (PR R) ∧ z.cell? ⟨N + 1 + 1 + 1, 0, none⟩ = some (.int .i64 (s : Int))) (by kernel_rfl) (by kernel_rfl) (by rintro ⟨_, _, h⟩; exact h) ⟨k0, k1, k3⟩ (fun hHeld => ?_)
    simp only [List.size_toArray, List.length_cons, List.length_nil, Nat.reduceAdd, Array.replicate_succ, Array.replicate_zero, List.push_toArray, List.nil_append, List.cons_append]
    refine wpAnyH_take (i := 0) (v := .int .i64 (x : Int)) rfl (by kernel_rfl) (by kernel_rfl) (by kernel_rfl) (fun _ _ _ h => h) (Or.inl ⟨by rfl, ?hq1_0⟩) hHeld ?rq1_0
    case hq1_0 => intro w' hSw; obtain ⟨e0, e1, e2⟩ := hSw; go_simp; (try with_reducible rfl)
    (try simp only [Act.put, List.getElem_toArray, List.getElem_cons_succ, List.getElem_cons_zero, List.setIfInBounds_toArray, List.set_cons_zero, List.set_cons_succ])
    refine wpAnyH_take (i := 1) (v := .pointer (some ⟨pp, 0, none⟩)) rfl (by kernel_rfl) (by kernel_rfl) (by kernel_rfl) (fun _ _ _ h => h) (Or.inl ⟨by rfl, ?hq1_1⟩) hHeld ?rq1_1
    case hq1_1 => intro w' hSw; obtain ⟨e0, e1, e2⟩ := hSw; go_simp; (try with_reducible rfl)
    (try simp only [Act.put, List.getElem_toArray, List.getElem_cons_succ, List.getElem_cons_zero, List.setIfInBounds_toArray, List.set_cons_zero, List.set_cons_succ])
    refine wpAnyH_take (i := 2) (v := .pointer (some ⟨pp, 0, none⟩)) rfl (by kernel_rfl) (by kernel_rfl) (by kernel_rfl) (fun _ _ _ h => h) (Or.inl ⟨by rfl, ?hq1_2⟩) hHeld ?rq1_2
    case hq1_2 => intro w' hSw; obtain ⟨e0, e1, e2⟩ := hSw; go_simp; (try with_reducible rfl)
    (try simp only [Act.put, List.getElem_toArray, List.getElem_cons_succ, List.getElem_cons_zero, List.setIfInBounds_toArray, List.set_cons_zero, List.set_cons_succ])
    refine wpAnyH_take (i := 3) (v := .pointer (some ⟨pp, 1, none⟩)) rfl (by kernel_rfl) (by kernel_rfl) (by kernel_rfl) (fun _ _ _ h => h) (Or.inl ⟨by rfl, ?hq1_3⟩) hHeld ?rq1_3
    case hq1_3 => intro w' hSw; obtain ⟨e0, e1, e2⟩ := hSw; go_simp; (try with_reducible rfl)
    (try simp only [Act.put, List.getElem_toArray, List.getElem_cons_succ, List.getElem_cons_zero, List.setIfInBounds_toArray, List.set_cons_zero, List.set_cons_succ])
    refine wpAnyH_take (i := 4) (v := PR R) rfl (by kernel_rfl) (by kernel_rfl) (by kernel_rfl) (fun _ _ _ h => h) (Or.inl ⟨by rfl, ?hq1_4⟩) hHeld ?rq1_4
    case hq1_4 => intro w' hSw; obtain ⟨e0, e1, e2⟩ := hSw; go_simp; (try with_reducible rfl)
    (try simp only [Act.put, List.getElem_toArray, List.getElem_cons_succ, List.getElem_cons_zero, List.setIfInBounds_toArray, List.set_cons_zero, List.set_cons_succ])
    refine wpAnyH_take (i := 5) (v := .int .i64 (s : Int)) rfl (by kernel_rfl) (by kernel_rfl) (by kernel_rfl) (fun _ _ _ h => h) (Or.inl ⟨by rfl, ?hq1_5⟩) hHeld ?rq1_5
    case hq1_5 => intro w' hSw; obtain ⟨e0, e1, e2⟩ := hSw; go_simp; (try with_reducible rfl)
    (try simp only [Act.put, List.getElem_toArray, List.getElem_cons_succ, List.getElem_cons_zero, List.setIfInBounds_toArray, List.set_cons_zero, List.set_cons_succ])
    refine wpAnyH_ready (rs := [6]) (by kernel_rfl) (by simp) ?_
    refine AllReadyH.cons rfl (fun K hK => ?_) AllReadyH.nil
    go_simp
    (go_at_call 19; refine HF.out.mono ?_; rintro e w' ⟨rfl, rfl⟩)
    refine hK.out _ _ hHeld (fun hHeld => ?_)
    clear hK K
    (try simp only [Act.put, List.getElem_toArray, List.getElem_cons_succ, List.getElem_cons_zero, List.setIfInBounds_toArray, List.set_cons_zero, List.set_cons_succ])
    refine wpAnyH_take (i := 7) (v := .bool false) rfl (by kernel_rfl) (by kernel_rfl) (by kernel_rfl) (fun _ _ _ h => h) (Or.inl ⟨by rfl, ?hq1_7⟩) hHeld ?rq1_7
    case hq1_7 => intro w' hSw; obtain ⟨e0, e1, e2⟩ := hSw; go_simp; (try with_reducible rfl)
    (try simp only [Act.put, List.getElem_toArray, List.getElem_cons_succ, List.getElem_cons_zero, List.setIfInBounds_toArray, List.set_cons_zero, List.set_cons_succ])
    refine wpAnyH_done (by kernel_rfl) ?_ _
    gi_wp2
    have e1 : (x : Int) + 1 = ((x + 1 : Nat) : Int) := by omega
    rw [e1]
    exact ⟨(HI.out.keepsSet (i := 3) rfl _).trans (KeepsFrom.ofBelow ((Below.refl _ _).drew) _), r2, (HI.out.set (i := 3) rfl).below ((Below.refl _ _).drew)⟩
  case done =>
    rintro D s W hD ⟨B', hR, hx⟩ ⟨hs1, hI⟩ hK
    obtain rfl := hI.p.m.uniq hR
    have HF := hide (find_nx (hI.p.r.kept (w' := W.drew) fun _ _ => rfl) s)
    rw [hx] at HF
    simp only [orN] at HF
    have k0 : W.cell? ⟨N, 0, none⟩ = some (.pointer (some ⟨pp, 0, none⟩)) := hI.cell (i := 0) rfl 0
    have k1 : W.cell? ⟨pp, 1, none⟩ = some (PR R) := hI.p.c 1
    have k2 : W.cell? ⟨N + 1, 0, none⟩ = some (.bool false) := hI.cell (i := 1) rfl 0
    have f2 : W.frozen? ⟨N + 1, 0, none⟩ = false := hI.frz (i := 1) rfl 0
    have k3 : W.cell? ⟨N + 1 + 1 + 1, 0, none⟩ = some (.int .i64 (s : Int)) := hI.cell (i := 3) rfl 0
    have hset := (hI.mark (Nat.le_trans START.lt hD) hK).set (i := 1) (v := .bool true) rfl
    have HSET := hide (hset.below ((Below.refl _ _).drew))
    have hpl := hI.pl pp (.inl rfl)
    rw [HNN.out] at hpl
    clear hset hI hR hx hK START
    gi_wp2
    refine wpIn_wide.2 ?_
    refine wp_region_noPanic ?_
    refine wp_region_held_drew (S := fun z => z.cell? ⟨N, 0, none⟩ = some (.pointer (some ⟨pp, 0, none⟩)) ∧ z.cell? ⟨pp, 1, none⟩ = some (PR R) ∧ z.cell? ⟨N + 1 + 1 + 1, 0, none⟩ = some (.int .i64 (s : Int))) (by kernel_rfl) ⟨k0, k1, k3⟩ (fun hHeld => ?_)
    simp only [List.size_toArray, List.length_cons, List.length_nil, Nat.reduceAdd, Array.replicate_succ, Array.replicate_zero, List.push_toArray, List.nil_append, List.cons_append]
    refine wpAnyH_take (i := 0) (v := .pointer (some ⟨pp, 0, none⟩)) rfl (by kernel_rfl) (by kernel_rfl) (by kernel_rfl) (fun _ _ _ h => h) (Or.inl ⟨by rfl, ?hq2_0⟩) hHeld ?rq2_0
    case hq2_0 => intro w' hSw; obtain ⟨e0, e1, e2⟩ := hSw; go_simp; (try with_reducible rfl)
    (try simp only [Act.put, List.getElem_toArray, List.getElem_cons_succ, List.getElem_cons_zero, List.setIfInBounds_toArray, List.set_cons_zero, List.set_cons_succ])
    refine wpAnyH_take (i := 1) (v := .pointer (some ⟨pp, 0, none⟩)) rfl (by kernel_rfl) (by kernel_rfl) (by kernel_rfl) (fun _ _ _ h => h) (Or.inl ⟨by rfl, ?hq2_1⟩) hHeld ?rq2_1
    case hq2_1 => intro w' hSw; obtain ⟨e0, e1, e2⟩ := hSw; go_simp; (try with_reducible rfl)
    (try simp only [Act.put, List.getElem_toArray, List.getElem_cons_succ, List.getElem_cons_zero, List.setIfInBounds_toArray, List.set_cons_zero, List.set_cons_succ])
    refine wpAnyH_take (i := 2) (v := .pointer (some ⟨pp, 1, none⟩)) rfl (by kernel_rfl) (by kernel_rfl) (by kernel_rfl) (fun _ _ _ h => h) (Or.inl ⟨by rfl, ?hq2_2⟩) hHeld ?rq2_2
    case hq2_2 => intro w' hSw; obtain ⟨e0, e1, e2⟩ := hSw; go_simp; (try with_reducible rfl)
    (try simp only [Act.put, List.getElem_toArray, List.getElem_cons_succ, List.getElem_cons_zero, List.setIfInBounds_toArray, List.set_cons_zero, List.set_cons_succ])
    refine wpAnyH_take (i := 3) (v := PR R) rfl (by kernel_rfl) (by kernel_rfl) (by kernel_rfl) (fun _ _ _ h => h) (Or.inl ⟨by rfl, ?hq2_3⟩) hHeld ?rq2_3
    case hq2_3 => intro w' hSw; obtain ⟨e0, e1, e2⟩ := hSw; go_simp; (try with_reducible rfl)
    (try simp only [Act.put, List.getElem_toArray, List.getElem_cons_succ, List.getElem_cons_zero, List.setIfInBounds_toArray, List.set_cons_zero, List.set_cons_succ])
    refine wpAnyH_take (i := 4) (v := .int .i64 (s : Int)) rfl (by kernel_rfl) (by kernel_rfl) (by kernel_rfl) (fun _ _ _ h => h) (Or.inl ⟨by rfl, ?hq2_4⟩) hHeld ?rq2_4
    case hq2_4 => intro w' hSw; obtain ⟨e0, e1, e2⟩ := hSw; go_simp; (try with_reducible rfl)
    (try simp only [Act.put, List.getElem_toArray, List.getElem_cons_succ, List.getElem_cons_zero, List.setIfInBounds_toArray, List.set_cons_zero, List.set_cons_succ])
    refine wpAnyH_ready (rs := [5]) (by kernel_rfl) (by simp) ?_
    refine AllReadyH.cons rfl (fun K hK => ?_) AllReadyH.nil
    go_simp
    (go_at_call 19; refine HF.out.mono ?_; rintro e w' ⟨rfl, rfl⟩)
    refine hK.out _ _ hHeld (fun hHeld => ?_)
    clear hK K
    (try simp only [Act.put, List.getElem_toArray, List.getElem_cons_succ, List.getElem_cons_zero, List.setIfInBounds_toArray, List.set_cons_zero, List.set_cons_succ])
    refine wpAnyH_take (i := 6) (v := .bool true) rfl (by kernel_rfl) (by kernel_rfl) (by kernel_rfl) (fun _ _ _ h => h) (Or.inl ⟨by rfl, ?hq2_6⟩) hHeld ?rq2_6
    case hq2_6 => intro w' hSw; obtain ⟨e0, e1, e2⟩ := hSw; go_simp; (try with_reducible rfl)
    (try simp only [Act.put, List.getElem_toArray, List.getElem_cons_succ, List.getElem_cons_zero, List.setIfInBounds_toArray, List.set_cons_zero, List.set_cons_succ])
    refine wpAnyH_ready (rs := [7]) (by kernel_rfl) (by simp) ?_
    refine AllReadyH.cons rfl (fun K hK => ?_) AllReadyH.nil
    go_simp
    refine hK.out _ _ ⟨(World.cell?_of_block (Go.heap_setCell_other _ _ _ _ (by show N ≠ N + 1; omega))).trans hHeld.1, (World.cell?_of_block (Go.heap_setCell_other _ _ _ _ (by show pp ≠ N + 1; omega))).trans hHeld.2.1, (World.cell?_of_block (Go.heap_setCell_other _ _ _ _ (by show N + 1 + 1 + 1 ≠ N + 1; omega))).trans hHeld.2.2⟩ (fun hHeld => ?_)
    clear hK K
    (try simp only [Act.put, List.getElem_toArray, List.getElem_cons_succ, List.getElem_cons_zero, List.setIfInBounds_toArray, List.set_cons_zero, List.set_cons_succ])
    refine wpAnyH_done (by kernel_rfl) ?_ _
    refine NoPanic.normal ?_
    gi_wp2
    refine leaves_sb _ _ HSET.out fun W' h' => ?_
    have hres : W'.cell? ⟨N + 1, 0, none⟩ = some (.bool true) := h'.cell (i := 1) rfl 0
    refine ⟨.bool true, ?_, rfl, ?_⟩
    · simp [results, Tryd.results33, go_sem, hres]
    · exact ⟨h'.p, h'.ch⟩
  case stop =>
    rintro D c W _ h _
    exact h.elim
end Go.Proofs.YtnjlbkbhlcccmaaDoor
namespace Go.Proofs.YtnjlbkbhlcccmaaDoor
open Go.RowKit Go.Shelf
set_option linter.unusedVariables false
set_option linter.unusedSimpArgs false
set_option maxRecDepth 20000

/-- a change that hands nothing in -/
theorem change4_any {w : World} {pp k n B : Nat} {L : BL} {R : RL} {s : OpV} (h : Pr w pp k L R n B) (hs : OpOk w s) (hK : s.kind ≤ 4) :
    Calls Tryd.prog 21 #[.pointer (some ⟨pp, 0, none⟩), opV s] w fun e w' => e = .returned (.bool true) ∧ ∃ B2, Pr w' pp k L R n B2 ∧ Chg (PU pp L R) w w' := by
  obtain ⟨a1, a2, a3, n1, n2, n3, c1, c2, c3, e1, e⟩ := hs.form
  rw [e]
  have fin : ∀ {B' : Nat} {w' : World}, Pr w' pp k L R n B' → Chg (PU pp L R) w w' → ∃ B2, Pr w' pp k L R n B2 ∧ Chg (PU pp L R) w w' := fun h1 h2 => ⟨_, h1, h2⟩
  by_cases k0 : s.kind < 1
  · exact (change_0 pp _ _ _ _ _ _ _ _ _ _ _ _ _ _ k0).mono fun e w' hp => ⟨hp.1, fin (h.below hp.2) (Chg.ofBelow hp.2)⟩
  by_cases k1 : s.kind = 1
  · rw [k1]
    by_cases hi : 0 ≤ s.a ∧ s.a < n
    · obtain ⟨i, ei⟩ := Int.eq_ofNat_of_zero_le hi.1
      rw [ei] at hi ⊢
      exact (change_1 h (i : Int) s.b 0 (!B.testBit i) _ _ _ _ _ _ _ _ _ _ _ (fun x hx => Set_any hx (by omega)) (fun x hx => (rPut_any hx true (by omega)).mono fun e w' hp => ⟨by rw [hp.1]; simp, hp.2⟩)).mono fun e w' hp => ⟨hp.1, fin hp.2.1 hp.2.2⟩
    · exact (change_1 (B' := B) h s.a s.b 2 false _ _ _ _ _ _ _ _ _ _ _ (fun x hx => (Set_no hx _ hi).mono fun e w' hp => ⟨hp.1, hx.below hp.2, Chg.ofBelow hp.2⟩) (fun x hx => (rPut_no hx _ true hi).mono fun e w' hp => ⟨hp.1, by rw [hp.2]; exact hx, by rw [hp.2]; exact Chg.refl _ _⟩)).mono fun e w' hp => ⟨hp.1, fin hp.2.1 hp.2.2⟩
  by_cases k2 : s.kind = 2
  · rw [k2]
    by_cases hi : 0 ≤ s.a ∧ s.a < n
    · obtain ⟨i, ei⟩ := Int.eq_ofNat_of_zero_le hi.1
      rw [ei] at hi ⊢
      exact (change_2 h (i : Int) s.b 0 (B.testBit i) _ _ _ _ _ _ _ _ _ _ _ (fun x hx => Clear_any hx (by omega)) (fun x hx => (rPut_any hx false (by omega)).mono fun e w' hp => ⟨by rw [hp.1]; simp, hp.2⟩)).mono fun e w' hp => ⟨hp.1, fin hp.2.1 hp.2.2⟩
    · exact (change_2 (B' := B) h s.a s.b 2 false _ _ _ _ _ _ _ _ _ _ _ (fun x hx => (Clear_no hx _ hi).mono fun e w' hp => ⟨hp.1, hx.below hp.2, Chg.ofBelow hp.2⟩) (fun x hx => (rPut_no hx _ false hi).mono fun e w' hp => ⟨hp.1, by rw [hp.2]; exact hx, by rw [hp.2]; exact Chg.refl _ _⟩)).mono fun e w' hp => ⟨hp.1, fin hp.2.1 hp.2.2⟩
  by_cases k3 : s.kind = 3
  · rw [k3]
    by_cases hi : rgErr n s.a s.b = 0
    · obtain ⟨h1, h2, h3, h4, h5⟩ := rgErr_zero hi
      generalize s.a.toNat = i at *
      generalize s.b.toNat = j at *
      rw [h4, h5]
      exact (change_3 h (i : Int) (j : Int) 0 ((cnt (fun q => !B.testBit (i + q)) j : Nat) : Int) _ _ _ _ _ _ _ _ _ _ _ (fun x hx => SetRange_any hx h3) (fun x hx => (rPutRange_any hx true h3).mono fun e w' hp => ⟨by rw [hp.1]; simp, hp.2⟩)).mono fun e w' hp => ⟨hp.1, fin hp.2.1 hp.2.2⟩
    · exact (change_3 (B' := B) h s.a s.b _ 0 _ _ _ _ _ _ _ _ _ _ _ (fun x hx => (SetRange_no hx _ _ hi).mono fun e w' hp => ⟨hp.1, hx.below hp.2, Chg.ofBelow hp.2⟩) (fun x hx => (rPutRange_no hx _ _ true hi).mono fun e w' hp => ⟨hp.1, by rw [hp.2]; exact hx, by rw [hp.2]; exact Chg.refl _ _⟩)).mono fun e w' hp => ⟨hp.1, fin hp.2.1 hp.2.2⟩
  by_cases k4 : s.kind = 4
  · rw [k4]
    by_cases hi : rgErr n s.a s.b = 0
    · obtain ⟨h1, h2, h3, h4, h5⟩ := rgErr_zero hi
      generalize s.a.toNat = i at *
      generalize s.b.toNat = j at *
      rw [h4, h5]
      exact (change_4 h (i : Int) (j : Int) 0 ((cnt (fun q => B.testBit (i + q)) j : Nat) : Int) _ _ _ _ _ _ _ _ _ _ _ (fun x hx => ClearRange_any hx h3) (fun x hx => (rPutRange_any hx false h3).mono fun e w' hp => ⟨by rw [hp.1]; simp, hp.2⟩)).mono fun e w' hp => ⟨hp.1, fin hp.2.1 hp.2.2⟩
    · exact (change_4 (B' := B) h s.a s.b _ 0 _ _ _ _ _ _ _ _ _ _ _ (fun x hx => (ClearRange_no hx _ _ hi).mono fun e w' hp => ⟨hp.1, hx.below hp.2, Chg.ofBelow hp.2⟩) (fun x hx => (rPutRange_no hx _ _ false hi).mono fun e w' hp => ⟨hp.1, by rw [hp.2]; exact hx, by rw [hp.2]; exact Chg.refl _ _⟩)).mono fun e w' hp => ⟨hp.1, fin hp.2.1 hp.2.2⟩
  omega
/-- an act as an operation -/
def actO (x : ActV) : OpV := ⟨x.kind, false, x.a, x.b, .slice none 0 0, [], .slice none 0 0, [], .slice none 0 0, [], false⟩
theorem actO_ok {w : World} {x : ActV} (h : i64ok x.kind ∧ i64ok x.a ∧ i64ok x.b) : OpOk w (actO x) :=
  ⟨⟨none, 0, rfl, Nat.le_refl _, by unfold maxLen; omega, by simp [actO], by simp [actO]⟩, by simp [actO], ⟨none, 0, rfl, Nat.le_refl _, by unfold maxLen; omega, by simp [actO], by simp [actO]⟩, ⟨none, 0, rfl, Nat.le_refl _, by unfold maxLen; omega, by simp [actO], by simp [actO]⟩, h.1, h.2.1, h.2.2⟩
set_option maxHeartbeats 1000000 in
theorem act_any {w : World} {pp k n B : Nat} {L : BL} {R : RL} {v : Value} {l : List ActV} (h : Pr w pp k L R n B) (hT : TabAt w) (hp : ¬ PU pp L R 0) (hl : ASl w v l) (i : Nat) :
    Calls Tryd.prog 20 #[.pointer (some ⟨pp, 0, none⟩), v, .int .i64 (i : Int)] w fun e w' => e = .returned (.bool true) ∧ ∃ B2, Pr w' pp k L R n B2 ∧ Chg (PU pp L R) w w' := by
  obtain ⟨a, cap, rfl, h1, h2, h3, h4⟩ := hl
  unfold maxLen at h2
  have HP := hide h
  by_cases hlt : i < l.length
  · obtain ⟨b, off, rfl, hc⟩ := h4 (by omega)
    obtain ⟨r0, r1, r2⟩ := hc i hlt
    have hx := h3 _ (List.getElem_mem hlt)
    have hba : Below w.heap.size w (w.alloc (.cells #[.int .i64 l[i].kind, .int .i64 l[i].a, .int .i64 l[i].b] 76)) := (Below.refl _ _).alloc (Nat.le_refl _) _
    have HIN := hide (inner_any (h.below hba) (hT.below hba) hp)
    have HCH := hide fun (hk : (actO l[i]).kind ≤ 4) x (hb : Below w.heap.size w x) => change4_any (h.below hb) (actO_ok (w := x) (x := l[i]) hx) hk
    have HBA := hide hba
    have hrow := Go.heap_alloc_new w (.cells #[.int .i64 l[i].kind, .int .i64 l[i].a, .int .i64 l[i].b] 76)
    have d0 : (w.alloc (.cells #[.int .i64 l[i].kind, .int .i64 l[i].a, .int .i64 l[i].b] 76)).cell? ⟨w.heap.size, 0, none⟩ = some (.int .i64 l[i].kind) := cell_of_row _ _ _ _ _ _ hrow
    have d1 : (w.alloc (.cells #[.int .i64 l[i].kind, .int .i64 l[i].a, .int .i64 l[i].b] 76)).cell? ⟨w.heap.size, 1, none⟩ = some (.int .i64 l[i].a) := cell_of_row _ _ _ _ _ _ hrow
    have d2 : (w.alloc (.cells #[.int .i64 l[i].kind, .int .i64 l[i].a, .int .i64 l[i].b] 76)).cell? ⟨w.heap.size, 2, none⟩ = some (.int .i64 l[i].b) := cell_of_row _ _ _ _ _ _ hrow
    clear hrow hc h4 h3 h hT hba hx
    unfold opV actO at HCH
    dsimp only at HCH
    generalize l[i] = xx at *
    generalize xx.kind = K at *
    generalize xx.a = A at *
    generalize xx.b = C at *
    generalize l.length = len at *
    by_cases k14 : K = 14
    · have b14 : (K == 14) = true := by simpa using k14
      clear k14
      go_enter Tryd.func20, Tryd.ntmps20
      go_wp2_with (first
        | (go_at_call 33; refine HIN.out.mono ?_; rintro e w2 ⟨rfl, hq1, hq2⟩; have HF := hide (And.intro hq1 ((Chg.ofBelow (U := PU pp L R) HBA.out).trans hq2)); clear hq1 hq2 HIN))
      go_ret
      exact ⟨rfl, _, HF.out⟩
    · have b14 : (K == 14) = false := by simpa using k14
      by_cases k4 : K ≤ 4
      · have HC := hide (HCH.out k4)
        go_enter Tryd.func20, Tryd.ntmps20
        go_wp2_with (first
          | (go_at_call 21; refine (HC.out _ HBA.out).mono ?_; rintro e w2 ⟨rfl, B2, hq1, hq2⟩; have HF := hide (And.intro hq1 ((Chg.ofBelow (U := PU pp L R) HBA.out).trans hq2)); clear hq1 hq2 HC))
        go_ret
        exact ⟨rfl, _, HF.out⟩
      · have hgt : 4 < K := by omega
        clear k4
        go_enter Tryd.func20, Tryd.ntmps20
        go_wp2_with fail
        go_ret
        exact ⟨rfl, _, HP.out.below HBA.out, Chg.ofBelow HBA.out⟩
  · clear h4 h3 h hT
    generalize l.length = len at *
    go_enter Tryd.func20, Tryd.ntmps20
    go_wp2_with fail
    go_ret
    exact ⟨rfl, _, HP.out, Chg.refl _ _⟩
end Go.Proofs.YtnjlbkbhlcccmaaDoor
namespace Go.Proofs.YtnjlbkbhlcccmaaDoor
open Go.RowKit Go.Shelf
set_option linter.unusedVariables false
set_option linter.unusedSimpArgs false
set_option maxRecDepth 20000

set_option maxHeartbeats 1000000 in
/-- all that is done ahead of a loop -/
theorem before_any {Z w : World} {pp k n B : Nat} {L : BL} {R : RL} {s : OpV} (h : Pr w pp k L R n B) (hT : TabAt w) (hp : ¬ PU pp L R 0) (hs : OpOk Z s) (hz : Below Z.heap.size Z w) (hzp : ∀ b, PU pp L R b → Z.heap.size ≤ b) :
    Calls Tryd.prog 17 #[.pointer (some ⟨pp, 0, none⟩), opV s] w fun e w' => e = .returned (.bool true) ∧ ∃ B2, Pr w' pp k L R n B2 ∧ Chg (PU pp L R) w w' := by
  have hlt := h.lt
  obtain ⟨ba, bc, ebv, hb1, hb2, -⟩ := hs.b1
  have HAC := hide fun (x : World) B1 (hx : Pr x pp k L R n B1) (hc : Chg (PU pp L R) w x) (i : Nat) => act_any hx (hT.of (hc.keep _ hT.lt hp)) hp (ASl.below hs.b1 (hz.trans (hc.below hz.size hzp))) i
  rw [ebv] at HAC
  unfold opV
  obtain ⟨a1, c1, ewv, -⟩ := hs.w1
  obtain ⟨a3, c3, eav, -⟩ := hs.a1
  rw [ewv, ebv, eav]
  unfold maxLen at hb2
  generalize s.bl.length = blen at *
  generalize s.wl.length = wlen at *
  generalize s.al.length = alen at *
  generalize s.kind = K at *
  generalize s.a = A at *
  generalize s.b = C at *
  generalize s.sec = S at *
  generalize s.again = G at *
  have hal : Below w.heap.size w (w.alloc (.cells #[.int .i64 K, .bool S, .int .i64 A, .int .i64 C, .slice a1 wlen c1, .slice ba blen bc, .slice a3 alen c3, .bool G] 39)) := (Below.refl _ _).alloc (Nat.le_refl _) _
  have hrow := Go.heap_alloc_new w (.cells #[.int .i64 K, .bool S, .int .i64 A, .int .i64 C, .slice a1 wlen c1, .slice ba blen bc, .slice a3 alen c3, .bool G] 39)
  have HK : Hid (∀ x, Chg (PU pp L R) (w.alloc (.cells #[.int .i64 K, .bool S, .int .i64 A, .int .i64 C, .slice a1 wlen c1, .slice ba blen bc, .slice a3 alen c3, .bool G] 39)) x → x.cell? ⟨w.heap.size, 5, none⟩ = some (.slice ba blen bc) ∧ Chg (PU pp L R) w x) := hide fun x hx => ⟨cell_of_row _ _ _ _ _ _ ((hx.keep _ (by rw [World.size_alloc]; omega) fun e => by have := hlt _ e; omega).trans hrow), (Chg.ofBelow hal).trans hx⟩
  have HST := hide (And.intro (h.below hal) (Chg.refl (PU pp L R) (w.alloc (.cells #[.int .i64 K, .bool S, .int .i64 A, .int .i64 C, .slice a1 wlen c1, .slice ba blen bc, .slice a3 alen c3, .bool G] 39))))
  clear h hT hp hs hz hzp hal hrow hlt ebv ewv eav
  go_enter Tryd.func17, Tryd.ntmps17
  go_wp2_with fail
  generalize w.alloc (.cells #[.int .i64 K, .bool S, .int .i64 A, .int .i64 C, .slice a1 wlen c1, .slice ba blen bc, .slice a3 alen c3, .bool G] 39) = w1 at *
  go_loopw [5] (fun x wr => ∃ i B1 : Nat, i ≤ blen ∧ x = .int .i64 (i : Int) ∧ Pr wr pp k L R n B1 ∧ Chg (PU pp L R) w1 wr) (fun x _ => blen - (intOf x).toNat)
  case atStart => exact ⟨0, _, Nat.zero_le _, rfl, HST.out⟩
  case round =>
    obtain ⟨i, B1, hin, rfl, hpr, hch⟩ := hrel
    obtain ⟨c5, hcw⟩ := HK.out wr hch
    have HA := hide fun y => HAC.out y B1
    have HPR := hide (And.intro hpr (And.intro hch hcw))
    by_cases hlt : i < blen
    · clear hpr hch hcw
      have HC := hide (HA.out wr HPR.out.1 HPR.out.2.2 i)
      clear HA HAC HST
      go_wp2_with (first
        | (go_at_call 20; refine HC.out.mono ?_; rintro e w2 ⟨rfl, B2, hq1, hq2⟩; have HF := hide (And.intro hq1 (HPR.out.2.1.trans hq2)); clear hq1 hq2 HC))
      go_roundw
      case rel => exact ⟨i + 1, B2, by omega, by go_num, HF.out.1, HF.out.2⟩
      case measure => simp [intOf]; omega
    · clear hpr hch hcw
      go_wp2_with fail
      go_ret
      exact ⟨rfl, _, HPR.out.1, HPR.out.2.2⟩
/-- how often an iterator is gone over -/
theorem passes_any {Z w : World} {s : OpV} (hs : OpOk Z s) : Calls Tryd.prog 18 #[opV s] w fun e w' => e = .returned (.int .i64 (if s.again then 2 else 1)) ∧ Below w.heap.size w w' := by
  obtain ⟨ba, bc, ebv, -⟩ := hs.b1
  obtain ⟨a1, c1, ewv, -⟩ := hs.w1
  obtain ⟨a3, c3, eav, -⟩ := hs.a1
  unfold opV
  rw [ewv, ebv, eav]
  generalize s.bl.length = blen at *
  generalize s.wl.length = wlen at *
  generalize s.al.length = alen at *
  generalize s.kind = K at *
  generalize s.a = A at *
  generalize s.b = C at *
  generalize s.sec = S at *
  generalize s.again = G at *
  have HB : Hid (Below w.heap.size w (w.alloc (.cells #[.int .i64 K, .bool S, .int .i64 A, .int .i64 C, .slice a1 wlen c1, .slice ba blen bc, .slice a3 alen c3, .bool G] 39))) := hide ((Below.refl _ _).alloc (Nat.le_refl _) _)
  cases G <;>
  · go_enter Tryd.func18, Tryd.ntmps18
    go_wp2_with fail
    go_ret
    exact ⟨rfl, HB.out⟩
end Go.Proofs.YtnjlbkbhlcccmaaDoor
namespace Go.Proofs.YtnjlbkbhlcccmaaDoor
open Go.RowKit Go.Shelf
attribute [local go_sem] Oper.semAt_some
set_option linter.unusedVariables false
set_option linter.unusedSimpArgs false
set_option maxRecDepth 20000

/-- the frame of all at the head of its loop -/
def alA (pp N M pass : Nat) (ov : Value) (u : Nat → Value) : Array Value := #[.pointer (some ⟨pp, 0, none⟩), ov, .pointer (some ⟨N, 0, none⟩), .pointer (some ⟨N + 1, 0, none⟩), .pointer (some ⟨N + 1 + 1, 0, none⟩), .func (.func 31) #[] #[.pointer (some ⟨N + 1 + 1 + 1, 0, none⟩)], .pointer (some ⟨M, 0, none⟩), .pointer (some ⟨M + 1, 0, none⟩), .int .i64 (pass : Int), u 9, u 10, u 11, u 12, u 13, u 14, u 15, u 16, u 17, u 18, u 19, u 20, u 21, u 22, u 23, u 24, u 25, u 26, u 27, u 28, u 29, u 30, u 31, u 32, u 33, u 34, u 35, u 36, u 37, u 38, u 39, u 40, u 41, u 42, u 43, u 44, u 45, u 46, u 47, u 48, u 49, u 50, u 51, u 52, u 53, u 54, u 55, u 56, u 57, u 58, u 59, u 60, u 61, u 62, u 63, u 64, u 65, u 66, u 67, u 68, u 69, u 70]
def alBs (pp N M act : Nat) (L : BL) (oc : Array Value) (res : Bool) : List (Nat × Array Value × TypeId) :=
  [(N, #[.pointer (some ⟨pp, 0, none⟩)], 26), (N + 1, oc, 39), (N + 1 + 1, #[.bool res], 4), (N + 1 + 1 + 1, #[PB L], 33), (M, #[.bool true], 4), (M + 1, #[.int .i64 (act : Int)], 3)]
def alRs (P s round : Nat) (left : Bool) : List (Nat × Array Value × TypeId) := [(P, #[.int .i64 (s : Int)], 3), (P + 1, #[.int .i64 (round : Int)], 3), (P + 1 + 1, #[.bool left], 4)]
def alI (w : World) (pp k n N M lim : Nat) (L : BL) (R : RL) (ov : Value) (oc : Array Value) (a : Act) (W : World) : Prop :=
  ∃ (pass T act B : Nat) (ds : List Deferred) (u : Nat → Value), a = { tmps := alA pp N M pass ov u, defers := ds } ∧ pass ≤ lim ∧ act ≤ 65536 * pass ∧ M + 1 < T ∧ SB w W pp k n L R (alBs pp N M act L oc false) T ds B
theorem alI_mk {w W : World} {pp k n N M lim : Nat} {L : BL} {R : RL} {ov : Value} {oc : Array Value} {t : Array Value} {ds : List Deferred} (pass T act B : Nat) (h : t = alA pp N M pass ov (fun i => t.getD i undef)) (h1 : pass ≤ lim) (h2 : act ≤ 65536 * pass) (h3 : M + 1 < T) (h4 : SB w W pp k n L R (alBs pp N M act L oc false) T ds B) : alI w pp k n N M lim L R ov oc { tmps := t, defers := ds } W :=
  ⟨pass, T, act, B, ds, _, by rw [← h], h1, h2, h3, h4⟩
/-- behind the loop over the iterator -/
def alMid (w : World) (pp k n N M P pass T : Nat) (L : BL) (R : RL) (oc : Array Value) (ds : List Deferred) (W : World) : Prop :=
  ∃ (s act B round : Nat) (left : Bool), s ≤ n ∧ act ≤ 65536 * pass + s ∧ (left = false → nx B n s = none) ∧ SB w W pp k n L R (alBs pp N M act L oc false ++ alRs P s round left) T ds B
set_option maxHeartbeats 4000000 in
theorem all_any {Z w : World} {pp k n B : Nat} {L : BL} {R : RL} {s : OpV} (h : Pr w pp k L R n B) (hT : TabAt w) (hp : ¬ PU pp L R 0) (hs : OpOk Z s) (hz : Below Z.heap.size Z w) (hzp : ∀ b, PU pp L R b → Z.heap.size ≤ b) :
    Calls Tryd.prog 6 #[.pointer (some ⟨pp, 0, none⟩), opV s] w fun e w' => e = .returned (.bool true) ∧ ∃ B2, Pr w' pp k L R n B2 ∧ Chg (PU pp L R) w w' := by
  refine (callsIn_wide (n := 5)).1 ?_
  have HBF := hide fun (x : World) (hx : Below w.heap.size w x) => before_any (h.below hx) (hT.below hx) hp hs (hz.trans (hx.mono hz.size)) hzp
  have HPA := hide fun (x : World) => passes_any (w := x) hs
  have HAC := hide fun (x : World) B1 (hx : Pr x pp k L R n B1) (hc : Chg (PU pp L R) w x) (i : Nat) => act_any hx (hT.of (hc.keep _ hT.lt hp)) hp (ASl.below hs.a1 (hz.trans (hc.below hz.size hzp))) i
  obtain ⟨ba, bc, ebv, hb1, hb2, -⟩ := hs.b1
  obtain ⟨a1, cw, ewv, -⟩ := hs.w1
  obtain ⟨a3, c3, eav, -⟩ := hs.a1
  unfold opV at HBF HPA ⊢
  rw [ewv, ebv, eav] at HBF HPA ⊢
  rw [eav] at HAC
  have hso := hs.a
  unfold i64ok at hso
  generalize s.bl.length = blen at *
  generalize s.wl.length = wlen at *
  generalize s.al.length = alen at *
  generalize s.kind = K at *
  generalize s.a = A at *
  generalize s.b = C at *
  generalize s.sec = S at *
  generalize s.again = G at *
  have HS0 := hide ((((SB.start h hT hp).alloc #[.pointer (some ⟨pp, 0, none⟩)] 26).alloc #[.int .i64 K, .bool S, .int .i64 A, .int .i64 C, .slice a1 wlen cw, .slice ba blen bc, .slice a3 alen c3, .bool G] 39).alloc #[.bool false] 4)
  have hfe := fnEqAll
  have c0 := HS0.out.cell (i := 0) rfl 0
  have c1 := HS0.out.p.c 0
  have q0 := HS0.out.cell (i := 1) rfl 0
  have q1 := HS0.out.cell (i := 1) rfl 1
  have q2 := HS0.out.cell (i := 1) rfl 2
  have q3 := HS0.out.cell (i := 1) rfl 3
  have q4 := HS0.out.cell (i := 1) rfl 4
  have q5 := HS0.out.cell (i := 1) rfl 5
  have q6 := HS0.out.cell (i := 1) rfl 6
  have q7 := HS0.out.cell (i := 1) rfl 7
  simp only [World.size_alloc] at c0 q0 q1 q2 q3 q4 q5 q6 q7
  clear h hT hs hz hzp ebv ewv eav
  refine callsIn_of_wp_marks Tryd.func6 rfl trivial ?_ rfl
  simp only [Tryd.ntmps6, List.size_toArray, List.length_cons, List.length_nil, Nat.reduceAdd, Nat.reduceSub, Array.replicate_succ, Array.replicate_zero, List.push_toArray, List.append_toArray, List.nil_append, List.cons_append]
  unfold PB at c1
  gi_wp2_with (first
    | (refine ⟨trivial, ?_⟩; gi_at_call 16; refine (callsIn_wide.2 (All_any _ _)).mono ?_; rintro e w' ⟨rfl, rfl⟩)
    | (refine ⟨trivial, ?_⟩; gi_at_call 17; refine (callsIn_wide.2 (HBF.out _ ((((Below.refl _ _).alloc (Nat.le_refl _) _).alloc (by simp) _).alloc (by simp; omega) _ |>.alloc (by simp; omega) _))).mono ?_; rintro e w1 ⟨rfl, B1, hq1, hq2⟩; have HX := hide ((((HS0.out.alloc #[PB L] 33).call hq1 hq2).alloc #[.bool true] 4).alloc #[.int .i64 0] 3); have k4 : (w1.alloc (.cells #[.bool true] 4)).cell? ⟨w1.heap.size, 0, none⟩ = some (.bool true) := cell_of_row _ _ _ _ _ _ (Go.heap_alloc_new _ _); clear hq1 hq2 HBF))
  obtain ⟨N, hN⟩ : ∃ N, w.heap.size = N := ⟨_, rfl⟩
  obtain ⟨M, hM⟩ : ∃ M, w1.heap.size = M := ⟨_, rfl⟩
  have START : SB w ((w1.alloc (.cells #[.bool true] 4)).alloc (.cells #[.int .i64 0] 3)) pp k n L R (alBs pp N M 0 L #[.int .i64 K, .bool S, .int .i64 A, .int .i64 C, .slice a1 wlen cw, .slice ba blen bc, .slice a3 alen c3, .bool G] false) (M + 1 + 1) [] B1 := by
    have h1 := HX.out
    simp only [World.size_alloc, hN, hM, List.nil_append, List.cons_append] at h1
    have hl := h1.lt
    exact ⟨h1.p, h1.t, h1.ch, h1.bx, h1.nd, ⟨trivial, fun d hd => by cases hd⟩, by rw [World.size_alloc, World.size_alloc, hM]; omega, by have := h1.blt (i := 4) rfl; have h5 := h1.bx _ (List.mem_of_getElem? (i := 4) rfl); have := h5.2; rw [hN] at this ⊢; dsimp only at this; omega, h1.pl, h1.tp⟩
  have HNN := hide hN
  rw [hN, hM]
  clear c0 c1 q0 q1 q2 q3 q4 q5 q6 q7 k4 HS0 hfe hN HX hM
  generalize (w1.alloc (.cells #[.bool true] 4)).alloc (.cells #[.int .i64 0] 3) = W1 at *
  obtain ⟨lim, hlim⟩ : ∃ lim : Nat, (if G = true then 2 else 1 : Int) = (lim : Int) ∧ lim ≤ 2 := by
    cases G
    · exact ⟨1, rfl, by omega⟩
    · exact ⟨2, rfl, by omega⟩
  obtain ⟨hlim, hlim2⟩ := hlim
  rw [hlim] at HPA
  clear hlim
  refine wpIn_loop (alI w pp k n N M lim L R (.agg #[.int .i64 K, .bool S, .int .i64 A, .int .i64 C, .slice a1 wlen cw, .slice ba blen bc, .slice a3 alen c3, .bool G]) #[.int .i64 K, .bool S, .int .i64 A, .int .i64 C, .slice a1 wlen cw, .slice ba blen bc, .slice a3 alen c3, .bool G]) (fun a _ => lim - (intOf (a.tmps.getD 8 undef)).toNat) (alI_mk 0 (M + 1 + 1) 0 B1 (by kernel_rfl) (Nat.zero_le _) (Nat.zero_le _) (by omega) START) ?_
  clear START
  rintro a' W ⟨pass, T, act, B2, ds, u, rfl, hpl, hact, hMT, hI⟩
  unfold alA
  have HI := hide hI
  have q0 := hI.cell (i := 1) rfl 0
  have q1 := hI.cell (i := 1) rfl 1
  have q2 := hI.cell (i := 1) rfl 2
  have q3 := hI.cell (i := 1) rfl 3
  have q4 := hI.cell (i := 1) rfl 4
  have q5 := hI.cell (i := 1) rfl 5
  have q6 := hI.cell (i := 1) rfl 6
  have q7 := hI.cell (i := 1) rfl 7
  have HP0 := hide (HPA.out W)
  clear hI
  by_cases hlt : pass < lim
  · gi_wp2_with (first
      | (refine ⟨trivial, ?_⟩; gi_at_call 18; refine (callsIn_wide.2 HP0.out).mono ?_; rintro e W2 ⟨rfl, hb⟩; have HI2 := hide (HI.out.below hb); clear hb HP0))
    clear q0 q1 q2 q3 q4 q5 q6 q7 HI
    obtain ⟨P, hP⟩ : ∃ P, W2.heap.size = P := ⟨_, rfl⟩
    have hTP := HI2.out.lt
    have ST : SB w (((W2.alloc (.cells #[.int .i64 0] 3)).alloc (.cells #[.int .i64 0] 3)).alloc (.cells #[.bool false] 4)) pp k n L R (alBs pp N M act L #[.int .i64 K, .bool S, .int .i64 A, .int .i64 C, .slice a1 wlen cw, .slice ba blen bc, .slice a3 alen c3, .bool G] false ++ alRs P 0 0 false) T ds B2 := by
      have h1 := ((HI2.out.alloc #[.int .i64 0] 3).alloc #[.int .i64 0] 3).alloc #[.bool false] 4
      simp only [World.size_alloc, hP, List.append_assoc, List.nil_append, List.cons_append] at h1
      exact h1
    have HPS : Hid (T ≤ P) := hide (by rw [← hP]; exact hTP)
    rw [hP]
    clear HI2 hP hTP
    generalize ((W2.alloc (.cells #[.int .i64 0] 3)).alloc (.cells #[.int .i64 0] 3)).alloc (.cells #[.bool false] 4) = W3 at *
    refine range_two 2 rfl (by decide) (gf := 31) (lb := #[.pointer (some ⟨N + 1 + 1 + 1, 0, none⟩)]) rfl trivial enters_all
      (all_seq _ (N + 1 + 1 + 1) L n) (fun _ => rfl)
      (fun s W => ∃ act B round, s ≤ n ∧ act ≤ 65536 * pass + s ∧ round ≤ s ∧ SB w W pp k n L R (alBs pp N M act L #[.int .i64 K, .bool S, .int .i64 A, .int .i64 C, .slice a1 wlen cw, .slice ba blen bc, .slice a3 alen c3, .bool G] false ++ alRs P s round false) T ds B)
      (alMid w pp k n N M P pass T L R #[.int .i64 K, .bool S, .int .i64 A, .int .i64 C, .slice a1 wlen cw, .slice ba blen bc, .slice a3 alen c3, .bool G] ds)
      (fun s A B' row hs hg hr => by obtain ⟨a1, b1, r1, h1, h2, h3, h4⟩ := hs; exact ⟨a1, b1, r1, h1, h2, h3, h4.own ST.lt hg hr⟩)
      (fun _ A B' row hs hg hr => by obtain ⟨s1, a1, b1, r1, l1, h1, h2, h3, h4⟩ := hs; exact ⟨s1, a1, b1, r1, l1, h1, h2, h3, h4.own ST.lt hg hr⟩)
      (fun s W hs => by obtain ⟨a1, b1, r1, h1, h2, h3, h4⟩ := hs; exact ⟨⟨b1, h4.p.m⟩, h4.t, h4.cell (i := 3) rfl 0⟩)
      (fun s x s' => fun _ A B' row hs hg hr => by obtain ⟨B2, e1, e2⟩ := hs; exact ⟨B2, own_rep e1 hg hr, e2⟩) (fun s A B' row hs hg hr => by obtain ⟨B2, e1, e2⟩ := hs; exact ⟨B2, own_rep e1 hg hr, e2⟩)
      (fun s W hs he => by obtain ⟨a1, b1, r1, h1, h2, h3, h4⟩ := hs; obtain ⟨B', hR, hx⟩ := he; obtain rfl := h4.p.m.uniq hR; exact ⟨s, a1, b1, r1, false, h1, h2, fun _ => hx, h4⟩)
      ⟨act, B2, 0, Nat.zero_le _, by omega, Nat.le_refl _, ST⟩
      ?a1 ?assign ?body ?rest
    case assign =>
      intro l x W K hK
      simp only [alEnc]
      gi_wp2
      exact hK
    case body =>
      rintro l s x s' W hl1 hl2 ⟨act2, B3, round, hs1, ha2, hrd, hI⟩ ⟨B', hR, hx1, rfl⟩
      obtain rfl := hI.p.m.uniq hR
      obtain ⟨r1, r2, -, -⟩ := nx_facts hx1 hs1
      have HF := hide (find_nx (hI.p.r.kept (w' := W.drew) fun _ _ => rfl) s)
      rw [hx1] at HF
      simp only [orN] at HF
      have hn2 := hI.p.m.n2
      have k0 : W.cell? ⟨N, 0, none⟩ = some (.pointer (some ⟨pp, 0, none⟩)) := hI.cell (i := 0) rfl 0
      have k1 : W.cell? ⟨pp, 1, none⟩ = some (PR R) := hI.p.c 1
      have k3 : W.cell? ⟨P, 0, none⟩ = some (.int .i64 (s : Int)) := hI.cell (i := 6) rfl 0
      have d0 : W.drew.cell? ⟨N, 0, none⟩ = some (.pointer (some ⟨pp, 0, none⟩)) := k0
      have d6 : W.drew.cell? ⟨N + 1, 6, none⟩ = some (.slice a3 alen c3) := hI.cell (i := 1) rfl 6
      have d7 : W.drew.cell? ⟨M + 1, 0, none⟩ = some (.int .i64 (act2 : Int)) := hI.cell (i := 5) rfl 0
      have hID := hI.below ((Below.refl _ _).drew)
      have HA := hide (HAC.out W.drew _ hID.p hID.ch act2)
      have HI := hide hID
      have HWD : Hid (KeepsFrom W3.heap.size W W.drew) := hide (KeepsFrom.ofBelow ((Below.refl _ _).drew) _)
      have hw3 : w.heap.size ≤ W3.heap.size := Nat.le_trans ST.lo ST.lt
      have HW3 := hide hw3
      clear hI hR hx1 hID hw3 ST
      refine wpIn_block ?_
      refine wpIn_seq ?_
      refine wpIn_seq ?_
      refine wpIn_region_heldR (S := fun z => z.cell? ⟨N, 0, none⟩ = some (.pointer (some ⟨pp, 0, none⟩)) ∧ z.cell? ⟨pp, 1, none⟩ = some (PR R) ∧ z.cell? ⟨P, 0, none⟩ = some (.int .i64 (s : Int))) (by kernel_rfl) (by kernel_rfl) (by rintro ⟨_, _, h⟩; exact h) ⟨k0, k1, k3⟩ (fun hHeld => ?_)
      simp only [List.size_toArray, List.length_cons, List.length_nil, Nat.reduceAdd, Array.replicate_succ, Array.replicate_zero, List.push_toArray, List.nil_append, List.cons_append]
      refine wpAnyH_take (i := 0) (v := .int .i64 (x : Int)) rfl (by kernel_rfl) (by kernel_rfl) (by kernel_rfl) (fun _ _ _ h => h) (Or.inl ⟨by rfl, ?hq1_0⟩) hHeld ?rq1_0
      case hq1_0 => intro w' hSw; obtain ⟨e0, e1, e2⟩ := hSw; go_simp; (try with_reducible rfl)
      (try simp only [Act.put, List.getElem_toArray, List.getElem_cons_succ, List.getElem_cons_zero, List.setIfInBounds_toArray, List.set_cons_zero, List.set_cons_succ])
      refine wpAnyH_take (i := 1) (v := .pointer (some ⟨pp, 0, none⟩)) rfl (by kernel_rfl) (by kernel_rfl) (by kernel_rfl) (fun _ _ _ h => h) (Or.inl ⟨by rfl, ?hq1_1⟩) hHeld ?rq1_1
      case hq1_1 => intro w' hSw; obtain ⟨e0, e1, e2⟩ := hSw; go_simp; (try with_reducible rfl)
      (try simp only [Act.put, List.getElem_toArray, List.getElem_cons_succ, List.getElem_cons_zero, List.setIfInBounds_toArray, List.set_cons_zero, List.set_cons_succ])
      refine wpAnyH_take (i := 2) (v := .pointer (some ⟨pp, 0, none⟩)) rfl (by kernel_rfl) (by kernel_rfl) (by kernel_rfl) (fun _ _ _ h => h) (Or.inl ⟨by rfl, ?hq1_2⟩) hHeld ?rq1_2
      case hq1_2 => intro w' hSw; obtain ⟨e0, e1, e2⟩ := hSw; go_simp; (try with_reducible rfl)
      (try simp only [Act.put, List.getElem_toArray, List.getElem_cons_succ, List.getElem_cons_zero, List.setIfInBounds_toArray, List.set_cons_zero, List.set_cons_succ])
      refine wpAnyH_take (i := 3) (v := .pointer (some ⟨pp, 1, none⟩)) rfl (by kernel_rfl) (by kernel_rfl) (by kernel_rfl) (fun _ _ _ h => h) (Or.inl ⟨by rfl, ?hq1_3⟩) hHeld ?rq1_3
      case hq1_3 => intro w' hSw; obtain ⟨e0, e1, e2⟩ := hSw; go_simp; (try with_reducible rfl)
      (try simp only [Act.put, List.getElem_toArray, List.getElem_cons_succ, List.getElem_cons_zero, List.setIfInBounds_toArray, List.set_cons_zero, List.set_cons_succ])
      refine wpAnyH_take (i := 4) (v := PR R) rfl (by kernel_rfl) (by kernel_rfl) (by kernel_rfl) (fun _ _ _ h => h) (Or.inl ⟨by rfl, ?hq1_4⟩) hHeld ?rq1_4
      case hq1_4 => intro w' hSw; obtain ⟨e0, e1, e2⟩ := hSw; go_simp; (try with_reducible rfl)
      (try simp only [Act.put, List.getElem_toArray, List.getElem_cons_succ, List.getElem_cons_zero, List.setIfInBounds_toArray, List.set_cons_zero, List.set_cons_succ])
      refine wpAnyH_take (i := 5) (v := .int .i64 (s : Int)) rfl (by kernel_rfl) (by kernel_rfl) (by kernel_rfl) (fun _ _ _ h => h) (Or.inl ⟨by rfl, ?hq1_5⟩) hHeld ?rq1_5
      case hq1_5 => intro w' hSw; obtain ⟨e0, e1, e2⟩ := hSw; go_simp; (try with_reducible rfl)
      (try simp only [Act.put, List.getElem_toArray, List.getElem_cons_succ, List.getElem_cons_zero, List.setIfInBounds_toArray, List.set_cons_zero, List.set_cons_succ])
      refine wpAnyH_ready (rs := [6]) (by kernel_rfl) (by simp) ?_
      refine AllReadyH.cons rfl (fun K hK => ?_) AllReadyH.nil
      go_simp
      (go_at_call 19; refine HF.out.mono ?_; rintro e w' ⟨rfl, rfl⟩)
      refine hK.out _ _ hHeld (fun hHeld => ?_)
      clear hK K
      (try simp only [Act.put, List.getElem_toArray, List.getElem_cons_succ, List.getElem_cons_zero, List.setIfInBounds_toArray, List.set_cons_zero, List.set_cons_succ])
      refine wpAnyH_take (i := 7) (v := .bool false) rfl (by kernel_rfl) (by kernel_rfl) (by kernel_rfl) (fun _ _ _ h => h) (Or.inl ⟨by rfl, ?hq1_7⟩) hHeld ?rq1_7
      case hq1_7 => intro w' hSw; obtain ⟨e0, e1, e2⟩ := hSw; go_simp; (try with_reducible rfl)
      (try simp only [Act.put, List.getElem_toArray, List.getElem_cons_succ, List.getElem_cons_zero, List.setIfInBounds_toArray, List.set_cons_zero, List.set_cons_succ])
      refine wpAnyH_done (by kernel_rfl) ?_ _
      by_cases hra : (round : Int) = A
      · have hrb : ((round : Int) == A) = true := by simpa using hra
        clear hra
        gi_wp2_with (first
          | (refine ⟨trivial, fun h => by simp [Fence.wide] at h, ?_⟩; gi_at_call 20; refine (CallsIn.inRound l (callsIn_wide.2 HA.out)).mono ?_; rintro e W5 ⟨rfl, B5, hq1, hq2⟩; have hI5 := HI.out.call hq1 hq2; have HK5 := hide (HWD.out.trans (HI.out.keeps hq2 HW3.out)); have hIa := hI5.set (i := 4) (v := .bool true) rfl; have hIb := hIa.set (i := 5) (v := .int .i64 ((act2 : Int) + 1)) rfl; have hIc := hIb.set (i := 6) (v := .int .i64 ((x : Int) + 1)) rfl; have HKC := hide (HK5.out.trans ((hI5.keepsSet (i := 4) (v := .bool true) rfl W3.heap.size).trans ((hIa.keepsSet (i := 5) (v := .int .i64 ((act2 : Int) + 1)) rfl W3.heap.size).trans (hIb.keepsSet (i := 6) (v := .int .i64 ((x : Int) + 1)) rfl W3.heap.size)))); have p0 := hI5.cell (i := 4) rfl 0; have pf0 := hI5.frz (i := 4) rfl 0; have p1 := hIa.cell (i := 5) rfl 0; have pf1 := hIa.frz (i := 5) rfl 0; have pa := hIa.cell (i := 4) rfl 0; have p2 := hIb.cell (i := 6) rfl 0; have pf2 := hIb.frz (i := 6) rfl 0; have p3 := hIc.cell (i := 7) rfl 0; have pf3 := hIc.frz (i := 7) rfl 0; have p4 := hIc.cell (i := 8) rfl 0; have pf4 := hIc.frz (i := 8) rfl 0; have p5 := hIc.cell (i := 1) rfl 2; have HIC := hide hIc; clear hq1 hq2 hI5 hIa hIb hIc HA HK5)
          | (refine ⟨trivial, ?_⟩; gi_at_call 20; refine (CallsIn.inRound l (callsIn_wide.2 HA.out)).mono ?_; rintro e W5 ⟨rfl, B5, hq1, hq2⟩; have hI5 := HI.out.call hq1 hq2; have HK5 := hide (HWD.out.trans (HI.out.keeps hq2 HW3.out)); have hIa := hI5.set (i := 4) (v := .bool true) rfl; have hIb := hIa.set (i := 5) (v := .int .i64 ((act2 : Int) + 1)) rfl; have hIc := hIb.set (i := 6) (v := .int .i64 ((x : Int) + 1)) rfl; have HKC := hide (HK5.out.trans ((hI5.keepsSet (i := 4) (v := .bool true) rfl W3.heap.size).trans ((hIa.keepsSet (i := 5) (v := .int .i64 ((act2 : Int) + 1)) rfl W3.heap.size).trans (hIb.keepsSet (i := 6) (v := .int .i64 ((x : Int) + 1)) rfl W3.heap.size)))); have p0 := hI5.cell (i := 4) rfl 0; have pf0 := hI5.frz (i := 4) rfl 0; have p1 := hIa.cell (i := 5) rfl 0; have pf1 := hIa.frz (i := 5) rfl 0; have pa := hIa.cell (i := 4) rfl 0; have p2 := hIb.cell (i := 6) rfl 0; have pf2 := hIb.frz (i := 6) rfl 0; have p3 := hIc.cell (i := 7) rfl 0; have pf3 := hIc.frz (i := 7) rfl 0; have p4 := hIc.cell (i := 8) rfl 0; have pf4 := hIc.frz (i := 8) rfl 0; have p5 := hIc.cell (i := 1) rfl 2; have HIC := hide hIc; clear hq1 hq2 hI5 hIa hIb hIc HA HK5))
        exact ⟨HKC.out.trans (HIC.out.keepsSet (i := 8) (v := .bool true) rfl _), rfl, x + 1, act2 + 1, B5, round, true, r2, by omega, fun h => (Bool.noConfusion h), HIC.out.set (i := 8) (v := .bool true) rfl⟩
      · have hrb : ((round : Int) == A) = false := by simpa using hra
        clear hra
        gi_wp2_with (first
          | (refine ⟨trivial, fun h => by simp [Fence.wide] at h, ?_⟩; gi_at_call 20; refine (CallsIn.inRound l (callsIn_wide.2 HA.out)).mono ?_; rintro e W5 ⟨rfl, B5, hq1, hq2⟩; have hI5 := HI.out.call hq1 hq2; have HK5 := hide (HWD.out.trans (HI.out.keeps hq2 HW3.out)); have hIa := hI5.set (i := 4) (v := .bool true) rfl; have hIb := hIa.set (i := 5) (v := .int .i64 ((act2 : Int) + 1)) rfl; have hIc := hIb.set (i := 6) (v := .int .i64 ((x : Int) + 1)) rfl; have HKC := hide (HK5.out.trans ((hI5.keepsSet (i := 4) (v := .bool true) rfl W3.heap.size).trans ((hIa.keepsSet (i := 5) (v := .int .i64 ((act2 : Int) + 1)) rfl W3.heap.size).trans (hIb.keepsSet (i := 6) (v := .int .i64 ((x : Int) + 1)) rfl W3.heap.size)))); have p0 := hI5.cell (i := 4) rfl 0; have pf0 := hI5.frz (i := 4) rfl 0; have p1 := hIa.cell (i := 5) rfl 0; have pf1 := hIa.frz (i := 5) rfl 0; have pa := hIa.cell (i := 4) rfl 0; have p2 := hIb.cell (i := 6) rfl 0; have pf2 := hIb.frz (i := 6) rfl 0; have p3 := hIc.cell (i := 7) rfl 0; have pf3 := hIc.frz (i := 7) rfl 0; have p4 := hIc.cell (i := 8) rfl 0; have pf4 := hIc.frz (i := 8) rfl 0; have p5 := hIc.cell (i := 1) rfl 2; have HIC := hide hIc; clear hq1 hq2 hI5 hIa hIb hIc HA HK5)
          | (refine ⟨trivial, ?_⟩; gi_at_call 20; refine (CallsIn.inRound l (callsIn_wide.2 HA.out)).mono ?_; rintro e W5 ⟨rfl, B5, hq1, hq2⟩; have hI5 := HI.out.call hq1 hq2; have HK5 := hide (HWD.out.trans (HI.out.keeps hq2 HW3.out)); have hIa := hI5.set (i := 4) (v := .bool true) rfl; have hIb := hIa.set (i := 5) (v := .int .i64 ((act2 : Int) + 1)) rfl; have hIc := hIb.set (i := 6) (v := .int .i64 ((x : Int) + 1)) rfl; have HKC := hide (HK5.out.trans ((hI5.keepsSet (i := 4) (v := .bool true) rfl W3.heap.size).trans ((hIa.keepsSet (i := 5) (v := .int .i64 ((act2 : Int) + 1)) rfl W3.heap.size).trans (hIb.keepsSet (i := 6) (v := .int .i64 ((x : Int) + 1)) rfl W3.heap.size)))); have p0 := hI5.cell (i := 4) rfl 0; have pf0 := hI5.frz (i := 4) rfl 0; have p1 := hIa.cell (i := 5) rfl 0; have pf1 := hIa.frz (i := 5) rfl 0; have pa := hIa.cell (i := 4) rfl 0; have p2 := hIb.cell (i := 6) rfl 0; have pf2 := hIb.frz (i := 6) rfl 0; have p3 := hIc.cell (i := 7) rfl 0; have pf3 := hIc.frz (i := 7) rfl 0; have p4 := hIc.cell (i := 8) rfl 0; have pf4 := hIc.frz (i := 8) rfl 0; have p5 := hIc.cell (i := 1) rfl 2; have HIC := hide hIc; clear hq1 hq2 hI5 hIa hIb hIc HA HK5))
        exact ⟨HKC.out.trans (HIC.out.keepsSet (i := 7) (v := .int .i64 ((round : Int) + 1)) rfl _), act2 + 1, B5, round + 1, r2, by omega, by omega, HIC.out.set (i := 7) (v := .int .i64 ((round : Int) + 1)) rfl⟩
    case rest =>
      rintro D e W hD he ⟨s, act2, B3, round, left, hs1, ha2, hnx, hI⟩ hK
      have HM := hide ((hI.drop).mark (Nat.le_trans ST.lt hD) hK)
      have k0 : W.cell? ⟨N, 0, none⟩ = some (.pointer (some ⟨pp, 0, none⟩)) := hI.cell (i := 0) rfl 0
      have k1 : W.cell? ⟨pp, 1, none⟩ = some (PR R) := hI.p.c 1
      have k3 : W.cell? ⟨P, 0, none⟩ = some (.int .i64 (s : Int)) := hI.cell (i := 6) rfl 0
      have k5 : W.cell? ⟨P + 1 + 1, 0, none⟩ = some (.bool left) := hI.cell (i := 8) rfl 0
      have HF := hide fun j => (find_nx (hI.p.r.kept (w' := W.drewN j) fun _ _ => rfl) s)
      have hTW : T ≤ W.heap.size := hI.lt
      have hn2 := hI.p.m.n2
      clear hK hI ST
      cases left with
      | true =>
        clear HF
        rcases he with rfl | rfl <;> gi_wp2
        all_goals
          refine wpIn_wide.2 ?_
          go_quiet (fail)
          gi_wp2
          refine ⟨alI_mk (pass + 1) W.heap.size act2 B3 (by kernel_rfl) (by omega) (by omega) (by omega) (HM.out.below (below_drewN (Below.refl _ _) _)), ?_⟩
          simp [intOf]
          omega
      | false =>
        have hn := hnx rfl
        rw [hn] at HF
        simp only [orN] at HF
        clear hnx hn
        rcases he with rfl | rfl <;> gi_wp2
        all_goals
          refine wpIn_wide.2 ?_
          go_quiet ((go_at_call 19; exact Calls.quiet_of_same (HF.out _)))
          gi_wp2
          refine ⟨alI_mk (pass + 1) W.heap.size act2 B3 (by kernel_rfl) (by omega) (by omega) (by omega) (HM.out.below (below_drewN (Below.refl _ _) _)), ?_⟩
          simp [intOf]
          omega
  · gi_wp2_with (first
      | (refine ⟨trivial, ?_⟩; gi_at_call 18; refine (callsIn_wide.2 HP0.out).mono ?_; rintro e W2 ⟨rfl, hb⟩; have HI2 := hide (HI.out.below hb); have f2 := HI2.out.frz (i := 2) rfl 0; have k2 := HI2.out.cell (i := 2) rfl 0; clear hb HP0))
    refine leaves_sb _ _ (HI2.out.set (i := 2) (v := .bool true) rfl) fun W' h' => ?_
    have hres : W'.cell? ⟨N + 1 + 1, 0, none⟩ = some (.bool true) := h'.cell (i := 2) rfl 0
    refine ⟨.bool true, ?_, rfl, ?_⟩
    · simp [results, Tryd.results6, go_sem, hres]
    · exact ⟨_, h'.p, h'.ch⟩
end Go.Proofs.YtnjlbkbhlcccmaaDoor
namespace Go.Proofs.YtnjlbkbhlcccmaaDoor
open Go.RowKit Go.Shelf
set_option linter.unusedVariables false
set_option linter.unusedSimpArgs false
set_option maxRecDepth 20000

/-- a pair and its book in a run of the law -/
structure WL (w0 w : World) (pp k n : Nat) (L : BL) (R : RL) (c : Nat) : Prop where
  ex : ∃ U B, BkB false w k U c ∧ (∀ b, U b → w0.heap.size ≤ b ∧ ¬ PU pp L R b) ∧ Pr w pp k L R n B
  pl : ∀ b, PU pp L R b → w0.heap.size ≤ b
  be : Below w0.heap.size w0 w
theorem WL.below {w0 w x : World} {pp k n c : Nat} {L : BL} {R : RL} (h : WL w0 w pp k n L R c) (hb : Below w.heap.size w x) : WL w0 x pp k n L R c := by
  obtain ⟨U, B, h1, h2, h3⟩ := h.ex
  exact ⟨⟨U, B, h1.below hb, h2, h3.below hb⟩, h.pl, h.be.trans (hb.mono h.be.size)⟩
theorem WL.more {w0 w : World} {pp k n c d : Nat} {L : BL} {R : RL} (h : WL w0 w pp k n L R c) (hd : c ≤ d) : WL w0 w pp k n L R d := by
  obtain ⟨U, B, h1, h2, h3⟩ := h.ex
  exact ⟨⟨U, B, h1.more hd, h2, h3⟩, h.pl, h.be⟩
theorem WL.tab {w0 w : World} {pp k n c : Nat} {L : BL} {R : RL} (h : WL w0 w pp k n L R c) (hT : TabAt w0) : TabAt w ∧ ¬ PU pp L R 0 :=
  ⟨hT.below h.be, fun e => by have := h.pl _ e; have := hT.lt; omega⟩
theorem WL.step {w0 w : World} {pp k n c : Nat} {L : BL} {R : RL} {s : OpV} (h : WL w0 w pp k n L R c) (hT : TabAt w0) (hs : OpOk w0 s) (hc : c ≤ 4000000000000) :
    Calls Tryd.prog 7 #[.pointer (some ⟨pp, 0, none⟩), opV s] w fun e w' => e = .returned (.bool true) ∧ WL w0 w' pp k n L R (c + 1) := by
  obtain ⟨U, B, hb, hU, hp⟩ := h.ex
  refine (step_any hp (h.tab hT).1 hb (fun b e hu => (hU b hu).2 e) hc (hs.below h.be) fun hl b e hu => ?_).mono ?_
  · have := hs.w1.blk hl b e
    have := h.pl b hu
    omega
  · rintro e w' ⟨rfl, B', U', h1, h2, h3, h4⟩
    have hsz := h.be.size
    refine ⟨rfl, ⟨U', B', h2, fun b e => ?_, h1⟩, h.pl, h.be.trans (h3.below h.be.size fun b e => ?_)⟩
    · rcases h4 b e with e | e
      · exact hU b e
      · exact ⟨by omega, fun e2 => by have := hp.lt b e2; omega⟩
    · rcases e with e | e
      · exact h.pl b e
      · exact (hU b e).1
theorem WL.all {w0 w : World} {pp k n c : Nat} {L : BL} {R : RL} {s : OpV} (h : WL w0 w pp k n L R c) (hT : TabAt w0) (hs : OpOk w0 s) :
    Calls Tryd.prog 6 #[.pointer (some ⟨pp, 0, none⟩), opV s] w fun e w' => e = .returned (.bool true) ∧ WL w0 w' pp k n L R (c + 1) := by
  obtain ⟨U, B, hb, hU, hp⟩ := h.ex
  refine (all_any hp (h.tab hT).1 (h.tab hT).2 hs h.be h.pl).mono ?_
  rintro e w' ⟨rfl, B', h1, h2⟩
  exact ⟨rfl, ⟨U, B', (hb.chg h2 fun b hu e => (hU b hu).2 e).more (by omega), hU, h1⟩, h.pl, h.be.trans (h2.below h.be.size h.pl)⟩
theorem WL.start {w x w1 : World} {pp : Nat} (hb2 : Below w.heap.size w x) (hsz : x.heap.size = w.heap.size + 1 + 1) (hmk : MkP false x w1 pp (w.heap.size + 1) (fun b => b = w.heap.size + 1) 0) :
    (w1.cell? ⟨pp, 0, none⟩ = some (.pointer none) ∧ Hid (Below w.heap.size w w1)) ∨ ∃ L R n, Hid (WL w w1 pp (w.heap.size + 1) n L R 1) ∧ w1.cell? ⟨pp, 0, none⟩ = some (.pointer (some ⟨L.p, 0, none⟩)) := by
  obtain ⟨U1, V, a1, a2, a3, a4, a5⟩ := hmk
  have hw1 : Below w.heap.size w w1 := hb2.trans (a3.below hb2.size fun b e => by
    have e' : b = w.heap.size + 1 := e
    omega)
  rcases a2 with ⟨c0, -⟩ | ⟨L, R, n, B, hp, hV⟩
  · exact .inl ⟨c0, hide hw1⟩
  · have hUU : ∀ b, U1 b → w.heap.size ≤ b := fun b e => by
      rcases a4 b e with e | e
      · have e' : b = w.heap.size + 1 := e
        omega
      · rw [hsz] at e; omega
    exact .inr ⟨L, R, n, hide ⟨⟨U1, B, a1.more (by omega), fun b e => ⟨hUU b e, fun e2 => (a5 b (hV b e2)).2.2 e⟩, hp⟩, fun b e => by have := (a5 b (hV b e)).1; rw [hsz] at this; omega, hw1⟩, hp.c 0⟩
set_option maxHeartbeats 4000000 in
theorem walks_law {w : World} {ov mv : Value} {os : List OpV} {l : List Nat} (fr1 : Bool) (n1 : Int) (hT : TabAt w) (ho : OSl w ov os) (hol : os.length ≤ 1500000000000) (hv1 : WSl w mv l) (hl1 : l.length ≤ 17592186044416) :
    Calls Tryd.prog 3 #[.agg #[.bool fr1, .int .i64 n1, mv], ov] w fun e w' => e = .returned (.bool true) ∧ Below w.heap.size w w' := by
  have q1 := pbmNil
  have q2 := pbmSome
  have HT := hide hT
  have hb1 : Below w.heap.size w (w.alloc (.cells #[.bool fr1, .int .i64 n1, mv] 24)) := (Below.refl _ _).alloc (Nat.le_refl _) _
  have hbk := BkB.new (w := w.alloc (.cells #[.bool fr1, .int .i64 n1, mv] 24)) false
  rw [World.size_alloc] at hbk
  have hb2 : Below w.heap.size w ((w.alloc (.cells #[.bool fr1, .int .i64 n1, mv] 24)).alloc (.cells #[.slice none 0 0, .bool false, .slice none 0 0, .slice none 0 0] 32)) := hb1.alloc (by simp) _
  have HM := hide (made_p (fr := fr1) (n := n1) hbk (by omega) (hv1.below hb2) hl1)
  have HB2 := hide hb2
  have hsz2 : ((w.alloc (.cells #[.bool fr1, .int .i64 n1, mv] 24)).alloc (.cells #[.slice none 0 0, .bool false, .slice none 0 0, .slice none 0 0] 32)).heap.size = w.heap.size + 1 + 1 := by simp
  have HSZ := hide hsz2
  obtain ⟨va, vcap, rfl, -⟩ := hv1
  obtain ⟨oa, ocap, rfl, p1, p2, p4, p5⟩ := ho
  unfold maxLen at p2
  have HOKA : Hid (∀ k (hk : k < os.length), OpOk w os[k]) := hide fun k hk => p4 _ (List.getElem_mem hk)
  have HC : Hid (0 < os.length → _) := hide p5
  clear p4 p5 hT hb1 hb2 hbk hsz2 hl1
  generalize l.length = llen at *
  obtain ⟨len, hlen⟩ : ∃ len, os.length = len := ⟨_, rfl⟩
  have HLEN := hide hlen
  rw [hlen] at p1 hol
  rw [hlen]
  clear hlen
  go_enter Tryd.func3, Tryd.ntmps3
  have HST := hide fun (pp : Nat) (w1 : World) hmk => WL.start (w := w) (w1 := w1) (pp := pp) HB2.out HSZ.out hmk
  clear HB2 HSZ
  go_wp2_with (first
    | (go_at_call 5; refine HM.out.mono ?_; rintro e w1 ⟨pp, rfl, hmk⟩; rcases HST.out pp w1 hmk with ⟨c0, HW1⟩ | ⟨L, R, n, HWL, c0⟩))
  · go_ret
    exact ⟨rfl, HW1.out⟩
  · clear HM HST hmk
    clear c0
    go_loopw [7] (fun x wr => ∃ i : Nat, i ≤ len ∧ x = .int .i64 (i : Int) ∧ WL w wr pp (w.heap.size + 1) n L R (1 + i)) (fun x _ => len - (intOf x).toNat)
    case atStart => exact ⟨0, Nat.zero_le _, rfl, HWL.out⟩
    case round =>
      clear HWL
      obtain ⟨i, hin, rfl, hI⟩ := hrel
      have HI := hide hI
      have hb := hI.be
      clear hI
      by_cases hlt : i < len
      · have hkl : i < os.length := by rw [HLEN.out]; exact hlt
        obtain ⟨b, off, rfl, hc⟩ := HC.out (by omega)
        obtain ⟨r0, r1, r2, r3, r4, r5, r6, r7⟩ := hc i hkl
        replace r0 := cell_below hb r0
        replace r1 := cell_below hb r1
        replace r2 := cell_below hb r2
        replace r3 := cell_below hb r3
        replace r4 := cell_below hb r4
        replace r5 := cell_below hb r5
        replace r6 := cell_below hb r6
        replace r7 := cell_below hb r7
        have HOK := hide (HOKA.out i hkl)
        clear hc HC HOKA hb
        generalize os[i] = s at *
        obtain ⟨wa, wcap, ewv, -⟩ := HOK.out.w1
        obtain ⟨ba, bcap, ebv, -⟩ := HOK.out.b1
        obtain ⟨aa, acap, eav, -⟩ := HOK.out.a1
        have HX := hide (HI.out.step HT.out HOK.out (by omega))
        have HY := hide (HI.out.all HT.out HOK.out)
        unfold opV at HX HY
        rw [ewv, ebv, eav] at HX HY
        rw [ewv] at r4
        rw [ebv] at r5
        rw [eav] at r6
        clear ewv ebv eav HI HOK
        generalize s.bl.length = blen at *
        generalize s.al.length = alen at *
        generalize s.wl.length = wlen at *
        by_cases hk : s.kind = 14
        · have hkb : (s.kind == 14) = true := by simpa using hk
          clear hk HX
          generalize s.kind = K at *
          generalize s.a = A at *
          generalize s.b = C at *
          generalize s.sec = S at *
          generalize s.again = G at *
          go_wp2_with (first
            | (go_at_call 6; refine HY.out.mono ?_; rintro e w2 ⟨rfl, h1⟩; have HF := hide h1; clear h1))
          go_roundw
          case rel => exact ⟨i + 1, by omega, by go_num, HF.out.more (by omega)⟩
          case measure => simp [intOf]; omega
        · have hkb : (s.kind == 14) = false := by simpa using hk
          clear hk HY
          generalize s.kind = K at *
          generalize s.a = A at *
          generalize s.b = C at *
          generalize s.sec = S at *
          generalize s.again = G at *
          go_wp2_with (first
            | (go_at_call 7; refine HX.out.mono ?_; rintro e w2 ⟨rfl, h1⟩; have HF := hide h1; clear h1))
          go_roundw
          case rel => exact ⟨i + 1, by omega, by go_num, HF.out.more (by omega)⟩
          case measure => simp [intOf]; omega
      · clear HC HOKA HI
        have HB := hide hb
        clear hb
        go_wp2_with fail
        go_ret
        exact ⟨rfl, HB.out⟩
end Go.Proofs.YtnjlbkbhlcccmaaDoor
namespace Go.Proofs.YtnjlbkbhlcccmaaDoor
open Go.ChangeShapes Go.WideShapes Go.ChangeAt Go.RowKit
set_option linter.unusedVariables false
set_option linter.unusedSimpArgs false
set_option maxRecDepth 20000

theorem own : ownKnob Tryd.prog.godebug = none := by kernel_rfl
theorem laidOut : laidOutB Tryd.prog = true := by kernel_rfl
theorem gTab : Tryd.prog.globalNamed "math/bits.deBruijn64tab" = some 0 := by kernel_rfl
theorem gTabty : (Tryd.prog.globals[0]?).map (·.type) = some 93 := by kernel_rfl
theorem cellsTab : Tryd.prog.cellsOf 93 = 64 := by kernel_rfl
theorem cells8 : Tryd.prog.cellsOf 5 = 1 := by kernel_rfl
theorem cellsInt : Tryd.prog.cellsOf 3 = 1 := by kernel_rfl
theorem cellsBool : Tryd.prog.cellsOf 4 = 1 := by kernel_rfl
theorem cellsWords : Tryd.prog.cellsOf 22 = 1 := by kernel_rfl
theorem cellsU64 : Tryd.prog.cellsOf 63 = 1 := by kernel_rfl
theorem bytesU64 : Tryd.prog.bytesOf 63 = 8 := by kernel_rfl
theorem cellsActs : Tryd.prog.cellsOf 37 = 1 := by kernel_rfl
theorem cellsAct : Tryd.prog.cellsOf 76 = 3 := by kernel_rfl
theorem cellsOp : Tryd.prog.cellsOf 39 = 8 := by kernel_rfl

def listed : List (String × DataW Unit) := [("math/bits.deBruijn64tab", Rows.laid_math_bits_deBruijn64tab)]
theorem tab_of_laid {W : World} (h : laidMetH Tryd.prog listed W) : TabAt W := by
  have h' : laidMet Tryd.prog [("math/bits.deBruijn64tab", Lib.tabData .u8 (Lib.deBruijn64tab.map fun n : Nat => (n : Int)))] W := h
  have h1 := Lib.tabIs_of_head gTab gTabty Tryd.underlying93 Tryd.underlying5 cells8 cellsTab h'
  intro i hi
  have hl : Lib.deBruijn64tab.length = 64 := by decide
  rw [h1.cell gTab i (by simpa [hl] using hi)]
  simp [List.getD, hi, hl]
def relay (cs : List Value) : Obj → Obj
  | .cells _ t frozen => .cells cs.toArray t frozen
  | o => o
/-- a world for the witness: the settled one, with the table in it -/
def laidIn (w : World) : World := { w with heap := w.heap.modify 0 (relay (Lib.deBruijn64tab.map fun n : Nat => .int .u8 (n : Int))) }

def IsRow (k : IntKind) (w : World) (a : Option Addr) (len cap : Nat) (zs : List Int) : Prop :=
  (a = none ∧ len = 0 ∧ cap = 0 ∧ zs = []) ∨
  ∃ x, a = some x ∧ len ≤ cap ∧ cap ≤ maxLen ∧ zs.length = cap ∧ (∀ i, i < zs.length → w.cell? (x.add i) = some (.int k (zs.getD i 0))) ∧ ∀ n ∈ zs, (Lit.int k n).wf = true
theorem wsl_of_isrow {w : World} {a : Option Addr} {len cap : Nat} {zs : List Int} (h : IsRow .u64 w a len cap zs) : ∃ l : List Nat, l.length = len ∧ WSl w (.slice a len cap) l := by
  rcases h with ⟨rfl, rfl, rfl, rfl⟩ | ⟨x, rfl, hl, hm, hz, hcell, hwz⟩
  · exact ⟨[], rfl, none, 0, rfl, Nat.le_refl _, by unfold maxLen; omega, fun _ => rfl, by simp, by simp⟩
  · have hlen : ((zs.take len).map Int.toNat).length = len := by simp; omega
    refine ⟨(zs.take len).map Int.toNat, hlen, _, cap, by rw [hlen], by omega, hm, by simp, ?_, ?_⟩
    · intro b hb
      obtain ⟨n, hn, rfl⟩ := List.mem_map.1 hb
      have := bounds_u64 (hwz n (List.mem_of_mem_take hn))
      omega
    · intro hp
      obtain ⟨b, off, rfl, hc⟩ := ints_at hcell (by omega)
      refine ⟨b, off, rfl, fun i hi => ?_⟩
      rw [hc i (by omega)]
      have hi' : i < zs.length := by omega
      have hb := bounds_u64 (hwz zs[i] (List.getElem_mem hi'))
      have hi2 : i < len := by omega
      have e2 : ((zs.take len).map Int.toNat).getD i 0 = zs[i].toNat := by
        simp [List.getD, hi', hi2]
      have e3 : zs.getD i 0 = zs[i] := by simp [List.getD, hi']
      rw [e2, e3, Int.toNat_of_nonneg hb.1]

/-- a list of words, of which the weights are known -/
theorem open_field {H : Type} {enc : TypeId × Value → H} {W : World} {n : Nat} {v : Value} {y : DataW H × List MemPlace} (h : DataW.trod enc Tryd.prog W 0 (fun _ => true) true n 22 [v] = some y) (hw : ∀ k ∈ y.1.weights Tryd.prog 22, k ≤ reachBytes) : ∃ l : List Nat, WSl W v l ∧ l.length ≤ 17592186044416 := by
  rcases open_ints Tryd.underlying22 Tryd.underlying63 (by kernel_rfl) h with ⟨hcs, hy⟩ | ⟨x, len, cap, zs, hcs, _, hl, hm, hz, hx, hcell, hwz⟩
  · simp at hcs
    subst hcs
    exact ⟨[], ⟨none, 0, rfl, Nat.le_refl _, by unfold maxLen; omega, fun _ => rfl, by simp, by simp⟩, Nat.zero_le _⟩
  · simp at hcs
    subst hcs
    simp only [if_true] at hz
    obtain ⟨l, hll, hb⟩ := wsl_of_isrow (.inr ⟨_, rfl, hl, hm, hz, hcell, hwz⟩)
    subst hx
    refine ⟨l, hb, ?_⟩
    have := hw ((zs.length) * 8) (by
      simp only [DataW.weights]
      rw [Tryd.underlying22]
      simp only [lits, List.length_map, List.length_take, List.length_drop, bytesU64]
      rw [show min len zs.length + (zs.length - len) = zs.length by omega]
      exact List.mem_cons_self)
    unfold reachBytes at this
    omega
theorem open_words {H : Type} {enc : TypeId × Value → H} {W : World} {base : Nat} {v : Value} {d : DataW H} {p : List MemPlace} {ts : List TypeId} {ds : List (DataW H)} (j : Nat) (hts : ts[j]? = some 22) (hds : ds[j]? = some d)
    (hsz : (DataW.weightsEach Tryd.prog ts ds).all (· ≤ reachBytes) = true) (hok : Value.okWide Tryd.prog W .any base 22 v) (h1 : DataW.Trod enc Tryd.prog W 0 (fun _ => true) true 22 v d p) : ∃ l : List Nat, WSl W v l ∧ l.length ≤ 17592186044416 := by
  obtain ⟨a1, len1, cap1, rfl⟩ := okWide_slice Tryd.underlying22 hok
  obtain ⟨fuel, hf⟩ := h1
  refine open_field hf fun k hk => ?_
  have := List.all_eq_true.1 hsz k (DataW.weights_mem_each hts hds k hk)
  simpa using this
theorem trod_place_lt {H : Type} {enc : TypeId × Value → H} {W : World} {t : TypeId} {v : Value} {d : DataW H} {p : List MemPlace} (h1 : DataW.Trod enc Tryd.prog W 0 (fun _ => true) true t v d p) : ∀ x ∈ p, x.block < W.heap.size := by
  obtain ⟨m, hm⟩ := h1; exact DataW.trod_lt m _ _ _ hm
theorem words_again {H : Type} {enc : TypeId × Value → H} {W W' : World} {v : Value} {d : DataW H} {p : List MemPlace} (h1 : DataW.Trod enc Tryd.prog W 0 (fun _ => true) true 22 v d p) (bel : Below W.heap.size W W') :
    DataW.Trod enc Tryd.prog W' 0 (fun b => decide (b < W.heap.size)) true 22 v d p := Below.trod laidOut (by kernel_rfl) (of_decide_eq_true (by kernel_rfl)) h1 bel (trod_place_lt h1)
theorem ops_again {H : Type} {enc : TypeId × Value → H} {W W' : World} {v : Value} {d : DataW H} {p : List MemPlace} (h1 : DataW.Trod enc Tryd.prog W 0 (fun _ => true) true 25 v d p) (bel : Below W.heap.size W W') :
    DataW.Trod enc Tryd.prog W' 0 (fun b => decide (b < W.heap.size)) true 25 v d p := Below.trod laidOut (by kernel_rfl) (of_decide_eq_true (by kernel_rfl)) h1 bel (trod_place_lt h1)

theorem weights_all {H : Type} {P : Program} {e : TypeId} : ∀ {l : List (DataW H)} {d : DataW H}, d ∈ l → ∀ n ∈ d.weights P e, n ∈ DataW.weightsAll P e l
  | [], _, h => by cases h
  | x :: r, d, h => fun n hn => by
    simp only [DataW.weightsAll, List.mem_append]
    rcases List.mem_cons.1 h with rfl | h
    · exact .inl hn
    · exact .inr (weights_all h n hn)

/-- a list of acts -/
theorem open_acts {H : Type} {enc : TypeId × Value → H} {W : World} {fuel : Nat} {v : Value} {y : DataW H × List MemPlace} (h : DataW.trod enc Tryd.prog W 0 (fun _ => true) true fuel 37 [v] = some y) : ∃ l : List ActV, ASl W v l := by
  rcases Go.Deep.open_slice Tryd.underlying37 h with ⟨hcs, _⟩ | ⟨a, len, cap, m, n, D, Pl, hcs, _, hl, hm, hmm, hx, hel⟩
  · simp at hcs
    subst hcs
    exact ⟨[], none, 0, rfl, Nat.le_refl _, by unfold maxLen; omega, by simp, by simp⟩
  · simp at hcs
    subst hcs
    simp only [if_true] at hmm
    subst hmm
    have each : ∀ i, i < len → ∃ s : ActV, (i64ok s.kind ∧ i64ok s.a ∧ i64ok s.b) ∧ W.cell? (a.add (i * 3)) = some (.int .i64 s.kind) ∧ W.cell? (a.add (i * 3 + 1)) = some (.int .i64 s.a) ∧ W.cell? (a.add (i * 3 + 2)) = some (.int .i64 s.b) := by
      intro i hi
      obtain ⟨cs', h1, h2⟩ := hel i (by omega)
      rw [cellsAct] at h1
      obtain ⟨_, hlen, hcell⟩ := World.cells?_some h1
      obtain ⟨xs, k, hk, hxy, _, hxl, hfd⟩ := DataW.trod_struct Tryd.underlying76 h2
      match xs, hxl, cs', hlen with
      | [y0, y1, y2], _, [v0, v1, v2], _ =>
        have g0 := hfd 0 _ rfl
        have g1 := hfd 1 _ rfl
        have g2 := hfd 2 _ rfl
        simp [cellsInt] at g0 g1 g2
        have e0 := hcell 0 (by omega)
        have e1 := hcell 1 (by omega)
        have e2 := hcell 2 (by omega)
        rw [Go.Deep.add_add] at e0 e1 e2
        obtain ⟨z0, hz0, _, wf0⟩ := DataW.trod_int Tryd.underlying3 g0
        obtain ⟨z1, hz1, _, wf1⟩ := DataW.trod_int Tryd.underlying3 g1
        obtain ⟨z2, hz2, _, wf2⟩ := DataW.trod_int Tryd.underlying3 g2
        simp at hz0 hz1 hz2
        subst hz0 hz1 hz2
        exact ⟨⟨z0, z1, z2⟩, ⟨bounds_i64 wf0, bounds_i64 wf1, bounds_i64 wf2⟩, by simpa using e0, by simpa using e1, by simpa using e2⟩
    haveI : Inhabited ActV := ⟨⟨0, 0, 0⟩⟩
    obtain ⟨f, hfa⟩ := Go.Deep.choose_lt each
    refine ⟨(List.range len).map f, some a, m, by simp, by simpa using hl, hm, ?_, ?_⟩
    · intro s hs
      obtain ⟨i, hi, rfl⟩ := List.mem_map.1 hs
      exact (hfa i (List.mem_range.1 hi)).1
    · intro hpos
      simp only [List.length_map, List.length_range] at hpos
      obtain ⟨b, off, spot⟩ := a
      have hspot : spot = none := by simpa [Addr.add] using World.cell?_spot (hfa 0 hpos).2.1
      subst hspot
      refine ⟨b, off, rfl, fun i hi => ?_⟩
      simp only [List.length_map, List.length_range] at hi
      have h := hfa i hi
      simp only [List.getElem_map, List.getElem_range]
      refine ⟨?_, ?_, ?_⟩
      · rw [← Addr.add_lit]; exact h.2.1
      · rw [Nat.add_assoc, ← Addr.add_lit]; exact h.2.2.1
      · rw [Nat.add_assoc, ← Addr.add_lit]; exact h.2.2.2

theorem open_ops {H : Type} {enc : TypeId × Value → H} {W : World} {base : Nat} {v : Value} {d : DataW H} {p : List MemPlace} {ts : List TypeId} {ds : List (DataW H)} (j : Nat) (hts : ts[j]? = some 25) (hds : ds[j]? = some d)
    (hsz : (DataW.weightsEach Tryd.prog ts ds).all (· ≤ reachBytes) = true)
    (hok : Value.okWide Tryd.prog W .any base 25 v) (h1 : DataW.Trod enc Tryd.prog W 0 (fun _ => true) true 25 v d p) : ∃ os : List OpV, OSl W v os := by
  obtain ⟨a1, len1, cap1, rfl⟩ := okWide_slice Tryd.underlying25 hok
  obtain ⟨fuel, hf⟩ := h1
  rcases Go.Deep.open_slice Tryd.underlying25 hf with ⟨hcs, _⟩ | ⟨a, len, cap, m, n, D, Pl, hcs, _, hl, hm, hmm, hx, hel⟩
  · simp [Value.cells] at hcs
    obtain ⟨rfl, rfl, rfl⟩ := hcs
    exact ⟨[], none, 0, rfl, Nat.le_refl _, by unfold maxLen; omega, by simp, by simp⟩
  · simp [Value.cells] at hcs
    obtain ⟨rfl, rfl, rfl⟩ := hcs
    simp only [if_true] at hmm
    subst hmm
    have hwD : ∀ i, i < len1 → ∀ k ∈ (D i).weights Tryd.prog 39, k ≤ reachBytes := fun i hi k hk => by
      have h0 := List.all_eq_true.1 hsz k (DataW.weights_mem_each hts hds k (by
        simp only [Prod.mk.injEq] at hx
        rw [hx.1]
        simp only [DataW.weights]
        rw [Tryd.underlying25]
        refine List.mem_cons_of_mem _ (List.mem_append_left _ (weights_all (d := D i) ?_ k hk))
        exact List.mem_map.2 ⟨i, List.mem_range.2 hi, rfl⟩))
      simpa using h0
    have each : ∀ i, i < len1 → ∃ s : OpV, OpOk W s ∧ W.cell? (a.add (i * 8)) = some (.int .i64 s.kind) ∧ W.cell? (a.add (i * 8 + 1)) = some (.bool s.sec) ∧ W.cell? (a.add (i * 8 + 2)) = some (.int .i64 s.a) ∧ W.cell? (a.add (i * 8 + 3)) = some (.int .i64 s.b) ∧
        W.cell? (a.add (i * 8 + 4)) = some s.wv ∧ W.cell? (a.add (i * 8 + 5)) = some s.bv ∧ W.cell? (a.add (i * 8 + 6)) = some s.av ∧ W.cell? (a.add (i * 8 + 7)) = some (.bool s.again) := by
      intro i hi
      obtain ⟨cs', h1, h2⟩ := hel i (by omega)
      have hwi := hwD i hi
      rw [cellsOp] at h1
      obtain ⟨_, hlen, hcell⟩ := World.cells?_some h1
      obtain ⟨xs, k, hk, hxy, _, hxl, hfd⟩ := DataW.trod_struct Tryd.underlying39 h2
      match xs, hxl, cs', hlen with
      | [y0, y1, y2, y3, y4, y5, y6, y7], _, [v0, v1, v2, v3, v4, v5, v6, v7], _ =>
        have g0 := hfd 0 _ rfl
        have g1 := hfd 1 _ rfl
        have g2 := hfd 2 _ rfl
        have g3 := hfd 3 _ rfl
        have g4 := hfd 4 _ rfl
        have g5 := hfd 5 _ rfl
        have g6 := hfd 6 _ rfl
        have g7 := hfd 7 _ rfl
        simp [cellsInt, cellsBool, cellsWords, cellsActs] at g0 g1 g2 g3 g4 g5 g6 g7
        have e0 := hcell 0 (by omega)
        have e1 := hcell 1 (by omega)
        have e2 := hcell 2 (by omega)
        have e3 := hcell 3 (by omega)
        have e4 := hcell 4 (by omega)
        have e5 := hcell 5 (by omega)
        have e6 := hcell 6 (by omega)
        have e7 := hcell 7 (by omega)
        rw [Go.Deep.add_add] at e0 e1 e2 e3 e4 e5 e6 e7
        obtain ⟨z0, hz0, _, wf0⟩ := DataW.trod_int Tryd.underlying3 g0
        obtain ⟨z1, hz1, _⟩ := DataW.trod_bool Tryd.underlying4 g1
        obtain ⟨z2, hz2, _, wf2⟩ := DataW.trod_int Tryd.underlying3 g2
        obtain ⟨z3, hz3, _, wf3⟩ := DataW.trod_int Tryd.underlying3 g3
        obtain ⟨z7, hz7, _⟩ := DataW.trod_bool Tryd.underlying4 g7
        simp at hz0 hz1 hz2 hz3 hz7
        subst hz0 hz1 hz2 hz3 hz7
        simp only [Prod.mk.injEq] at hxy
        obtain ⟨l, hb, hbl⟩ := open_field g4 (fun k hk => hwi k (by
          rw [hxy.1]
          simp only [DataW.weights]
          rw [Tryd.underlying39]
          exact DataW.weights_mem_each (j := 4) rfl rfl k hk))
        obtain ⟨bl, hbb⟩ := open_acts g5
        obtain ⟨al, hab⟩ := open_acts g6
        exact ⟨⟨z0, z1, z2, z3, v4, l, v5, bl, v6, al, z7⟩, ⟨hb, hbl, hbb, hab, bounds_i64 wf0, bounds_i64 wf2, bounds_i64 wf3⟩, by simpa using e0, by simpa using e1, by simpa using e2, by simpa using e3, by simpa using e4, by simpa using e5, by simpa using e6, by simpa using e7⟩
    haveI : Inhabited OpV := ⟨⟨0, false, 0, 0, .slice none 0 0, [], .slice none 0 0, [], .slice none 0 0, [], false⟩⟩
    obtain ⟨f, hfa⟩ := Go.Deep.choose_lt each
    refine ⟨(List.range len1).map f, some a, m, by simp, by simpa using hl, hm, ?_, ?_⟩
    · intro s hs
      obtain ⟨i, hi, rfl⟩ := List.mem_map.1 hs
      exact (hfa i (List.mem_range.1 hi)).1
    · intro hpos
      simp only [List.length_map, List.length_range] at hpos
      obtain ⟨b, off, spot⟩ := a
      have hspot : spot = none := by simpa [Addr.add] using World.cell?_spot (hfa 0 hpos).2.1
      subst hspot
      refine ⟨b, off, rfl, fun i hi => ?_⟩
      simp only [List.length_map, List.length_range] at hi
      obtain ⟨_, q0, q1, q2, q3, q4, q5, q6, q7⟩ := hfa i hi
      simp only [List.getElem_map, List.getElem_range]
      refine ⟨?_, ?_, ?_, ?_, ?_, ?_, ?_, ?_⟩
      · rw [← Addr.add_lit]; exact q0
      · rw [Nat.add_assoc, ← Addr.add_lit]; exact q1
      · rw [Nat.add_assoc, ← Addr.add_lit]; exact q2
      · rw [Nat.add_assoc, ← Addr.add_lit]; exact q3
      · rw [Nat.add_assoc, ← Addr.add_lit]; exact q4
      · rw [Nat.add_assoc, ← Addr.add_lit]; exact q5
      · rw [Nat.add_assoc, ← Addr.add_lit]; exact q6
      · rw [Nat.add_assoc, ← Addr.add_lit]; exact q7
end Go.Proofs.YtnjlbkbhlcccmaaDoor
namespace Go.Proofs.YtnjlbkbhlcccmaaDoor
open Go.ChangeShapes Go.WideShapes Go.ChangeAt Go.RowKit
set_option linter.unusedVariables false
set_option linter.unusedSimpArgs false
set_option maxRecDepth 20000

theorem cellsMade : Tryd.prog.cellsOf 24 = 3 := by kernel_rfl
theorem three {cs : Array Value} (h : cs.size = 3) : ∃ v0 v1 v2, cs = #[v0, v1, v2] := by
  obtain ⟨l⟩ := cs
  match l, h with
  | [v0, v1, v2], _ => exact ⟨v0, v1, v2, rfl⟩
theorem open_made {H : Type} {enc : TypeId × Value → H} {W : World} {base : Nat} {v : Value} {d : DataW H} {p : List MemPlace} {ts : List TypeId} {ds : List (DataW H)} (j : Nat) (hts : ts[j]? = some 24) (hds : ds[j]? = some d)
    (hsz : (DataW.weightsEach Tryd.prog ts ds).all (· ≤ reachBytes) = true) (hok : Value.okWide Tryd.prog W .any base 24 v) (h1 : DataW.Trod enc Tryd.prog W 0 (fun _ => true) true 24 v d p) :
    ∃ (fr : Bool) (n : Int) (mv : Value) (l : List Nat), v = .agg #[.bool fr, .int .i64 n, mv] ∧ WSl W mv l ∧ l.length ≤ 17592186044416 := by
  obtain ⟨cs, rfl, hcs⟩ := okWide_struct Tryd.underlying24 hok
  obtain ⟨v0, v1, v2, rfl⟩ := three (hcs.trans cellsMade)
  obtain ⟨fuel, hf⟩ := h1
  obtain ⟨xs, k, hk, hxy, hl, hxl, hfd⟩ := DataW.trod_struct Tryd.underlying24 hf
  match xs, hxl with
  | [y0, y1, y2], _ =>
    have g0 := hfd 0 _ rfl
    have g1 := hfd 1 _ rfl
    have g2 := hfd 2 _ rfl
    simp [cellsInt, cellsBool, cellsWords, Value.cells] at g0 g1 g2
    obtain ⟨z0, hz0, _⟩ := DataW.trod_bool Tryd.underlying4 g0
    obtain ⟨z1, hz1, _, wf1⟩ := DataW.trod_int Tryd.underlying3 g1
    simp at hz0 hz1
    subst hz0 hz1
    simp only [Prod.mk.injEq] at hxy
    obtain ⟨l, hb, hbl⟩ := open_field g2 (fun k hk => by
      have h0 := List.all_eq_true.1 hsz k (DataW.weights_mem_each hts hds k (by
        rw [hxy.1]
        simp only [DataW.weights]
        rw [Tryd.underlying24]
        exact DataW.weights_mem_each (j := 2) rfl rfl k hk))
      simpa using h0)
    exact ⟨z0, z1, v2, l, rfl, hb, hbl⟩
theorem made_again {H : Type} {enc : TypeId × Value → H} {W W' : World} {v : Value} {d : DataW H} {p : List MemPlace} (h1 : DataW.Trod enc Tryd.prog W 0 (fun _ => true) true 24 v d p) (bel : Below W.heap.size W W') :
    DataW.Trod enc Tryd.prog W' 0 (fun b => decide (b < W.heap.size)) true 24 v d p := Below.trod laidOut (by kernel_rfl) (of_decide_eq_true (by kernel_rfl)) h1 bel (trod_place_lt h1)
end Go.Proofs.YtnjlbkbhlcccmaaDoor
namespace Go.Proofs.YtnjlbkbhlcccmaaDoor
open Go.ChangeShapes Go.WideShapes Go.ChangeAt Go.RowKit
set_option linter.unusedVariables false
set_option linter.unusedSimpArgs false
set_option maxRecDepth 20000

theorem bytesOp : Tryd.prog.bytesOf 39 = 112 := by kernel_rfl
theorem open_opsL {H : Type} {enc : TypeId × Value → H} {W : World} {base : Nat} {v : Value} {d : DataW H} {p : List MemPlace} {ts : List TypeId} {ds : List (DataW H)} (j : Nat) (hts : ts[j]? = some 25) (hds : ds[j]? = some d)
    (hsz : (DataW.weightsEach Tryd.prog ts ds).all (· ≤ reachBytes) = true)
    (hok : Value.okWide Tryd.prog W .any base 25 v) (h1 : DataW.Trod enc Tryd.prog W 0 (fun _ => true) true 25 v d p) : ∃ os : List OpV, OSl W v os ∧ os.length ≤ 1500000000000 := by
  obtain ⟨os, hos⟩ := open_ops j hts hds hsz hok h1
  refine ⟨os, hos, ?_⟩
  obtain ⟨a0, cap0, e0, -⟩ := hos
  generalize os.length = n0 at *
  subst e0
  obtain ⟨fuel, hf⟩ := h1
  rcases Go.Deep.open_slice Tryd.underlying25 hf with ⟨hcs, _⟩ | ⟨a, len, cap, m, n, D, Pl, hcs, _, hl, hm, hmm, hx, hel⟩
  · simp [Value.cells] at hcs
    omega
  · simp [Value.cells] at hcs
    obtain ⟨rfl, rfl, rfl⟩ := hcs
    simp only [Prod.mk.injEq] at hx
    have h0 := List.all_eq_true.1 hsz _ (DataW.weights_mem_each hts hds _ (by
      rw [hx.1]
      simp only [DataW.weights]
      rw [Tryd.underlying25]
      exact List.mem_cons_self))
    simp only [List.length_map, List.length_range, bytesOp, decide_eq_true_eq] at h0
    unfold reachBytes at h0
    omega
end Go.Proofs.YtnjlbkbhlcccmaaDoor
