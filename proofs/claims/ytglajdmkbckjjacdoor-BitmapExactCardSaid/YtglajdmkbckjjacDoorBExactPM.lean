import Derived.Test.YtglajdmkbckjjacDoorBStep
import Derived.Test.YtglajdmkbckjjacDoorBLayL
import Derived.Test.YtglajdmkbckjjacDoorBMadeB
import Derived.Test.YtglajdmkbckjjacDoorCards
import Derived.Test.YtglajdmkbckjjacDoorTie
import Derived.WalkKit
import Derived.ProofKit
import Derived.OpenShut
import Derived.ChangeOld
import Derived.SizedLaws
import Derived.ChangeSlices
import Derived.Deep.Slices
import Derived.ChangeSame
import Derived.Deep.DeepHandedRow
import Derived.Lib.LaidTab
namespace Go.Proofs.YtglajdmkbckjjacDoor
open Go.RowKit Go.Shelf
set_option linter.unusedVariables false
set_option linter.unusedSimpArgs false
set_option maxRecDepth 20000

/-- an operation as a value -/
def opV (s : OpV) : Value := .agg #[.int .i64 s.kind, .bool s.sec, .int .i64 s.a, .int .i64 s.b, s.wv, s.bv, s.av, .bool s.again]
theorem OpOk.form {w : World} {s : OpV} (h : OpOk w s) : ∃ a1 a2 a3 n1 n2 n3 c1 c2 c3, s.wv = .slice a1 n1 c1 ∧ opV s = opA s.kind s.a s.b s.sec s.again a1 a2 a3 n1 n2 n3 c1 c2 c3 := by
  obtain ⟨a1, c1, e1, -⟩ := h.w1
  obtain ⟨a2, c2, e2, -⟩ := h.b1
  obtain ⟨a3, c3, e3, -⟩ := h.a1
  exact ⟨a1, a2, a3, _, _, _, c1, c2, c3, e1, by unfold opV opA; rw [e1, e2, e3]⟩
theorem change_0 {w : World} (pp : Nat) (K A C : Int) (s again : Bool) (a1 a2 a3 : Option Addr) (n1 n2 n3 c1 c2 c3 : Nat) (hK : K < 1) :
    Calls Tryd.prog 24 #[.pointer (some ⟨pp, 0, none⟩), opA K A C s again a1 a2 a3 n1 n2 n3 c1 c2 c3] w fun e w' => e = .returned (.bool true) ∧ Below w.heap.size w w' := by
  unfold opA
  have HBE := hide ((Below.refl w.heap.size w).alloc (Nat.le_refl _) (.cells #[.int .i64 K, .bool s, .int .i64 A, .int .i64 C, .slice a1 n1 c1, .slice a2 n2 c2, .slice a3 n3 c3, .bool again] 41))
  have b1 : (K == 1) = false := by simp; omega
  have b2 : (K == 2) = false := by simp; omega
  have b3 : (K == 3) = false := by simp; omega
  have b4 : (K == 4) = false := by simp; omega
  have b5 : (K == 5) = false := by simp; omega
  clear hK
  go_enter Tryd.func24, Tryd.ntmps24
  go_wp2_with fail
  go_ret
  exact ⟨rfl, HBE.out⟩
theorem ask_0 {w : World} (pp : Nat) (K A C : Int) (s again : Bool) (a1 a2 a3 : Option Addr) (n1 n2 n3 c1 c2 c3 : Nat) (hK : 13 < K) :
    Calls Tryd.prog 25 #[.pointer (some ⟨pp, 0, none⟩), opA K A C s again a1 a2 a3 n1 n2 n3 c1 c2 c3] w fun e w' => e = .returned (.bool true) ∧ Below w.heap.size w w' := by
  unfold opA
  have HBE := hide ((Below.refl w.heap.size w).alloc (Nat.le_refl _) (.cells #[.int .i64 K, .bool s, .int .i64 A, .int .i64 C, .slice a1 n1 c1, .slice a2 n2 c2, .slice a3 n3 c3, .bool again] 41))
  have b6 : (K == 6) = false := by simp; omega
  have b7 : (K == 7) = false := by simp; omega
  have b8 : (K == 8) = false := by simp; omega
  have b9 : (K == 9) = false := by simp; omega
  have b10 : (K == 10) = false := by simp; omega
  have b11 : (K == 11) = false := by simp; omega
  have b12 : (K == 12) = false := by simp; omega
  have b13 : (K == 13) = false := by simp; omega
  clear hK
  go_enter Tryd.func25, Tryd.ntmps25
  go_wp2_with fail
  go_ret
  exact ⟨rfl, HBE.out⟩
/-- a change -/
theorem change_any {late : Bool} {w : World} {pp k n B c : Nat} {L : BL} {R : RL} {U : Nat → Prop} {s : OpV} (h : Pr w pp k L R n B) (hb : BkB late w k U c) (hd : ∀ b, PU pp L R b → ¬ U b) (hc : c ≤ 4000000000000) (hs : OpOk w s)
    (hsep : 0 < s.wl.length → ∀ b, blockOf s.wv = some b → ¬ PU pp L R b) (hK : s.kind ≤ 5) :
    Calls Tryd.prog 24 #[.pointer (some ⟨pp, 0, none⟩), opV s] w fun e w' => e = .returned (.bool true) ∧ SP late w w' pp k L R n U (c + 1) := by
  obtain ⟨a1, a2, a3, n1, n2, n3, c1, c2, c3, e1, e⟩ := hs.form
  rw [e]
  have hlt := h.lt
  have fin : ∀ {B' : Nat} {w' : World}, Pr w' pp k L R n B' → Chg (PU pp L R) w w' → SP late w w' pp k L R n U (c + 1) := fun h1 h2 => SP.chg hb hd h1 h2
  by_cases k0 : s.kind < 1
  · exact (change_0 pp _ _ _ _ _ _ _ _ _ _ _ _ _ _ k0).mono fun e w' hp => ⟨hp.1, fin (h.below hp.2) (Chg.ofBelow hp.2)⟩
  by_cases k1 : s.kind = 1
  · rw [k1]
    by_cases hi : 0 ≤ s.a ∧ s.a < n
    · obtain ⟨i, ei⟩ := Int.eq_ofNat_of_zero_le hi.1
      rw [ei] at hi ⊢
      exact (change_1 h (i : Int) s.b 0 (!B.testBit i) _ _ _ _ _ _ _ _ _ _ _ (fun x hx => Set_any hx (by omega)) (fun x hx => (rPut_any hx true (by omega)).mono fun e w' hp => ⟨by rw [hp.1]; simp, hp.2⟩)).mono fun e w' hp => ⟨hp.1, fin hp.2.1 hp.2.2⟩
    · exact (change_1 (B' := B) h s.a s.b 2 false _ _ _ _ _ _ _ _ _ _ _ (fun x hx => (Set_no hx _ hi).mono fun e w' hp => ⟨hp.1, hx.below hp.2, Chg.ofBelow hp.2⟩) (fun x hx => (rPut_no hx _ true hi).mono fun e w' hp => ⟨hp.1, by rw [hp.2]; exact hx, by rw [hp.2]; exact Chg.refl _ _⟩)).mono fun e w' hp => ⟨hp.1, fin hp.2.1 hp.2.2⟩
  by_cases k2 : s.kind = 2
  · rw [k2]
    by_cases hi : 0 ≤ s.a ∧ s.a < n
    · obtain ⟨i, ei⟩ := Int.eq_ofNat_of_zero_le hi.1
      rw [ei] at hi ⊢
      exact (change_2 h (i : Int) s.b 0 (B.testBit i) _ _ _ _ _ _ _ _ _ _ _ (fun x hx => Clear_any hx (by omega)) (fun x hx => (rPut_any hx false (by omega)).mono fun e w' hp => ⟨by rw [hp.1]; simp, hp.2⟩)).mono fun e w' hp => ⟨hp.1, fin hp.2.1 hp.2.2⟩
    · exact (change_2 (B' := B) h s.a s.b 2 false _ _ _ _ _ _ _ _ _ _ _ (fun x hx => (Clear_no hx _ hi).mono fun e w' hp => ⟨hp.1, hx.below hp.2, Chg.ofBelow hp.2⟩) (fun x hx => (rPut_no hx _ false hi).mono fun e w' hp => ⟨hp.1, by rw [hp.2]; exact hx, by rw [hp.2]; exact Chg.refl _ _⟩)).mono fun e w' hp => ⟨hp.1, fin hp.2.1 hp.2.2⟩
  by_cases k3 : s.kind = 3
  · rw [k3]
    by_cases hi : rgErr n s.a s.b = 0
    · obtain ⟨h1, h2, h3, h4, h5⟩ := rgErr_zero hi
      generalize s.a.toNat = i at *
      generalize s.b.toNat = j at *
      rw [h4, h5]
      exact (change_3 h (i : Int) (j : Int) 0 ((cnt (fun q => !B.testBit (i + q)) j : Nat) : Int) _ _ _ _ _ _ _ _ _ _ _ (fun x hx => SetRange_any hx h3) (fun x hx => (rPutRange_any hx true h3).mono fun e w' hp => ⟨by rw [hp.1]; simp, hp.2⟩)).mono fun e w' hp => ⟨hp.1, fin hp.2.1 hp.2.2⟩
    · exact (change_3 (B' := B) h s.a s.b _ 0 _ _ _ _ _ _ _ _ _ _ _ (fun x hx => (SetRange_no hx _ _ hi).mono fun e w' hp => ⟨hp.1, hx.below hp.2, Chg.ofBelow hp.2⟩) (fun x hx => (rPutRange_no hx _ _ true hi).mono fun e w' hp => ⟨hp.1, by rw [hp.2]; exact hx, by rw [hp.2]; exact Chg.refl _ _⟩)).mono fun e w' hp => ⟨hp.1, fin hp.2.1 hp.2.2⟩
  by_cases k4 : s.kind = 4
  · rw [k4]
    by_cases hi : rgErr n s.a s.b = 0
    · obtain ⟨h1, h2, h3, h4, h5⟩ := rgErr_zero hi
      generalize s.a.toNat = i at *
      generalize s.b.toNat = j at *
      rw [h4, h5]
      exact (change_4 h (i : Int) (j : Int) 0 ((cnt (fun q => B.testBit (i + q)) j : Nat) : Int) _ _ _ _ _ _ _ _ _ _ _ (fun x hx => ClearRange_any hx h3) (fun x hx => (rPutRange_any hx false h3).mono fun e w' hp => ⟨by rw [hp.1]; simp, hp.2⟩)).mono fun e w' hp => ⟨hp.1, fin hp.2.1 hp.2.2⟩
    · exact (change_4 (B' := B) h s.a s.b _ 0 _ _ _ _ _ _ _ _ _ _ _ (fun x hx => (ClearRange_no hx _ _ hi).mono fun e w' hp => ⟨hp.1, hx.below hp.2, Chg.ofBelow hp.2⟩) (fun x hx => (rPutRange_no hx _ _ false hi).mono fun e w' hp => ⟨hp.1, by rw [hp.2]; exact hx, by rw [hp.2]; exact Chg.refl _ _⟩)).mono fun e w' hp => ⟨hp.1, fin hp.2.1 hp.2.2⟩
  have k5 : s.kind = 5 := by omega
  rw [k5]
  have hw := hs.w1
  rw [e1] at hw hsep
  have hll := hs.w2
  have hm : s.wl.length + 3 ≤ maxLen := by unfold maxLen; omega
  have keep : ∀ (B' : Nat) (x : World) (v : Value), Pr x pp k L R n B' → Chg (PU pp L R) w x → Cp w.heap.size x v s.wl → Calls Tryd.prog 16 #[.pointer (some ⟨k, 0, none⟩), v] x fun e w' => e = .returned (.tuple #[]) ∧ KPB late k c U x v w' := fun B' x v h1 h2 h3 =>
    keepAny (hb.chg h2 fun b hu hp => hd b hp hu) (h3.rowL hm) (h3.wsl hw.lt hm) hll hc fun b e hu => by have := h3.own b e; have := hb.lt b hu; omega
  by_cases he : cwErr n s.wl = 0
  · refine (change_5 (KP := KPB late k c U) (B' := B ||| valW s.wl) h s.a s.b ((news B (valW s.wl) n : Nat) : Int) 0 _ _ _ _ _ _ _ _ _ _ _ hw hll hsep (fun x v h1 h2 h3 => (Merge_any h1 h2 h3 he).mono fun e w' hp => ⟨hp.1, hp.2.1, hp.2.2.1⟩) (fun x v h1 h2 => rMerge_any h1 h2 he) (keep _)).mono ?_
    rintro e w' ⟨rfl, x, v, h1, h2, h3, h4⟩
    exact ⟨rfl, SP.keep hd hlt h1 h2 h3.own h4⟩
  · refine (change_5 (KP := KPB late k c U) (B' := B) h s.a s.b 0 ((cwErr n s.wl : Nat) : Int) _ _ _ _ _ _ _ _ _ _ _ hw hll hsep (fun x v h1 h2 h3 => (Merge_no h1 h2 he).mono fun e w' hp => ⟨hp.1, by rw [hp.2]; exact h1, by rw [hp.2]; exact Chg.refl _ _⟩) (fun x v h1 h2 => (rMerge_no h1 h2 he).mono fun e w' hp => ⟨hp.1, by rw [hp.2]; exact h1, by rw [hp.2]; exact Chg.refl _ _⟩) (keep _)).mono ?_
    rintro e w' ⟨rfl, x, v, h1, h2, h3, h4⟩
    exact ⟨rfl, SP.keep hd hlt h1 h2 h3.own h4⟩
theorem find_any {w : World} {R : RL} {n B : Nat} (h : RRep w R n B) (i : Int) (to : Bool) :
    Calls Tryd.prog 22 #[PR R, .int .i64 i, .bool to] w fun e w' => e = .returned (.int .i64 (orN (fnd (fun j => B.testBit j == to) i.toNat (n - i.toNat)))) ∧ w' = w := by
  by_cases hi : i < 0
  · exact rFind_neg h i to hi
  · exact rFind_pos h i to (by omega)
/-- a question -/
theorem ask_any {late : Bool} {w : World} {pp k n B c : Nat} {L : BL} {R : RL} {U : Nat → Prop} {s : OpV} (h : Pr w pp k L R n B) (hT : TabAt w) (hb : BkB late w k U c) (hd : ∀ b, PU pp L R b → ¬ U b) (hc : c ≤ 4000000000000) (hs : OpOk w s) (hK : 5 < s.kind) :
    Calls Tryd.prog 25 #[.pointer (some ⟨pp, 0, none⟩), opV s] w fun e w' => e = .returned (.bool true) ∧ SP late w w' pp k L R n U (c + 1) := by
  obtain ⟨a1, a2, a3, n1, n2, n3, c1, c2, c3, e1, e⟩ := hs.form
  rw [e]
  have hlt := h.lt
  have hn := h.m.n2
  have fin : ∀ {B' : Nat} {w' : World}, Pr w' pp k L R n B' → Chg (PU pp L R) w w' → SP late w w' pp k L R n U (c + 1) := fun h1 h2 => SP.chg hb hd h1 h2
  have keep : ∀ (l : List Nat) (x : World) (v : Value), l.length ≤ 1024 → (∀ y ∈ l, y < 18446744073709551616) → Below w.heap.size w x → x.ownsRow w.heap.size 67 1 v l.length (l.map u64V) → Calls Tryd.prog 16 #[.pointer (some ⟨k, 0, none⟩), v] x fun e w' => e = .returned (.tuple #[]) ∧ KPB late k c U x v w' := fun l x v h0 h9 h1 h2 =>
    keepAny (hb.below h1) (row_zero h2) (wsl_of_row h2 h9) (by omega) hc fun b e hu => by have := (h2.lt b e).1; have := hb.lt b hu; omega
  by_cases k6 : s.kind = 6
  · rw [k6]
    by_cases hi : 0 ≤ s.a ∧ s.a < n
    · obtain ⟨i, ei⟩ := Int.eq_ofNat_of_zero_le hi.1
      rw [ei] at hi ⊢
      exact (ask_6 (B' := B) h (i : Int) s.b 0 (B.testBit i) _ _ _ _ _ _ _ _ _ _ _ (fun x hx => (Test_any hx (by omega)).mono fun e w' hp => ⟨hp.1, hx.below hp.2, Chg.ofBelow hp.2⟩) (fun x hx => (rTest_any hx (by omega)).mono fun e w' hp => ⟨hp.1, by rw [hp.2]; exact hx, by rw [hp.2]; exact Chg.refl _ _⟩)).mono fun e w' hp => ⟨hp.1, fin hp.2.1 hp.2.2⟩
    · exact (ask_6 (B' := B) h s.a s.b 2 false _ _ _ _ _ _ _ _ _ _ _ (fun x hx => (Test_no hx _ hi).mono fun e w' hp => ⟨hp.1, hx.below hp.2, Chg.ofBelow hp.2⟩) (fun x hx => (rTest_no hx _ hi).mono fun e w' hp => ⟨hp.1, by rw [hp.2]; exact hx, by rw [hp.2]; exact Chg.refl _ _⟩)).mono fun e w' hp => ⟨hp.1, fin hp.2.1 hp.2.2⟩
  by_cases k7 : s.kind = 7
  · rw [k7]
    exact (ask_count h _ _ _ _ _ _ _ _ _ _ _ _ _).mono fun e w' hp => ⟨hp.1, fin (h.below hp.2) (Chg.ofBelow hp.2)⟩
  by_cases k8 : s.kind = 8
  · rw [k8]
    by_cases hi : rgErr n s.a s.b = 0
    · obtain ⟨h1, h2, h3, h4, h5⟩ := rgErr_zero hi
      generalize s.a.toNat = i at *
      generalize s.b.toNat = j at *
      rw [h4, h5]
      exact (ask_8 (B' := B) h (i : Int) (j : Int) 0 ((cnt (fun q => B.testBit (i + q)) j : Nat) : Int) _ _ _ _ _ _ _ _ _ _ _ (fun x hx => (CountRange_any hx h3).mono fun e w' hp => ⟨hp.1, hx.below hp.2, Chg.ofBelow hp.2⟩) (fun x hx => (rCountRange_any hx h3).mono fun e w' hp => ⟨hp.1, by rw [hp.2]; exact hx, by rw [hp.2]; exact Chg.refl _ _⟩)).mono fun e w' hp => ⟨hp.1, fin hp.2.1 hp.2.2⟩
    · exact (ask_8 (B' := B) h s.a s.b _ 0 _ _ _ _ _ _ _ _ _ _ _ (fun x hx => (CountRange_no hx _ _ hi).mono fun e w' hp => ⟨hp.1, hx.below hp.2, Chg.ofBelow hp.2⟩) (fun x hx => (rCountRange_no hx _ _ hi).mono fun e w' hp => ⟨hp.1, by rw [hp.2]; exact hx, by rw [hp.2]; exact Chg.refl _ _⟩)).mono fun e w' hp => ⟨hp.1, fin hp.2.1 hp.2.2⟩
  by_cases k9 : s.kind = 9
  · rw [k9]
    exact (ask_9 h s.a s.b (orN (nx B n s.a.toNat)) _ _ _ _ _ _ _ _ _ _ _ (fun x h1 h2 => Next_any h2 (hT.below h1) s.a) (fun x hx => (find_any hx s.a true).mono fun e w' hp => ⟨by rw [hp.1]; simp [nx], hp.2⟩)).mono fun e w' hp => ⟨hp.1, fin hp.2.1 hp.2.2⟩
  by_cases k10 : s.kind = 10
  · rw [k10]
    exact (ask_10 h s.a s.b (orN (nc B n s.a.toNat)) _ _ _ _ _ _ _ _ _ _ _ (fun x h1 h2 => NextClear_any h2 (hT.below h1) s.a) (fun x hx => (find_any hx s.a false).mono fun e w' hp => ⟨by rw [hp.1]; simp [nc], hp.2⟩)).mono fun e w' hp => ⟨hp.1, fin hp.2.1 hp.2.2⟩
  by_cases k11 : s.kind = 11
  · rw [k11]
    exact (ask_len h _ _ _ _ _ _ _ _ _ _ _ _ _).mono fun e w' hp => ⟨hp.1, fin (h.below hp.2) (Chg.ofBelow hp.2)⟩
  by_cases k12 : s.kind = 12
  · rw [k12]
    refine (ask_words_g (KP := KPB late k c U) h s.a s.b _ _ _ _ _ _ _ _ _ _ _ (fun x v h1 h2 => keep (wds B (nW n)) x v (by rw [wds_len]; unfold nW; omega) (wds_lt _ _) h1 (by rw [wds_len]; exact h2))).mono ?_
    rintro e w' ⟨rfl, x, v, h1, h2, h4⟩
    exact ⟨rfl, SP.keep hd hlt (h.below h1) (Chg.ofBelow h1) (fun b e => (h2.lt b e).1) h4⟩
  by_cases k13 : s.kind = 13
  · rw [k13]
    refine (ask_sum_g (KP := KPB late k c U) h s.a s.b _ _ _ _ _ _ _ _ _ _ _ (fun x v h1 h2 => keep (wds (up B (nW n)) (nW (nW n))) x v (by rw [wds_len]; unfold nW; omega) (wds_lt _ _) h1 (by rw [wds_len]; exact h2))).mono ?_
    rintro e w' ⟨rfl, x, v, h1, h2, h4⟩
    exact ⟨rfl, SP.keep hd hlt (h.below h1) (Chg.ofBelow h1) (fun b e => (h2.lt b e).1) h4⟩
  exact (ask_0 pp _ _ _ _ _ _ _ _ _ _ _ _ _ _ (by omega)).mono fun e w' hp => ⟨hp.1, fin (h.below hp.2) (Chg.ofBelow hp.2)⟩
/-- a step -/
theorem step_any {late : Bool} {w : World} {pp k n B c : Nat} {L : BL} {R : RL} {U : Nat → Prop} {s : OpV} (h : Pr w pp k L R n B) (hT : TabAt w) (hb : BkB late w k U c) (hd : ∀ b, PU pp L R b → ¬ U b) (hc : c ≤ 4000000000000) (hs : OpOk w s)
    (hsep : 0 < s.wl.length → ∀ b, blockOf s.wv = some b → ¬ PU pp L R b) :
    Calls Tryd.prog 9 #[.pointer (some ⟨pp, 0, none⟩), opV s] w fun e w' => e = .returned (.bool true) ∧ SP late w w' pp k L R n U (c + 1) := by
  have HBE := fun o => (Below.refl w.heap.size w).alloc (Nat.le_refl _) o
  have HCH := hide fun (x : World) (hx : Below w.heap.size w x) (hK : s.kind ≤ 5) => change_any (h.below hx) (hb.below hx) hd hc (hs.below hx) hsep hK
  have HAS := hide fun (x : World) (hx : Below w.heap.size w x) (hK : 5 < s.kind) => ask_any (h.below hx) (hT.below hx) (hb.below hx) hd hc (hs.below hx) hK
  have fin : ∀ x w', Below w.heap.size w x → SP late x w' pp k L R n U (c + 1) → SP late w w' pp k L R n U (c + 1) := fun x w' hx ⟨B', U', h1, h2, h3, h4⟩ => ⟨B', U', h1, h2, (Chg.ofBelow hx).trans h3, fun b e => (h4 b e).imp id fun e => Nat.le_trans hx.size e⟩
  have HFIN := hide fin
  obtain ⟨a1, a2, a3, n1, n2, n3, c1, c2, c3, e1, e⟩ := hs.form
  rw [e] at HCH HAS ⊢
  unfold opA at HCH HAS ⊢
  have HB := hide (HBE (.cells #[.int .i64 s.kind, .bool s.sec, .int .i64 s.a, .int .i64 s.b, .slice a1 n1 c1, .slice a2 n2 c2, .slice a3 n3 c3, .bool s.again] 41))
  clear HBE fin h hT hb hd hc hs hsep e
  generalize s.kind = K at *
  generalize s.a = A at *
  generalize s.b = C at *
  generalize s.sec = S at *
  generalize s.again = G at *
  go_enter Tryd.func9, Tryd.ntmps9
  by_cases hK : K ≤ 5
  · have HC := hide (HCH.out _ HB.out hK)
    go_wp2_with (first
      | (go_at_call 24; refine HC.out.mono ?_; rintro e w2 ⟨rfl, hq⟩; have HQ := hide (HFIN.out _ _ HB.out hq); clear hq))
    go_ret
    exact ⟨rfl, HQ.out⟩
  · have HC := hide (HAS.out _ HB.out (by omega))
    go_wp2_with (first
      | (go_at_call 25; refine HC.out.mono ?_; rintro e w2 ⟨rfl, hq⟩; have HQ := hide (HFIN.out _ _ HB.out hq); clear hq))
    go_ret
    exact ⟨rfl, HQ.out⟩
end Go.Proofs.YtglajdmkbckjjacDoor
namespace Go.Proofs.YtglajdmkbckjjacDoor
open Go.RowKit Go.Shelf
set_option linter.unusedVariables false
set_option linter.unusedSimpArgs false
set_option maxRecDepth 20000

/-- half way through settled: the first i lists are written full -/
structure SvD (w0 wr : World) (N k : Nat) (bv raw was : Value) (ys vs us : List Value) (i : Nat) : Prop where
  s : BkS wr k false bv raw was ys vs us
  len : ys.length = 2 * i
  lt : ∀ b, Ent raw was ys vs us b → b < wr.heap.size
  d1 : ∀ b, Ent raw was ys vs us b → b ≠ k ∧ bv.ownBlock ≠ some b
  own : ∀ (j : Nat) (x : Value), i ≤ j → vs[j]? = some x → ∃ l : List Nat, wr.ownsRow 0 67 1 x l.length (l.map u64V) ∧ l.length ≤ 17592186044416
  d2 : ∀ (j : Nat) (x : Value), i ≤ j → vs[j]? = some x → ∀ b, x.ownBlock = some b → raw.ownBlock ≠ some b ∧ was.ownBlock ≠ some b ∧ (∀ y, (y ∈ ys ∨ y ∈ us) → y.ownBlock ≠ some b) ∧ ∀ (j' : Nat) (y : Value), j' ≠ j → vs[j']? = some y → y.ownBlock ≠ some b
  be : Below N w0 wr
  nb : ∀ b, (b = k ∨ bv.ownBlock = some b ∨ Ent raw was ys vs us b) → N ≤ b
def Sv (w0 wr : World) (N k : Nat) (raw was : Value) (vs us : List Value) (i : Nat) : Prop := ∃ bv ys, SvD w0 wr N k bv raw was ys vs us i
theorem Sv.step {w0 wr : World} {N k i : Nat} {raw was v : Value} {vs us : List Value} (h : Sv w0 wr N k raw was vs us i) (hv : vs[i]? = some v) (hi : i ≤ 4000000000000) :
    Calls Tryd.prog 16 #[.pointer (some ⟨k, 0, none⟩), v] wr fun e w' => e = .returned (.tuple #[]) ∧ Sv w0 w' N k raw was vs us (i + 1) := by
  obtain ⟨bv, ys, h⟩ := h
  obtain ⟨l, hr, hl⟩ := h.own i v (Nat.le_refl _) hv
  have hlen := h.len
  have hE : ∀ b, Ent2 i raw was ys vs us b → Ent raw was ys vs us b := by
    rintro b (e | e | ⟨x, hx, e⟩ | ⟨j, x, _, hx, e⟩)
    · exact .inl e
    · exact .inr (.inl e)
    · exact .inr (.inr ⟨x, hx.imp id .inr, e⟩)
    · exact .inr (.inr ⟨x, .inr (.inl (List.mem_of_getElem? hx)), e⟩)
  refine (keepS2_any h.s (by omega) hv hr hl (by omega) fun b he => ?_).mono ?_
  · refine ⟨(h.d1 b (hE b he)).1, (h.d1 b (hE b he)).2, fun e => ?_⟩
    obtain ⟨q1, q2, q3, q4⟩ := h.d2 i v (Nat.le_refl _) hv b e
    rcases he with e | e | ⟨x, hx, e⟩ | ⟨j, x, hj, hx, e⟩
    · exact q1 e
    · exact q2 e
    · exact q3 x hx e
    · exact q4 j x hj hx e
  · rintro e w' ⟨rfl, bv', gv, hS, hK⟩
    have hsz := hK.chg.size
    have hvE : ∀ b, v.ownBlock = some b → Ent raw was ys vs us b := fun b e => .inr (.inr ⟨v, .inr (.inl (List.mem_of_getElem? hv)), e⟩)
    have hsplit : ∀ b, Ent raw was (ys ++ [v, gv]) vs us b → Ent raw was ys vs us b ∨ v.ownBlock = some b ∨ gv.ownBlock = some b := by
      rintro b (e | e | ⟨x, hx, e⟩)
      · exact .inl (.inl e)
      · exact .inl (.inr (.inl e))
      · rcases hx with hx | hx
        · rcases List.mem_append.1 hx with hx | hx
          · exact .inl (.inr (.inr ⟨x, .inl hx, e⟩))
          · simp only [List.mem_cons, List.not_mem_nil, or_false] at hx
            rcases hx with rfl | rfl
            · exact .inr (.inl e)
            · exact .inr (.inr e)
        · exact .inl (.inr (.inr ⟨x, .inr hx, e⟩))
    refine ⟨rfl, bv', ys ++ [v, gv], ⟨hS, by simp [hlen]; omega, fun b hb => ?_, fun b hb => ?_, fun j x hj hx => ?_, fun j x hj hx b e => ?_, ?_, fun b hb => ?_⟩⟩
    · rcases hsplit b hb with e | e | e
      · exact Nat.lt_of_lt_of_le (h.lt b e) hsz
      · exact (hK.gb b (.inl e)).2.2
      · exact (hK.gb b (.inr e)).2.2
    · rcases hsplit b hb with e | e | e
      · refine ⟨(h.d1 b e).1, fun e2 => ?_⟩
        rcases hK.bloc b e2 with e3 | e3
        · exact (h.d1 b e).2 e3
        · have := h.lt b e; omega
      · exact ⟨(hK.gb b (.inl e)).2.1, (hK.gb b (.inl e)).1⟩
      · exact ⟨(hK.gb b (.inr e)).2.1, (hK.gb b (.inr e)).1⟩
    · obtain ⟨l', h1, h2⟩ := h.own j x (by omega) hx
      refine ⟨l', rowKept h1 fun g hg => hK.chg.keep g (h1.lt g hg).2 ?_, h2⟩
      have hx' : Ent raw was ys vs us g := .inr (.inr ⟨x, .inr (.inl (List.mem_of_getElem? hx)), hg⟩)
      rintro (e | e | e)
      · exact (h.d1 g hx').1 e
      · exact (h.d1 g hx').2 e
      · exact (h.d2 j x (by omega) hx g hg).2.2.2 i v (by omega) hv e
    · obtain ⟨q1, q2, q3, q4⟩ := h.d2 j x (by omega) hx b e
      have hx' : Ent raw was ys vs us b := .inr (.inr ⟨x, .inr (.inl (List.mem_of_getElem? hx)), e⟩)
      refine ⟨q1, q2, fun y hy e2 => ?_, q4⟩
      rcases hy with hy | hy
      · rcases List.mem_append.1 hy with hy | hy
        · exact q3 y (.inl hy) e2
        · simp only [List.mem_cons, List.not_mem_nil, or_false] at hy
          rcases hy with rfl | rfl
          · exact q4 i _ (by omega) hv e2
          · rcases hK.gloc b e2 with e3 | e3
            · exact q4 i _ (by omega) hv e3
            · have := h.lt b hx'; omega
      · exact q3 y (.inr hy) e2
    · refine h.be.trans (hK.chg.below (Nat.le_trans ?_ (Nat.le_of_lt (Array.getElem?_eq_some_iff.1 h.s.row).1)) ?_)
      · exact h.nb k (.inl rfl)
      · rintro b (e | e | e)
        · exact h.nb b (.inl e)
        · exact h.nb b (.inr (.inl e))
        · exact h.nb b (.inr (.inr (hvE b e)))
    · have hk0 : N ≤ wr.heap.size := Nat.le_trans (h.nb k (.inl rfl)) (Nat.le_of_lt (Array.getElem?_eq_some_iff.1 h.s.row).1)
      rcases hb with e | e | e
      · exact h.nb b (.inl e)
      · rcases hK.bloc b e with e3 | e3
        · exact h.nb b (.inr (.inl e3))
        · omega
      · rcases hsplit b e with e | e | e
        · exact h.nb b (.inr (.inr e))
        · exact h.nb b (.inr (.inr (hvE b e)))
        · rcases hK.gloc b e with e3 | e3
          · exact h.nb b (.inr (.inr (hvE b e3)))
          · omega
theorem Sv.start {w w1 : World} {N k : Nat} {U : Nat → Prop} {bv raw was : Value} {vs us : List Value} (h : Bs true w k U bv raw was [] vs us) (hN : ∀ b, U b → N ≤ b) (hq : Qt w w1) : Sv w (w1.setCell ⟨k, 1, none⟩ (.bool false)) N k raw was vs us 0 := by
  have hk : ∀ b, b ≠ k → (w1.setCell ⟨k, 1, none⟩ (.bool false)).heap[b]? = w.heap[b]? := fun b hb => by
    rw [Go.heap_setCell_other _ _ _ _ (by exact hb), hq.1]
  have hsz : (w1.setCell ⟨k, 1, none⟩ (.bool false)).heap.size = w.heap.size := by rw [World.size_setCell, hq.1]
  have hrow : (w1.setCell ⟨k, 1, none⟩ (.bool false)).heap[k]? = some (.cells #[bv, .bool false, raw, was] 34 (0, 0)) := by
    have h1 : w1.heap[k]? = some (.cells #[bv, .bool true, raw, was] 34 (0, 0)) := by rw [hq.1]; exact h.s.row
    exact Go.heap_setCell_same w1 _ 1 _ 34 _ h1
  have hEU : ∀ b, Ent raw was [] vs us b → U b := h.ue
  have hd1 : ∀ b, Ent raw was [] vs us b → b ≠ k ∧ bv.ownBlock ≠ some b := by
    rintro b (e | e | ⟨x, hx, e⟩)
    · exact ⟨h.rk b (.inl e), fun e2 => (h.br b e2).1 e⟩
    · exact ⟨h.rk b (.inr e), fun e2 => (h.br b e2).2 e⟩
    · exact ⟨(h.en x hx b e).1, (h.en x hx b e).2.1⟩
  have hbk : ∀ b, bv.ownBlock = some b → b ≠ k := fun b e => by
    obtain ⟨cs, hcs⟩ := rowCells h.s.bo e
    exact neType hcs h.s.row (by decide)
  refine ⟨bv, [], ⟨⟨hrow, rowKept h.s.bo fun g e => hk g (hbk g e), rowKept h.s.ro fun g e => hk g (h.rk g (.inl e)), rowKept h.s.wo fun g e => hk g (h.rk g (.inr e)), h.s.len, fun j u v h1 h2 => ?_, fun j v h1 => by simp at h1⟩, rfl, fun b e => by rw [hsz]; exact h.lt b (hEU b e), hd1, fun j x _ hx => ?_, fun j x _ hx b e => ?_, ?_, ?_⟩⟩
  · obtain ⟨l1, l2, a, b, c⟩ := h.s.re j u v h1 h2
    exact ⟨l1, l2, a.keptIf fun g e hg => hk g (hd1 g (.inr (.inr ⟨v, .inr (.inl (List.mem_of_getElem? h1)), blockOf_own e⟩))).1, b.keptIf fun g e hg => hk g (hd1 g (.inr (.inr ⟨u, .inr (.inr (List.mem_of_getElem? h2)), blockOf_own e⟩))).1, fun e => by cases e⟩
  · obtain ⟨l, h1, h2⟩ := h.own rfl x (List.mem_of_getElem? hx)
    exact ⟨l, rowKept h1 fun g hg => hk g (hd1 g (.inr (.inr ⟨x, .inr (.inl (List.mem_of_getElem? hx)), hg⟩))).1, h2⟩
  · obtain ⟨q1, q2, q3, q4⟩ := h.en x (.inr (.inl (List.mem_of_getElem? hx))) b e
    refine ⟨q3, q4, fun y hy => ?_, fun j' y hj hy => h.dis rfl j j' x y hx hy (fun e => hj e.symm) b e⟩
    rcases hy with hy | hy
    · cases hy
    · exact h.dus rfl x (List.mem_of_getElem? hx) y hy b e
  · exact (hq.2.mono (Nat.le_of_lt (Nat.lt_of_le_of_lt (hN k h.uk) (h.lt k h.uk)))).setCell (p := ⟨k, 1, none⟩) (hN k h.uk) _
  · rintro b (e | e | e)
    · exact hN b (e ▸ h.uk)
    · exact hN b (h.ub b e)
    · exact hN b (hEU b e)
theorem Sv.kept {w0 wr : World} {N k i : Nat} {raw was : Value} {vs us : List Value} (h : Sv w0 wr N k raw was vs us i) (hi : i ≤ 4000000000000) :
    Calls Tryd.prog 28 #[.pointer (some ⟨k, 0, none⟩)] wr fun e w' => e = .returned (.bool true) ∧ Below N w0 w' := by
  obtain ⟨bv, ys, h⟩ := h
  have hlen := h.len
  have hk0 : N ≤ wr.heap.size := Nat.le_trans (h.nb k (.inl rfl)) (Nat.le_of_lt (Array.getElem?_eq_some_iff.1 h.s.row).1)
  exact (kept_any h.s (by omega)).mono fun e w' hp => ⟨hp.1, h.be.trans (hp.2.2.mono hk0)⟩
theorem Sv.c {w0 wr : World} {N k i : Nat} {raw was : Value} {vs us : List Value} (h : Sv w0 wr N k raw was vs us i) : wr.cell? ⟨k, 2, none⟩ = some raw := by
  obtain ⟨bv, ys, h⟩ := h
  exact h.s.c 2
theorem Sv.cv {w0 wr : World} {N k i j : Nat} {was v : Value} {g : Option Addr} {len cap : Nat} {vs us : List Value} (h : Sv w0 wr N k (.slice g len cap) was vs us i) (hv : vs[j]? = some v) : ∃ b, g = some ⟨b, 0, none⟩ ∧ wr.cell? ⟨b, j, none⟩ = some v := by
  obtain ⟨bv, ys, h⟩ := h
  obtain ⟨b, cp, e, hc⟩ := rowCell h.s.ro hv
  simp only [Value.slice.injEq] at e
  exact ⟨b, e.1, hc⟩
set_option maxHeartbeats 1000000 in
theorem settled_any {w : World} {k N : Nat} {U : Nat → Prop} {bv raw was : Value} {vs us : List Value} (h : Bs true w k U bv raw was [] vs us) (hN : ∀ b, U b → N ≤ b) (hl : vs.length ≤ 4000000000000) :
    Calls Tryd.prog 29 #[.pointer (some ⟨k, 0, none⟩)] w fun e w' => e = .returned (.bool true) ∧ Below N w w' := by
  obtain ⟨ar, cr, er, hr1, hr2⟩ := rowForm h.s.ro
  subst er
  unfold maxLen at hr2
  have HK := hide (kept_any h.s (by simp))
  have HST : Hid (∀ w1, Qt w w1 → Sv w (w1.setCell ⟨k, 1, none⟩ (.bool false)) N k (.slice ar vs.length cr) was vs us 0) := hide fun w1 hq => Sv.start h hN hq
  have HROW : Hid (∀ w1, Qt w w1 → w1.cell? ⟨k, 1, none⟩ = some (.bool true) ∧ w1.frozen? ⟨k, 1, none⟩ = false) := hide fun w1 hq => by
    have h1 : w1.heap[k]? = some (.cells #[bv, .bool true, .slice ar vs.length cr, was] 34 (0, 0)) := by rw [hq.1]; exact h.s.row
    exact ⟨by rw [cell_of_row _ _ _ _ _ _ h1]; rfl, frozen_of_row _ _ _ _ 34 h1⟩
  have HVG : Hid (∀ j, j < vs.length → ∃ v, vs[j]? = some v) := hide fun j hj => ⟨_, List.getElem?_eq_getElem hj⟩
  generalize hnv : vs.length = nv at *
  clear hnv h
  go_enter Tryd.func29, Tryd.ntmps29
  go_wp2_with (first
    | (go_at_call 28; refine HK.out.mono ?_; rintro e w1 ⟨rfl, hq⟩; obtain ⟨t1, f1⟩ := HROW.out _ hq; have HS0 := hide (HST.out _ hq); have t2 := HS0.out.c; clear hq))
  go_loopw [4] (fun x wr => ∃ i : Nat, i ≤ nv ∧ x = .int .i64 (i : Int) ∧ Sv w wr N k (.slice ar nv cr) was vs us i) (fun x _ => nv - (intOf x).toNat)
  case atStart => exact ⟨0, Nat.zero_le _, rfl, HS0.out⟩
  case round =>
    clear HS0 t2 HK HST HROW t1 f1
    obtain ⟨i, hin, rfl, hs⟩ := hrel
    have HS := hide hs
    clear hs
    have t2 := HS.out.c
    by_cases hlt : i < nv
    · obtain ⟨v, hv⟩ := HVG.out i hlt
      obtain ⟨g, eg, hc⟩ := HS.out.cv hv
      subst eg
      have HK := hide (HS.out.step hv (by omega))
      clear hv
      go_wp2_with (first
        | (go_at_call 16; refine HK.out.mono ?_; rintro e w2 ⟨rfl, h2⟩; have HS2 := hide h2; clear h2))
      go_roundw
      case rel => exact ⟨i + 1, by omega, by go_num, HS2.out⟩
      case measure => simp [intOf]; omega
    · have HKE := hide (HS.out.kept (by omega))
      go_wp2_with (first
        | (go_at_call 28; refine HKE.out.mono ?_; rintro e w2 ⟨rfl, h2⟩; have HB2 := hide h2; clear h2))
      go_ret
      exact ⟨rfl, HB2.out⟩
end Go.Proofs.YtglajdmkbckjjacDoor
namespace Go.Proofs.YtglajdmkbckjjacDoor
open Go.RowKit Go.Shelf
set_option linter.unusedVariables false
set_option linter.unusedSimpArgs false
set_option maxRecDepth 20000

/-- two pairs and the book, beside each other, all newer than w0 -/
structure PW (X : Nat → Prop) (late : Bool) (w0 w : World) (pp qq k : Nat) (V V' : Nat → Prop) (c : Nat) : Prop where
  ex : ∃ U, BkB late w k U c ∧ ∀ b, U b → w0.heap.size ≤ b ∧ ¬ V b ∧ ¬ V' b ∧ ¬ X b
  p : PS w pp k V
  q : PS w qq k V'
  d : ∀ b, V b → ¬ V' b
  n : ∀ b, (V b ∨ V' b) → w0.heap.size ≤ b ∧ b < w.heap.size
  be : Below w0.heap.size w0 w
  x : ∀ b, X b → b < w.heap.size ∧ ¬ V b ∧ ¬ V' b
theorem PW.swap {X : Nat → Prop} {late : Bool} {w0 w : World} {pp qq k c : Nat} {V V' : Nat → Prop} (h : PW X late w0 w pp qq k V V' c) : PW X late w0 w qq pp k V' V c := by
  obtain ⟨U, h1, h2⟩ := h.ex
  exact ⟨⟨U, h1, fun b e => ⟨(h2 b e).1, (h2 b e).2.2.1, (h2 b e).2.1, (h2 b e).2.2.2⟩⟩, h.q, h.p, fun b h1 h2 => h.d b h2 h1, fun b e => h.n b e.symm, h.be, fun b e => ⟨(h.x b e).1, (h.x b e).2.2, (h.x b e).2.1⟩⟩
theorem PW.below {X : Nat → Prop} {late : Bool} {w0 w w' : World} {pp qq k c : Nat} {V V' : Nat → Prop} (h : PW X late w0 w pp qq k V V' c) (hb : Below w.heap.size w w') : PW X late w0 w' pp qq k V V' c := by
  obtain ⟨U, h1, h2⟩ := h.ex
  exact ⟨⟨U, h1.below hb, h2⟩, h.p.below hb, h.q.below hb, h.d, fun b e => ⟨(h.n b e).1, Nat.lt_of_lt_of_le (h.n b e).2 hb.size⟩, h.be.trans (hb.mono h.be.size), fun b e => ⟨Nat.lt_of_lt_of_le (h.x b e).1 hb.size, (h.x b e).2⟩⟩
theorem PW.more {X : Nat → Prop} {late : Bool} {w0 w : World} {pp qq k c d : Nat} {V V' : Nat → Prop} (h : PW X late w0 w pp qq k V V' c) (hd : c ≤ d) : PW X late w0 w pp qq k V V' d := by
  obtain ⟨U, h1, h2⟩ := h.ex
  exact ⟨⟨U, h1.more hd, h2⟩, h.p, h.q, h.d, h.n, h.be, h.x⟩
/-- a pair is there -/
def IsP (w : World) (pp k : Nat) (V : Nat → Prop) : Prop := ∃ L R n B, Pr w pp k L R n B ∧ ∀ b, PU pp L R b → V b
theorem IsP.c {w : World} {pp k : Nat} {V : Nat → Prop} (h : IsP w pp k V) : ∃ a, w.cell? ⟨pp, 0, none⟩ = some (.pointer (some a)) := by
  obtain ⟨L, R, n, B, h, -⟩ := h
  exact ⟨_, h.c 0⟩
theorem IsP.below {w w' : World} {pp k : Nat} {V : Nat → Prop} (h : IsP w pp k V) (hb : Below w.heap.size w w') : IsP w' pp k V := by
  obtain ⟨L, R, n, B, h, h2⟩ := h
  exact ⟨L, R, n, B, h.below hb, h2⟩
theorem PW.step {X : Nat → Prop} {late : Bool} {w0 w : World} {pp qq k c : Nat} {V V' : Nat → Prop} {s : OpV} (h : PW X late w0 w pp qq k V V' c) (hp : IsP w pp k V) (hT : TabAt w0) (hs : OpOk w0 s) (hc : c ≤ 4000000000000) :
    Calls Tryd.prog 9 #[.pointer (some ⟨pp, 0, none⟩), opV s] w fun e w' => e = .returned (.bool true) ∧ PW X late w0 w' pp qq k V V' (c + 1) ∧ IsP w' pp k V ∧ ∀ b, X b → w'.heap[b]? = w.heap[b]? := by
  obtain ⟨L, R, n, B, hp, hV⟩ := hp
  obtain ⟨U, hb, hU⟩ := h.ex
  refine (step_any hp (hT.below h.be) hb (fun b e hu => (hU b hu).2.1 (hV b e)) hc (hs.below h.be) fun hl b e hu => ?_).mono ?_
  · have := hs.w1.blk hl b e
    have := (h.n b (.inl (hV b hu))).1
    omega
  · rintro e w' ⟨rfl, B', U', h1, h2, h3, h4⟩
    have hsz := h3.size
    refine ⟨rfl, ⟨⟨U', h2, fun b e => ?_⟩, .inr ⟨L, R, n, B', h1, hV⟩, h.q.keep fun b hl e => h3.keep b hl ?_, h.d, fun b e => ⟨(h.n b e).1, Nat.lt_of_lt_of_le (h.n b e).2 hsz⟩, h.be.trans (h3.below h.be.size ?_), fun b e => ⟨Nat.lt_of_lt_of_le (h.x b e).1 hsz, (h.x b e).2⟩⟩, ⟨L, R, n, B', h1, hV⟩, fun b e => h3.keep b (h.x b e).1 ?_⟩
    · rcases h4 b e with e | e
      · exact hU b e
      · have hs0 := h.be.size
        exact ⟨by omega, fun e2 => by have := (h.n b (.inl e2)).2; omega, fun e2 => by have := (h.n b (.inr e2)).2; omega, fun e2 => by have := (h.x b e2).1; omega⟩
    · rintro (e2 | e2)
      · exact h.d b (hV b e2) e
      · exact (hU b e2).2.2.1 e
    · rintro b (e | e)
      · exact (h.n b (.inl (hV b e))).1
      · exact (hU b e).1
    · rintro (e2 | e2)
      · exact (h.x b e).2.1 (hV b e2)
      · exact (hU b e2).2.2.2 e
theorem PW.kept {X : Nat → Prop} {late : Bool} {w0 w : World} {pp qq k c : Nat} {V V' : Nat → Prop} (h : PW X late w0 w pp qq k V V' c) (hc : c ≤ 4000000000000) :
    Calls Tryd.prog 28 #[.pointer (some ⟨k, 0, none⟩)] w fun e w' => e = .returned (.bool true) ∧ PW X late w0 w' pp qq k V V' c := by
  obtain ⟨U, ⟨bv, raw, was, ys, vs, us, hb, hl, _⟩, hU⟩ := h.ex
  exact (kept_any hb.s (by omega)).mono fun e w' hp => ⟨hp.1, h.below hp.2.2⟩
theorem PW.settled {X : Nat → Prop} {w0 w : World} {pp qq k c : Nat} {V V' : Nat → Prop} (h : PW X true w0 w pp qq k V V' c) (hc : c ≤ 4000000000000) :
    Calls Tryd.prog 29 #[.pointer (some ⟨k, 0, none⟩)] w fun e w' => e = .returned (.bool true) ∧ Below w0.heap.size w0 w' := by
  obtain ⟨U, ⟨bv, raw, was, ys, vs, us, hb, hl, hy⟩, hU⟩ := h.ex
  obtain rfl := hy rfl
  simp at hl
  exact (settled_any hb (fun b e => (hU b e).1) (by omega)).mono fun e w' hp => ⟨hp.1, h.be.trans hp.2⟩
/-- the two pairs are made -/
theorem PW.start {late : Bool} {w0 w w1 w2 : World} {k c : Nat} {U U1 V : Nat → Prop} {pp qq : Nat} (hw : Below w0.heap.size w0 w) (hU : ∀ b, U b → w0.heap.size ≤ b) (a2 : PS w1 pp k V) (a3 : Chg U w w1) (a4 : ∀ b, U1 b → U b ∨ w.heap.size ≤ b) (a5 : ∀ b, V b → w.heap.size ≤ b ∧ b < w1.heap.size ∧ ¬ U1 b) (h2 : MkP late w1 w2 qq k U1 (c + 1)) : ∃ V', PW (fun _ => False) late w0 w2 pp qq k V V' (c + 2) := by
  obtain ⟨U2, V', b1, b2, b3, b4, b5⟩ := h2
  have hs := hw.size
  have hs1 := a3.size
  have hs2 := b3.size
  have hU1 : ∀ b, U1 b → w0.heap.size ≤ b := fun b e => (a4 b e).elim (hU b) fun e => by omega
  refine ⟨V', ⟨U2, b1, fun b e => ⟨(b4 b e).elim (hU1 b) fun e => by omega, fun e2 => ?_, fun e2 => (b5 b e2).2.2 e, fun e => e⟩⟩, a2.keep fun b hl e => b3.keep b hl fun e2 => (a5 b e).2.2 e2, b2, fun b e e2 => by have := (a5 b e).2.1; have := (b5 b e2).1; omega, ?_, (hw.trans (a3.below hs hU)).trans (b3.below (by omega) hU1), fun b e => e.elim⟩
  · rcases b4 b e with e | e
    · exact (a5 b e2).2.2 e
    · have := (a5 b e2).2.1; omega
  · rintro b (e | e)
    · have := a5 b e; exact ⟨by omega, by omega⟩
    · have := b5 b e; exact ⟨by omega, by omega⟩
/-- with an operation's box -/
theorem PW.box {late : Bool} {w0 w : World} {pp qq k c : Nat} {V V' : Nat → Prop} (h : PW (fun _ => False) late w0 w pp qq k V V' c) (o : Obj) : PW (fun b => b = w.heap.size) late w0 (w.alloc o) pp qq k V V' c := by
  have h2 := h.below ((Below.refl _ _).alloc (Nat.le_refl _) o)
  obtain ⟨U, h3, h4⟩ := h2.ex
  obtain ⟨U0, h5, h6⟩ := h.ex
  exact ⟨⟨U0, h5.below ((Below.refl _ _).alloc (Nat.le_refl _) o), fun b e => ⟨(h6 b e).1, (h6 b e).2.1, (h6 b e).2.2.1, fun e2 => by have := h5.lt b e; omega⟩⟩, h2.p, h2.q, h2.d, h2.n, h2.be, fun b e => ⟨by rw [World.size_alloc]; omega, fun e2 => by have := (h.n b (.inl e2)).2; omega, fun e2 => by have := (h.n b (.inr e2)).2; omega⟩⟩
theorem PW.unbox {X : Nat → Prop} {late : Bool} {w0 w : World} {pp qq k c : Nat} {V V' : Nat → Prop} (h : PW X late w0 w pp qq k V V' c) : PW (fun _ => False) late w0 w pp qq k V V' c := by
  obtain ⟨U, h1, h2⟩ := h.ex
  exact ⟨⟨U, h1, fun b e => ⟨(h2 b e).1, (h2 b e).2.1, (h2 b e).2.2.1, fun e => e⟩⟩, h.p, h.q, h.d, h.n, h.be, fun b e => e.elim⟩
theorem BkB.c1 {late : Bool} {w : World} {k c : Nat} {U : Nat → Prop} (h : BkB late w k U c) : w.cell? ⟨k, 1, none⟩ = some (.bool late) := by
  obtain ⟨_, _, _, _, _, _, h, _⟩ := h
  exact h.s.c 1
theorem made_p {late : Bool} {w : World} {k c : Nat} {U : Nat → Prop} {fr : Bool} {n : Int} {mv : Value} {l : List Nat} (hb : BkB late w k U c) (hc : c ≤ 4000000000000) (hv : WSl w mv l) (hr : l.length ≤ 17592186044416) :
    Calls Tryd.prog 7 #[.agg #[.bool fr, .int .i64 n, mv], .pointer (some ⟨k, 0, none⟩)] w fun e w' => ∃ pp, e = .returned (.tuple #[.pointer (some ⟨pp, 0, none⟩), .bool true]) ∧ MkP late w w' pp k U c :=
  (made_any hb hc hv hr).mono fun e w' hp => ⟨_, hp.1, hp.2⟩
end Go.Proofs.YtglajdmkbckjjacDoor
namespace Go.Proofs.YtglajdmkbckjjacDoor
open Go.RowKit Go.Shelf
set_option linter.unusedVariables false
set_option linter.unusedSimpArgs false
set_option maxRecDepth 20000

set_option maxHeartbeats 4000000 in
theorem pass_any {late : Bool} {w0 w : World} {k : Nat} {U : Nat → Prop} {ov mv nv : Value} {os : List OpV} {l l2 : List Nat} (fr1 fr2 : Bool) (n1 n2 lo hi : Int) (hb : BkB late w k U 0) (hU : ∀ b, U b → w0.heap.size ≤ b) (hw : Below w0.heap.size w0 w) (hT : TabAt w0)
    (ho : OSl w0 ov os) (hol : os.length ≤ 1500000000000) (hv1 : WSl w0 mv l) (hl1 : l.length ≤ 17592186044416) (hv2 : WSl w0 nv l2) (hl2 : l2.length ≤ 17592186044416) :
    Calls Tryd.prog 11 #[.agg #[.bool fr1, .int .i64 n1, mv], .agg #[.bool fr2, .int .i64 n2, nv], ov, .int .i64 lo, .int .i64 hi, .pointer (some ⟨k, 0, none⟩)] w fun e w' => e = .returned (.bool true) ∧ Below w0.heap.size w0 w' := by
  have q1 := pbmNil
  have q2 := pbmSome
  have HT := hide hT
  have hbe : ∀ o o', Below w.heap.size w ((w.alloc o).alloc o') := fun o o' => ((Below.refl _ _).alloc (Nat.le_refl _) o).alloc (by simp) o'
  have HW := hide hw
  have HUU := hide hU
  have HM1 := hide (made_p (fr := fr1) (n := n1) (hb.below (hbe (.cells #[.bool fr1, .int .i64 n1, mv] 24) (.cells #[.bool fr2, .int .i64 n2, nv] 24))) (by omega) (hv1.below (hw.trans ((hbe _ _).mono hw.size))) hl1)
  have HMK2 : Hid (∀ (x : World) (U1 : Nat → Prop), BkB late x k U1 (0 + 1) → Below w0.heap.size w0 x → Calls Tryd.prog 7 #[.agg #[.bool fr2, .int .i64 n2, nv], .pointer (some ⟨k, 0, none⟩)] x fun e w' => ∃ pp, e = .returned (.tuple #[.pointer (some ⟨pp, 0, none⟩), .bool true]) ∧ MkP late x w' pp k U1 (0 + 1)) := hide fun x U1 h1 h2 => made_p h1 (by omega) (hv2.below h2) hl2
  have b1 : ((w.alloc (.cells #[.bool fr1, .int .i64 n1, mv] 24)).alloc (.cells #[.bool fr2, .int .i64 n2, nv] 24)).cell? ⟨k, 1, none⟩ = some (.bool late) := (hb.below (hbe _ _)).c1
  have HBX : Hid (((w.alloc (.cells #[.bool fr1, .int .i64 n1, mv] 24)).alloc (.cells #[.bool fr2, .int .i64 n2, nv] 24)).heap[w.heap.size + 1]? = some (.cells #[.bool fr2, .int .i64 n2, nv] 24 (0, 0)) ∧ ∀ b, U b → b < w.heap.size) := hide ⟨by
    have := Go.heap_alloc_new (w.alloc (.cells #[.bool fr1, .int .i64 n1, mv] 24)) (.cells #[.bool fr2, .int .i64 n2, nv] 24)
    rw [World.size_alloc] at this
    exact this, hb.lt⟩
  have HWA := hide (hw.trans ((hbe (.cells #[.bool fr1, .int .i64 n1, mv] 24) (.cells #[.bool fr2, .int .i64 n2, nv] 24)).mono hw.size))
  obtain ⟨va, vcap, rfl, -⟩ := hv1
  obtain ⟨va2, vcap2, rfl, -⟩ := hv2
  obtain ⟨oa, ocap, rfl, p1, p2, p4, p5⟩ := ho
  unfold maxLen at p2
  have HOKA : Hid (∀ k (hk : k < os.length), OpOk w0 os[k]) := hide fun k hk => p4 _ (List.getElem_mem hk)
  have HC : Hid (0 < os.length → _) := hide p5
  clear p4 p5 hb hU hw hT hl1 hl2 hbe
  generalize l.length = llen at *
  generalize hl2n : l2.length = llen2 at *
  obtain ⟨len, hlen⟩ : ∃ len, os.length = len := ⟨_, rfl⟩
  have HLEN := hide hlen
  rw [hlen] at p1 hol
  rw [hlen]
  clear hlen hl2n
  go_enter Tryd.func11, Tryd.ntmps11
  go_wp2_with (first
    | (go_at_call 7; refine HM1.out.mono ?_; rintro e w1 ⟨pp, rfl, U1, V, a1, a2, a3, a4, a5⟩; have hbx : w1.heap[w.heap.size + 1]? = _ := (a3.keep _ (Array.getElem?_eq_some_iff.1 HBX.out.1).1 (fun e => by have := HBX.out.2 _ e; omega)).trans HBX.out.1; have u0 := cell_of_row _ _ 0 _ _ _ hbx; have u1 := cell_of_row _ _ 1 _ _ _ hbx; have u2 := cell_of_row _ _ 2 _ _ _ hbx; have HA := hide (And.intro a2 (And.intro a3 (And.intro a4 a5))); have HM2 := hide (HMK2.out _ _ a1 (HWA.out.trans (a3.below HWA.out.size HUU.out))); clear a1 a2 a3 a4 a5 hbx HM1)
    | (go_at_call 7; refine HM2.out.mono ?_; rintro e w2 ⟨qq, rfl, hmk⟩; have HPW := hide (PW.start HWA.out HUU.out HA.out.1 HA.out.2.1 HA.out.2.2.1 HA.out.2.2.2 hmk); clear hmk HM2 HA u0 u1 u2))
  obtain ⟨V', hpw⟩ := HPW.out
  have HPS := hide hpw
  clear hpw HPW HBX HUU HWA HW HMK2
  go_loopw [18] (fun x wr => ∃ i : Nat, i ≤ len ∧ x = .int .i64 (i : Int) ∧ PW (fun _ => False) late w0 wr pp qq k V V' (2 + 2 * i)) (fun x _ => len - (intOf x).toNat)
  case atStart => exact ⟨0, Nat.zero_le _, rfl, HPS.out⟩
  case round =>
    clear HPS b1
    obtain ⟨i, hin, rfl, hI⟩ := hrel
    have HI := hide hI
    have hb := hI.be
    clear hI
    by_cases hlt : i < len
    · have hkl : i < os.length := by rw [HLEN.out]; exact hlt
      obtain ⟨b, off, rfl, hc⟩ := HC.out (by omega)
      obtain ⟨r0, r1, r2, r3, r4, r5, r6, r7⟩ := hc i hkl
      replace r0 := cell_below hb r0
      replace r1 := cell_below hb r1
      replace r2 := cell_below hb r2
      replace r3 := cell_below hb r3
      replace r4 := cell_below hb r4
      replace r5 := cell_below hb r5
      replace r6 := cell_below hb r6
      replace r7 := cell_below hb r7
      have HOK := hide (HOKA.out i hkl)
      clear hc HC HOKA hb
      generalize os[i] = s at *
      obtain ⟨wa, wcap, ewv, -⟩ := HOK.out.w1
      obtain ⟨ba, bcap, ebv, -⟩ := HOK.out.b1
      obtain ⟨aa, acap, eav, -⟩ := HOK.out.a1
      have HSV : Hid ((.agg #[.int .i64 s.kind, .bool s.sec, .int .i64 s.a, .int .i64 s.b, s.wv, s.bv, s.av, .bool s.again] : Value) = .agg #[.int .i64 s.kind, .bool s.sec, .int .i64 s.a, .int .i64 s.b, .slice wa s.wl.length wcap, .slice ba s.bl.length bcap, .slice aa s.al.length acap, .bool s.again]) := hide (by rw [ewv, ebv, eav])
      rw [ewv] at r4
      rw [ebv] at r5
      rw [eav] at r6
      clear ewv ebv eav
      generalize s.bl.length = blen at *
      generalize s.al.length = alen at *
      generalize s.wl.length = wlen at *
      have HBOX : Hid ((wr.alloc (.cells #[.int .i64 s.kind, .bool s.sec, .int .i64 s.a, .int .i64 s.b, .slice wa wlen wcap, .slice ba blen bcap, .slice aa alen acap, .bool s.again] 41)).heap[wr.heap.size]? = some (.cells #[.int .i64 s.kind, .bool s.sec, .int .i64 s.a, .int .i64 s.b, .slice wa wlen wcap, .slice ba blen bcap, .slice aa alen acap, .bool s.again] 41 (0, 0))) := hide (Go.heap_alloc_new _ _)
      have HPW0 := hide (HI.out.box (.cells #[.int .i64 s.kind, .bool s.sec, .int .i64 s.a, .int .i64 s.b, .slice wa wlen wcap, .slice ba blen bcap, .slice aa alen acap, .bool s.again] 41))
      clear HI
      have hsec : s.sec = true ∨ s.sec = false := by cases s.sec <;> simp
      rcases hsec with hsec | hsec
      · have HSEC := hide hsec
        rw [hsec] at r1 HSV HBOX HPW0
        clear hsec
        have HX := hide (HPW0.out.swap)
        have HBACK : Hid (∀ w' d, PW (fun b => b = wr.heap.size) late w0 w' qq pp k V' V d → PW (fun _ => False) late w0 w' pp qq k V V' d) := hide fun w' d h => h.swap.unbox
        rcases HX.out.p with ⟨c0, -⟩ | hp
        · clear HX
          go_wp2_with fail
          go_roundw
          case rel => exact ⟨i + 1, by omega, by go_num, (HPW0.out.unbox).more (by omega)⟩
          case measure => simp [intOf]; omega
        · have HP : Hid (IsP _ qq k V') := hide hp
          clear hp
          obtain ⟨ad, c0⟩ := HP.out.c
          have HST := hide (HX.out.step HP.out HT.out HOK.out (by omega))
          have HST2 : Hid (∀ x, PW (fun b => b = wr.heap.size) late w0 x qq pp k V' V (2 + 2 * i + 1) → IsP x qq k V' → Calls Tryd.prog 9 #[.pointer (some ⟨qq, 0, none⟩), opV s] x fun e w' => e = .returned (.bool true) ∧ PW (fun b => b = wr.heap.size) late w0 w' qq pp k V' V (2 + 2 * i + 1 + 1) ∧ IsP w' qq k V' ∧ ∀ b, b = wr.heap.size → w'.heap[b]? = x.heap[b]?) := hide fun x h1 h2 => h1.step h2 HT.out HOK.out (by omega)
          have HKE : Hid (∀ x d, d ≤ 4000000000000 → PW (fun b => b = wr.heap.size) late w0 x qq pp k V' V d → Calls Tryd.prog 28 #[.pointer (some ⟨k, 0, none⟩)] x fun e w' => e = .returned (.bool true) ∧ PW (fun b => b = wr.heap.size) late w0 w' qq pp k V' V d) := hide fun x d h1 h2 => h2.kept h1
          unfold opV at HST HST2
          rw [HSEC.out, HSV.out] at HST HST2
          cases late with
          | false =>
            go_wp2_with (first
              | (go_at_call 9; refine HST.out.mono ?_; rintro e w2 ⟨rfl, h1, h2, h3⟩; have HK1 := hide (HKE.out _ _ (by omega) h1); clear h1 h2 h3)
              | (go_at_call 28; refine HK1.out.mono ?_; rintro e w3 ⟨rfl, h1⟩; have HF := hide (HBACK.out _ _ h1); clear h1))
            go_roundw
            case rel => exact ⟨i + 1, by omega, by go_num, HF.out.more (by omega)⟩
            case measure => simp [intOf]; omega
          | true =>
            by_cases hk : s.kind = 12 ∨ s.kind = 13
            · have hq : ((s.kind == 12) = true ∧ (s.kind == 13) = false) ∨ ((s.kind == 12) = false ∧ (s.kind == 13) = true) := by
                rcases hk with hk | hk
                · exact .inl ⟨by rw [hk]; rfl, by rw [hk]; rfl⟩
                · exact .inr ⟨by rw [hk]; rfl, by rw [hk]; rfl⟩
              clear hk
              rcases hq with ⟨q12, q13⟩ | ⟨q12, q13⟩
              all_goals
                go_wp2_with (first
                  | (go_at_call 9; refine HST.out.mono ?_; rintro e w2 ⟨rfl, h1, h2, h3⟩; have hbx : w2.heap[wr.heap.size]? = _ := (h3 _ rfl).trans HBOX.out; have v0 := cell_of_row _ _ 0 _ _ _ hbx; have v1 := cell_of_row _ _ 1 _ _ _ hbx; have v2 := cell_of_row _ _ 2 _ _ _ hbx; have v3 := cell_of_row _ _ 3 _ _ _ hbx; have v4 := cell_of_row _ _ 4 _ _ _ hbx; have v5 := cell_of_row _ _ 5 _ _ _ hbx; have v6 := cell_of_row _ _ 6 _ _ _ hbx; have v7 := cell_of_row _ _ 7 _ _ _ hbx; have HST3 := hide (HST2.out _ h1 h2); clear h1 h2 h3 hbx HST)
                  | (go_at_call 9; refine HST3.out.mono ?_; rintro e w4 ⟨rfl, h1, h2, h3⟩; have HK1 := hide (HKE.out _ _ (by omega) h1); clear h1 h2 h3)
                  | (go_at_call 28; refine HK1.out.mono ?_; rintro e w3 ⟨rfl, h1⟩; have HF := hide (HBACK.out _ _ h1); clear h1))
                go_roundw
                case rel => exact ⟨i + 1, by omega, by go_num, HF.out.more (by omega)⟩
                case measure => simp [intOf]; omega
            · have q12 : (s.kind == 12) = false := by simp; omega
              have q13 : (s.kind == 13) = false := by simp; omega
              clear hk
              go_wp2_with (first
                | (go_at_call 9; refine HST.out.mono ?_; rintro e w2 ⟨rfl, h1, h2, h3⟩; have hbx : w2.heap[wr.heap.size]? = _ := (h3 _ rfl).trans HBOX.out; have v0 := cell_of_row _ _ 0 _ _ _ hbx; have HK1 := hide (HKE.out _ _ (by omega) h1); clear h1 h2 h3 hbx)
                | (go_at_call 28; refine HK1.out.mono ?_; rintro e w3 ⟨rfl, h1⟩; have HF := hide (HBACK.out _ _ h1); clear h1))
              go_roundw
              case rel => exact ⟨i + 1, by omega, by go_num, HF.out.more (by omega)⟩
              case measure => simp [intOf]; omega
      · have HSEC := hide hsec
        rw [hsec] at r1 HSV HBOX HPW0
        clear hsec
        have HX := hide (HPW0.out)
        have HBACK : Hid (∀ w' d, PW (fun b => b = wr.heap.size) late w0 w' pp qq k V V' d → PW (fun _ => False) late w0 w' pp qq k V V' d) := hide fun w' d h => h.unbox
        rcases HX.out.p with ⟨c0, -⟩ | hp
        · clear HX
          go_wp2_with fail
          go_roundw
          case rel => exact ⟨i + 1, by omega, by go_num, (HPW0.out.unbox).more (by omega)⟩
          case measure => simp [intOf]; omega
        · have HP : Hid (IsP _ pp k V) := hide hp
          clear hp
          obtain ⟨ad, c0⟩ := HP.out.c
          have HST := hide (HX.out.step HP.out HT.out HOK.out (by omega))
          have HST2 : Hid (∀ x, PW (fun b => b = wr.heap.size) late w0 x pp qq k V V' (2 + 2 * i + 1) → IsP x pp k V → Calls Tryd.prog 9 #[.pointer (some ⟨pp, 0, none⟩), opV s] x fun e w' => e = .returned (.bool true) ∧ PW (fun b => b = wr.heap.size) late w0 w' pp qq k V V' (2 + 2 * i + 1 + 1) ∧ IsP w' pp k V ∧ ∀ b, b = wr.heap.size → w'.heap[b]? = x.heap[b]?) := hide fun x h1 h2 => h1.step h2 HT.out HOK.out (by omega)
          have HKE : Hid (∀ x d, d ≤ 4000000000000 → PW (fun b => b = wr.heap.size) late w0 x pp qq k V V' d → Calls Tryd.prog 28 #[.pointer (some ⟨k, 0, none⟩)] x fun e w' => e = .returned (.bool true) ∧ PW (fun b => b = wr.heap.size) late w0 w' pp qq k V V' d) := hide fun x d h1 h2 => h2.kept h1
          unfold opV at HST HST2
          rw [HSEC.out, HSV.out] at HST HST2
          cases late with
          | false =>
            go_wp2_with (first
              | (go_at_call 9; refine HST.out.mono ?_; rintro e w2 ⟨rfl, h1, h2, h3⟩; have HK1 := hide (HKE.out _ _ (by omega) h1); clear h1 h2 h3)
              | (go_at_call 28; refine HK1.out.mono ?_; rintro e w3 ⟨rfl, h1⟩; have HF := hide (HBACK.out _ _ h1); clear h1))
            go_roundw
            case rel => exact ⟨i + 1, by omega, by go_num, HF.out.more (by omega)⟩
            case measure => simp [intOf]; omega
          | true =>
            by_cases hk : s.kind = 12 ∨ s.kind = 13
            · have hq : ((s.kind == 12) = true ∧ (s.kind == 13) = false) ∨ ((s.kind == 12) = false ∧ (s.kind == 13) = true) := by
                rcases hk with hk | hk
                · exact .inl ⟨by rw [hk]; rfl, by rw [hk]; rfl⟩
                · exact .inr ⟨by rw [hk]; rfl, by rw [hk]; rfl⟩
              clear hk
              rcases hq with ⟨q12, q13⟩ | ⟨q12, q13⟩
              all_goals
                go_wp2_with (first
                  | (go_at_call 9; refine HST.out.mono ?_; rintro e w2 ⟨rfl, h1, h2, h3⟩; have hbx : w2.heap[wr.heap.size]? = _ := (h3 _ rfl).trans HBOX.out; have v0 := cell_of_row _ _ 0 _ _ _ hbx; have v1 := cell_of_row _ _ 1 _ _ _ hbx; have v2 := cell_of_row _ _ 2 _ _ _ hbx; have v3 := cell_of_row _ _ 3 _ _ _ hbx; have v4 := cell_of_row _ _ 4 _ _ _ hbx; have v5 := cell_of_row _ _ 5 _ _ _ hbx; have v6 := cell_of_row _ _ 6 _ _ _ hbx; have v7 := cell_of_row _ _ 7 _ _ _ hbx; have HST3 := hide (HST2.out _ h1 h2); clear h1 h2 h3 hbx HST)
                  | (go_at_call 9; refine HST3.out.mono ?_; rintro e w4 ⟨rfl, h1, h2, h3⟩; have HK1 := hide (HKE.out _ _ (by omega) h1); clear h1 h2 h3)
                  | (go_at_call 28; refine HK1.out.mono ?_; rintro e w3 ⟨rfl, h1⟩; have HF := hide (HBACK.out _ _ h1); clear h1))
                go_roundw
                case rel => exact ⟨i + 1, by omega, by go_num, HF.out.more (by omega)⟩
                case measure => simp [intOf]; omega
            · have q12 : (s.kind == 12) = false := by simp; omega
              have q13 : (s.kind == 13) = false := by simp; omega
              clear hk
              go_wp2_with (first
                | (go_at_call 9; refine HST.out.mono ?_; rintro e w2 ⟨rfl, h1, h2, h3⟩; have hbx : w2.heap[wr.heap.size]? = _ := (h3 _ rfl).trans HBOX.out; have v0 := cell_of_row _ _ 0 _ _ _ hbx; have HK1 := hide (HKE.out _ _ (by omega) h1); clear h1 h2 h3 hbx)
                | (go_at_call 28; refine HK1.out.mono ?_; rintro e w3 ⟨rfl, h1⟩; have HF := hide (HBACK.out _ _ h1); clear h1))
              go_roundw
              case rel => exact ⟨i + 1, by omega, by go_num, HF.out.more (by omega)⟩
              case measure => simp [intOf]; omega
    · have ek : i = len := by omega
      have HSE : Hid (late = true → Calls Tryd.prog 29 #[.pointer (some ⟨k, 0, none⟩)] wr fun e w' => e = .returned (.bool true) ∧ Below w0.heap.size w0 w') := hide fun e => by
        subst e
        exact HI.out.settled (by omega)
      have HB := hide hb
      clear ek HC HOKA hb HI
      cases late with
      | false =>
        go_wp2_with fail
        go_ret
        exact ⟨rfl, HB.out⟩
      | true =>
        have HS2 := hide (HSE.out rfl)
        go_wp2_with (first
          | (go_at_call 29; refine HS2.out.mono ?_; rintro e w3 ⟨rfl, h1⟩; have HF := hide h1; clear h1))
        go_ret
        exact ⟨rfl, HF.out⟩
end Go.Proofs.YtglajdmkbckjjacDoor
namespace Go.Proofs.YtglajdmkbckjjacDoor
open Go.RowKit Go.Shelf
set_option linter.unusedVariables false
set_option linter.unusedSimpArgs false
set_option maxRecDepth 20000

theorem BkB.new {w : World} (late : Bool) : BkB late (w.alloc (.cells #[.slice none 0 0, .bool late, .slice none 0 0, .slice none 0 0] 34)) w.heap.size (fun b => b = w.heap.size) 0 := by
  refine ⟨.slice none 0 0, .slice none 0 0, .slice none 0 0, [], [], [], ⟨⟨Go.heap_alloc_new _ _, ⟨rfl, .inl ⟨rfl, rfl⟩⟩, ⟨rfl, .inl ⟨rfl, rfl⟩⟩, ⟨rfl, .inl ⟨rfl, rfl⟩⟩, rfl, fun j u v h => by simp at h, fun j v h => by simp at h⟩, rfl, rfl, fun b e => by simp [Value.ownBlock] at e, ?_, fun b e => by rw [World.size_alloc]; omega, fun b e => by simp [Value.ownBlock] at e, fun b e => by simp [Value.ownBlock] at e, fun b e => by simp [Value.ownBlock] at e, fun x hx => by simp at hx, fun _ x hx => by simp at hx, fun _ i j x y hx => by simp at hx, fun _ x hx => by simp at hx⟩, by simp, fun _ => rfl⟩
  rintro b (e | e | ⟨x, hx, e⟩)
  · simp [Value.ownBlock] at e
  · simp [Value.ownBlock] at e
  · simp at hx
set_option maxHeartbeats 2000000 in
theorem play_any {w : World} {ov mv nv : Value} {os : List OpV} {l l2 : List Nat} (fr1 fr2 : Bool) (n1 n2 lo hi : Int) (hT : TabAt w) (ho : OSl w ov os) (hol : os.length ≤ 1500000000000) (hv1 : WSl w mv l) (hl1 : l.length ≤ 17592186044416) (hv2 : WSl w nv l2) (hl2 : l2.length ≤ 17592186044416) :
    Calls Tryd.prog 6 #[.agg #[.bool fr1, .int .i64 n1, mv], .agg #[.bool fr2, .int .i64 n2, nv], ov, .int .i64 lo, .int .i64 hi] w fun e w' => e = .returned (.bool true) ∧ Below w.heap.size w w' := by
  have hbe : Below w.heap.size w ((w.alloc (.cells #[.bool fr1, .int .i64 n1, mv] 24)).alloc (.cells #[.bool fr2, .int .i64 n2, nv] 24)) := ((Below.refl _ _).alloc (Nat.le_refl _) _).alloc (by simp) _
  have hx1 : ((w.alloc (.cells #[.bool fr1, .int .i64 n1, mv] 24)).alloc (.cells #[.bool fr2, .int .i64 n2, nv] 24)).heap[w.heap.size]? = some (.cells #[.bool fr1, .int .i64 n1, mv] 24 (0, 0)) := by
    rw [Below.heap_alloc _ _ _ (by simp)]; exact Go.heap_alloc_new w _
  have hx2 : ((w.alloc (.cells #[.bool fr1, .int .i64 n1, mv] 24)).alloc (.cells #[.bool fr2, .int .i64 n2, nv] 24)).heap[w.heap.size + 1]? = some (.cells #[.bool fr2, .int .i64 n2, nv] 24 (0, 0)) := by
    have := Go.heap_alloc_new (w.alloc (.cells #[.bool fr1, .int .i64 n1, mv] 24)) (.cells #[.bool fr2, .int .i64 n2, nv] 24)
    rw [World.size_alloc] at this
    exact this
  have HP : Hid (∀ (late : Bool) (x : World) (k : Nat) (U : Nat → Prop), BkB late x k U 0 → (∀ b, U b → ((w.alloc (.cells #[.bool fr1, .int .i64 n1, mv] 24)).alloc (.cells #[.bool fr2, .int .i64 n2, nv] 24)).heap.size ≤ b) → Below ((w.alloc (.cells #[.bool fr1, .int .i64 n1, mv] 24)).alloc (.cells #[.bool fr2, .int .i64 n2, nv] 24)).heap.size ((w.alloc (.cells #[.bool fr1, .int .i64 n1, mv] 24)).alloc (.cells #[.bool fr2, .int .i64 n2, nv] 24)) x →
      Calls Tryd.prog 11 #[.agg #[.bool fr1, .int .i64 n1, mv], .agg #[.bool fr2, .int .i64 n2, nv], ov, .int .i64 lo, .int .i64 hi, .pointer (some ⟨k, 0, none⟩)] x fun e w' => e = .returned (.bool true) ∧ Below ((w.alloc (.cells #[.bool fr1, .int .i64 n1, mv] 24)).alloc (.cells #[.bool fr2, .int .i64 n2, nv] 24)).heap.size ((w.alloc (.cells #[.bool fr1, .int .i64 n1, mv] 24)).alloc (.cells #[.bool fr2, .int .i64 n2, nv] 24)) w') := hide fun late x k U h1 h2 h3 => pass_any fr1 fr2 n1 n2 lo hi h1 h2 h3 (hT.below hbe) (ho.below hbe) hol (hv1.below hbe) hl1 (hv2.below hbe) hl2
  have HBE := hide hbe
  have HX1 := hide hx1
  have HX2 := hide hx2
  obtain ⟨va, vcap, rfl, -⟩ := hv1
  obtain ⟨va2, vcap2, rfl, -⟩ := hv2
  obtain ⟨oa, ocap, rfl, p1, p2, -⟩ := ho
  unfold maxLen at p2
  clear hT hbe hx1 hx2
  generalize l.length = llen at *
  generalize l2.length = llen2 at *
  generalize os.length = len at *
  have hk : ((w.alloc (.cells #[.bool fr1, .int .i64 n1, .slice va llen vcap] 24)).alloc (.cells #[.bool fr2, .int .i64 n2, .slice va2 llen2 vcap2] 24)).heap.size = w.heap.size + 1 + 1 := by simp only [World.size_alloc]
  have HA := hide (HP.out false _ (w.heap.size + 1 + 1) (fun b => b = ((w.alloc (.cells #[.bool fr1, .int .i64 n1, .slice va llen vcap] 24)).alloc (.cells #[.bool fr2, .int .i64 n2, .slice va2 llen2 vcap2] 24)).heap.size) (by rw [← hk]; exact BkB.new false) (fun b e => Nat.le_of_eq e.symm) ((Below.refl _ _).alloc (Nat.le_refl _) _))
  have HKK := hide hk
  clear hk
  go_enter Tryd.func6, Tryd.ntmps6
  go_wp2_with (first
    | (go_at_call 11; refine HA.out.mono ?_; rintro e w1 ⟨rfl, h1⟩; have HB1 := hide h1; have g1 : w1.heap[w.heap.size]? = _ := (h1.block _ (by rw [HKK.out]; omega)).trans HX1.out; have g2 : w1.heap[w.heap.size + 1]? = _ := (h1.block _ (by rw [HKK.out]; omega)).trans HX2.out; have u0 := cell_of_row _ _ 0 _ _ _ g1; have u1 := cell_of_row _ _ 1 _ _ _ g1; have u2 := cell_of_row _ _ 2 _ _ _ g1; have y0 := cell_of_row _ _ 0 _ _ _ g2; have y1 := cell_of_row _ _ 1 _ _ _ g2; have y2 := cell_of_row _ _ 2 _ _ _ g2; have HA2 := hide (HP.out true _ _ _ (BkB.new (w := w1) true) (fun b e => by rw [e]; exact HB1.out.size) (HB1.out.trans (((Below.refl _ _).alloc (Nat.le_refl _) _).mono HB1.out.size))); clear h1 g1 g2 HA)
    | (go_at_call 11; refine HA2.out.mono ?_; rintro e w2 ⟨rfl, h1⟩; have HF := hide (HBE.out.trans (h1.mono HBE.out.size)); clear h1))
  go_ret
  exact ⟨rfl, HF.out⟩
theorem exact_any {w : World} {ov mv nv : Value} {os : List OpV} {l l2 : List Nat} (fr1 fr2 : Bool) (n1 n2 : Int) (hT : TabAt w) (ho : OSl w ov os) (hol : os.length ≤ 1500000000000) (hv1 : WSl w mv l) (hl1 : l.length ≤ 17592186044416) (hv2 : WSl w nv l2) (hl2 : l2.length ≤ 17592186044416) :
    Calls Tryd.prog 3 #[.agg #[.bool fr1, .int .i64 n1, mv], .agg #[.bool fr2, .int .i64 n2, nv], ov] w fun e w' => e = .returned (.bool true) ∧ Below w.heap.size w w' := by
  have HP : Hid (∀ x, Below w.heap.size w x → Calls Tryd.prog 6 #[.agg #[.bool fr1, .int .i64 n1, mv], .agg #[.bool fr2, .int .i64 n2, nv], ov, .int .i64 1, .int .i64 13] x fun e w' => e = .returned (.bool true) ∧ Below x.heap.size x w') := hide fun x hx => play_any fr1 fr2 n1 n2 1 13 (hT.below hx) (ho.below hx) hol (hv1.below hx) hl1 (hv2.below hx) hl2
  have HBE := hide (((Below.refl w.heap.size w).alloc (Nat.le_refl _) (.cells #[.bool fr1, .int .i64 n1, mv] 24)).alloc (by simp) (.cells #[.bool fr2, .int .i64 n2, nv] 24))
  obtain ⟨va, vcap, rfl, -⟩ := hv1
  obtain ⟨va2, vcap2, rfl, -⟩ := hv2
  obtain ⟨oa, ocap, rfl, p1, p2, -⟩ := ho
  unfold maxLen at p2
  clear hT
  generalize l.length = llen at *
  generalize l2.length = llen2 at *
  generalize os.length = len at *
  go_enter Tryd.func3, Tryd.ntmps3
  go_wp2_with (first
    | (go_at_call 6; refine (HP.out _ HBE.out).mono ?_; rintro e w1 ⟨rfl, h1⟩; have HF := hide (HBE.out.trans (h1.mono HBE.out.size)); clear h1))
  go_ret
  exact ⟨rfl, HF.out⟩
end Go.Proofs.YtglajdmkbckjjacDoor
namespace Go.Proofs.YtglajdmkbckjjacDoor
open Go.ChangeShapes Go.WideShapes Go.ChangeAt Go.RowKit
set_option linter.unusedVariables false
set_option linter.unusedSimpArgs false
set_option maxRecDepth 20000

theorem own : ownKnob Tryd.prog.godebug = none := by kernel_rfl
theorem laidOut : laidOutB Tryd.prog = true := by kernel_rfl
theorem gTab : Tryd.prog.globalNamed "math/bits.deBruijn64tab" = some 0 := by kernel_rfl
theorem gTabty : (Tryd.prog.globals[0]?).map (·.type) = some 96 := by kernel_rfl
theorem cellsTab : Tryd.prog.cellsOf 96 = 64 := by kernel_rfl
theorem cells8 : Tryd.prog.cellsOf 5 = 1 := by kernel_rfl
theorem cellsInt : Tryd.prog.cellsOf 3 = 1 := by kernel_rfl
theorem cellsBool : Tryd.prog.cellsOf 4 = 1 := by kernel_rfl
theorem cellsWords : Tryd.prog.cellsOf 22 = 1 := by kernel_rfl
theorem cellsU64 : Tryd.prog.cellsOf 67 = 1 := by kernel_rfl
theorem bytesU64 : Tryd.prog.bytesOf 67 = 8 := by kernel_rfl
theorem cellsActs : Tryd.prog.cellsOf 39 = 1 := by kernel_rfl
theorem cellsAct : Tryd.prog.cellsOf 80 = 3 := by kernel_rfl
theorem cellsOp : Tryd.prog.cellsOf 41 = 8 := by kernel_rfl

def listed : List (String × DataW Unit) := [("math/bits.deBruijn64tab", Rows.laid_math_bits_deBruijn64tab)]
theorem tab_of_laid {W : World} (h : laidMetH Tryd.prog listed W) : TabAt W := by
  have h' : laidMet Tryd.prog [("math/bits.deBruijn64tab", Lib.tabData .u8 (Lib.deBruijn64tab.map fun n : Nat => (n : Int)))] W := h
  have h1 := Lib.tabIs_of_head gTab gTabty Tryd.underlying96 Tryd.underlying5 cells8 cellsTab h'
  intro i hi
  have hl : Lib.deBruijn64tab.length = 64 := by decide
  rw [h1.cell gTab i (by simpa [hl] using hi)]
  simp [List.getD, hi, hl]
def relay (cs : List Value) : Obj → Obj
  | .cells _ t frozen => .cells cs.toArray t frozen
  | o => o
/-- a world for the witness: the settled one, with the table in it -/
def laidIn (w : World) : World := { w with heap := w.heap.modify 0 (relay (Lib.deBruijn64tab.map fun n : Nat => .int .u8 (n : Int))) }

def IsRow (k : IntKind) (w : World) (a : Option Addr) (len cap : Nat) (zs : List Int) : Prop :=
  (a = none ∧ len = 0 ∧ cap = 0 ∧ zs = []) ∨
  ∃ x, a = some x ∧ len ≤ cap ∧ cap ≤ maxLen ∧ zs.length = cap ∧ (∀ i, i < zs.length → w.cell? (x.add i) = some (.int k (zs.getD i 0))) ∧ ∀ n ∈ zs, (Lit.int k n).wf = true
theorem wsl_of_isrow {w : World} {a : Option Addr} {len cap : Nat} {zs : List Int} (h : IsRow .u64 w a len cap zs) : ∃ l : List Nat, l.length = len ∧ WSl w (.slice a len cap) l := by
  rcases h with ⟨rfl, rfl, rfl, rfl⟩ | ⟨x, rfl, hl, hm, hz, hcell, hwz⟩
  · exact ⟨[], rfl, none, 0, rfl, Nat.le_refl _, by unfold maxLen; omega, fun _ => rfl, by simp, by simp⟩
  · have hlen : ((zs.take len).map Int.toNat).length = len := by simp; omega
    refine ⟨(zs.take len).map Int.toNat, hlen, _, cap, by rw [hlen], by omega, hm, by simp, ?_, ?_⟩
    · intro b hb
      obtain ⟨n, hn, rfl⟩ := List.mem_map.1 hb
      have := bounds_u64 (hwz n (List.mem_of_mem_take hn))
      omega
    · intro hp
      obtain ⟨b, off, rfl, hc⟩ := ints_at hcell (by omega)
      refine ⟨b, off, rfl, fun i hi => ?_⟩
      rw [hc i (by omega)]
      have hi' : i < zs.length := by omega
      have hb := bounds_u64 (hwz zs[i] (List.getElem_mem hi'))
      have hi2 : i < len := by omega
      have e2 : ((zs.take len).map Int.toNat).getD i 0 = zs[i].toNat := by
        simp [List.getD, hi', hi2]
      have e3 : zs.getD i 0 = zs[i] := by simp [List.getD, hi']
      rw [e2, e3, Int.toNat_of_nonneg hb.1]

/-- a list of words, of which the weights are known -/
theorem open_field {H : Type} {enc : TypeId × Value → H} {W : World} {n : Nat} {v : Value} {y : DataW H × List MemPlace} (h : DataW.trod enc Tryd.prog W 0 (fun _ => true) true n 22 [v] = some y) (hw : ∀ k ∈ y.1.weights Tryd.prog 22, k ≤ reachBytes) : ∃ l : List Nat, WSl W v l ∧ l.length ≤ 17592186044416 := by
  rcases open_ints Tryd.underlying22 Tryd.underlying67 (by kernel_rfl) h with ⟨hcs, hy⟩ | ⟨x, len, cap, zs, hcs, _, hl, hm, hz, hx, hcell, hwz⟩
  · simp at hcs
    subst hcs
    exact ⟨[], ⟨none, 0, rfl, Nat.le_refl _, by unfold maxLen; omega, fun _ => rfl, by simp, by simp⟩, Nat.zero_le _⟩
  · simp at hcs
    subst hcs
    simp only [if_true] at hz
    obtain ⟨l, hll, hb⟩ := wsl_of_isrow (.inr ⟨_, rfl, hl, hm, hz, hcell, hwz⟩)
    subst hx
    refine ⟨l, hb, ?_⟩
    have := hw ((zs.length) * 8) (by
      simp only [DataW.weights]
      rw [Tryd.underlying22]
      simp only [lits, List.length_map, List.length_take, List.length_drop, bytesU64]
      rw [show min len zs.length + (zs.length - len) = zs.length by omega]
      exact List.mem_cons_self)
    unfold reachBytes at this
    omega
theorem open_words {H : Type} {enc : TypeId × Value → H} {W : World} {base : Nat} {v : Value} {d : DataW H} {p : List MemPlace} {ts : List TypeId} {ds : List (DataW H)} (j : Nat) (hts : ts[j]? = some 22) (hds : ds[j]? = some d)
    (hsz : (DataW.weightsEach Tryd.prog ts ds).all (· ≤ reachBytes) = true) (hok : Value.okWide Tryd.prog W .any base 22 v) (h1 : DataW.Trod enc Tryd.prog W 0 (fun _ => true) true 22 v d p) : ∃ l : List Nat, WSl W v l ∧ l.length ≤ 17592186044416 := by
  obtain ⟨a1, len1, cap1, rfl⟩ := okWide_slice Tryd.underlying22 hok
  obtain ⟨fuel, hf⟩ := h1
  refine open_field hf fun k hk => ?_
  have := List.all_eq_true.1 hsz k (DataW.weights_mem_each hts hds k hk)
  simpa using this
theorem trod_place_lt {H : Type} {enc : TypeId × Value → H} {W : World} {t : TypeId} {v : Value} {d : DataW H} {p : List MemPlace} (h1 : DataW.Trod enc Tryd.prog W 0 (fun _ => true) true t v d p) : ∀ x ∈ p, x.block < W.heap.size := by
  obtain ⟨m, hm⟩ := h1; exact DataW.trod_lt m _ _ _ hm
theorem words_again {H : Type} {enc : TypeId × Value → H} {W W' : World} {v : Value} {d : DataW H} {p : List MemPlace} (h1 : DataW.Trod enc Tryd.prog W 0 (fun _ => true) true 22 v d p) (bel : Below W.heap.size W W') :
    DataW.Trod enc Tryd.prog W' 0 (fun b => decide (b < W.heap.size)) true 22 v d p := Below.trod laidOut (by kernel_rfl) (of_decide_eq_true (by kernel_rfl)) h1 bel (trod_place_lt h1)
theorem ops_again {H : Type} {enc : TypeId × Value → H} {W W' : World} {v : Value} {d : DataW H} {p : List MemPlace} (h1 : DataW.Trod enc Tryd.prog W 0 (fun _ => true) true 25 v d p) (bel : Below W.heap.size W W') :
    DataW.Trod enc Tryd.prog W' 0 (fun b => decide (b < W.heap.size)) true 25 v d p := Below.trod laidOut (by kernel_rfl) (of_decide_eq_true (by kernel_rfl)) h1 bel (trod_place_lt h1)

theorem weights_all {H : Type} {P : Program} {e : TypeId} : ∀ {l : List (DataW H)} {d : DataW H}, d ∈ l → ∀ n ∈ d.weights P e, n ∈ DataW.weightsAll P e l
  | [], _, h => by cases h
  | x :: r, d, h => fun n hn => by
    simp only [DataW.weightsAll, List.mem_append]
    rcases List.mem_cons.1 h with rfl | h
    · exact .inl hn
    · exact .inr (weights_all h n hn)

/-- a list of acts -/
theorem open_acts {H : Type} {enc : TypeId × Value → H} {W : World} {fuel : Nat} {v : Value} {y : DataW H × List MemPlace} (h : DataW.trod enc Tryd.prog W 0 (fun _ => true) true fuel 39 [v] = some y) : ∃ l : List ActV, ASl W v l := by
  rcases Go.Deep.open_slice Tryd.underlying39 h with ⟨hcs, _⟩ | ⟨a, len, cap, m, n, D, Pl, hcs, _, hl, hm, hmm, hx, hel⟩
  · simp at hcs
    subst hcs
    exact ⟨[], none, 0, rfl, Nat.le_refl _, by unfold maxLen; omega, by simp, by simp⟩
  · simp at hcs
    subst hcs
    simp only [if_true] at hmm
    subst hmm
    have each : ∀ i, i < len → ∃ s : ActV, (i64ok s.kind ∧ i64ok s.a ∧ i64ok s.b) ∧ W.cell? (a.add (i * 3)) = some (.int .i64 s.kind) ∧ W.cell? (a.add (i * 3 + 1)) = some (.int .i64 s.a) ∧ W.cell? (a.add (i * 3 + 2)) = some (.int .i64 s.b) := by
      intro i hi
      obtain ⟨cs', h1, h2⟩ := hel i (by omega)
      rw [cellsAct] at h1
      obtain ⟨_, hlen, hcell⟩ := World.cells?_some h1
      obtain ⟨xs, k, hk, hxy, _, hxl, hfd⟩ := DataW.trod_struct Tryd.underlying80 h2
      match xs, hxl, cs', hlen with
      | [y0, y1, y2], _, [v0, v1, v2], _ =>
        have g0 := hfd 0 _ rfl
        have g1 := hfd 1 _ rfl
        have g2 := hfd 2 _ rfl
        simp [cellsInt] at g0 g1 g2
        have e0 := hcell 0 (by omega)
        have e1 := hcell 1 (by omega)
        have e2 := hcell 2 (by omega)
        rw [Go.Deep.add_add] at e0 e1 e2
        obtain ⟨z0, hz0, _, wf0⟩ := DataW.trod_int Tryd.underlying3 g0
        obtain ⟨z1, hz1, _, wf1⟩ := DataW.trod_int Tryd.underlying3 g1
        obtain ⟨z2, hz2, _, wf2⟩ := DataW.trod_int Tryd.underlying3 g2
        simp at hz0 hz1 hz2
        subst hz0 hz1 hz2
        exact ⟨⟨z0, z1, z2⟩, ⟨bounds_i64 wf0, bounds_i64 wf1, bounds_i64 wf2⟩, by simpa using e0, by simpa using e1, by simpa using e2⟩
    haveI : Inhabited ActV := ⟨⟨0, 0, 0⟩⟩
    obtain ⟨f, hfa⟩ := Go.Deep.choose_lt each
    refine ⟨(List.range len).map f, some a, m, by simp, by simpa using hl, hm, ?_, ?_⟩
    · intro s hs
      obtain ⟨i, hi, rfl⟩ := List.mem_map.1 hs
      exact (hfa i (List.mem_range.1 hi)).1
    · intro hpos
      simp only [List.length_map, List.length_range] at hpos
      obtain ⟨b, off, spot⟩ := a
      have hspot : spot = none := by simpa [Addr.add] using World.cell?_spot (hfa 0 hpos).2.1
      subst hspot
      refine ⟨b, off, rfl, fun i hi => ?_⟩
      simp only [List.length_map, List.length_range] at hi
      have h := hfa i hi
      simp only [List.getElem_map, List.getElem_range]
      refine ⟨?_, ?_, ?_⟩
      · rw [← Addr.add_lit]; exact h.2.1
      · rw [Nat.add_assoc, ← Addr.add_lit]; exact h.2.2.1
      · rw [Nat.add_assoc, ← Addr.add_lit]; exact h.2.2.2

theorem open_ops {H : Type} {enc : TypeId × Value → H} {W : World} {base : Nat} {v : Value} {d : DataW H} {p : List MemPlace} {ts : List TypeId} {ds : List (DataW H)} (j : Nat) (hts : ts[j]? = some 25) (hds : ds[j]? = some d)
    (hsz : (DataW.weightsEach Tryd.prog ts ds).all (· ≤ reachBytes) = true)
    (hok : Value.okWide Tryd.prog W .any base 25 v) (h1 : DataW.Trod enc Tryd.prog W 0 (fun _ => true) true 25 v d p) : ∃ os : List OpV, OSl W v os := by
  obtain ⟨a1, len1, cap1, rfl⟩ := okWide_slice Tryd.underlying25 hok
  obtain ⟨fuel, hf⟩ := h1
  rcases Go.Deep.open_slice Tryd.underlying25 hf with ⟨hcs, _⟩ | ⟨a, len, cap, m, n, D, Pl, hcs, _, hl, hm, hmm, hx, hel⟩
  · simp [Value.cells] at hcs
    obtain ⟨rfl, rfl, rfl⟩ := hcs
    exact ⟨[], none, 0, rfl, Nat.le_refl _, by unfold maxLen; omega, by simp, by simp⟩
  · simp [Value.cells] at hcs
    obtain ⟨rfl, rfl, rfl⟩ := hcs
    simp only [if_true] at hmm
    subst hmm
    have hwD : ∀ i, i < len1 → ∀ k ∈ (D i).weights Tryd.prog 41, k ≤ reachBytes := fun i hi k hk => by
      have h0 := List.all_eq_true.1 hsz k (DataW.weights_mem_each hts hds k (by
        simp only [Prod.mk.injEq] at hx
        rw [hx.1]
        simp only [DataW.weights]
        rw [Tryd.underlying25]
        refine List.mem_cons_of_mem _ (List.mem_append_left _ (weights_all (d := D i) ?_ k hk))
        exact List.mem_map.2 ⟨i, List.mem_range.2 hi, rfl⟩))
      simpa using h0
    have each : ∀ i, i < len1 → ∃ s : OpV, OpOk W s ∧ W.cell? (a.add (i * 8)) = some (.int .i64 s.kind) ∧ W.cell? (a.add (i * 8 + 1)) = some (.bool s.sec) ∧ W.cell? (a.add (i * 8 + 2)) = some (.int .i64 s.a) ∧ W.cell? (a.add (i * 8 + 3)) = some (.int .i64 s.b) ∧
        W.cell? (a.add (i * 8 + 4)) = some s.wv ∧ W.cell? (a.add (i * 8 + 5)) = some s.bv ∧ W.cell? (a.add (i * 8 + 6)) = some s.av ∧ W.cell? (a.add (i * 8 + 7)) = some (.bool s.again) := by
      intro i hi
      obtain ⟨cs', h1, h2⟩ := hel i (by omega)
      have hwi := hwD i hi
      rw [cellsOp] at h1
      obtain ⟨_, hlen, hcell⟩ := World.cells?_some h1
      obtain ⟨xs, k, hk, hxy, _, hxl, hfd⟩ := DataW.trod_struct Tryd.underlying41 h2
      match xs, hxl, cs', hlen with
      | [y0, y1, y2, y3, y4, y5, y6, y7], _, [v0, v1, v2, v3, v4, v5, v6, v7], _ =>
        have g0 := hfd 0 _ rfl
        have g1 := hfd 1 _ rfl
        have g2 := hfd 2 _ rfl
        have g3 := hfd 3 _ rfl
        have g4 := hfd 4 _ rfl
        have g5 := hfd 5 _ rfl
        have g6 := hfd 6 _ rfl
        have g7 := hfd 7 _ rfl
        simp [cellsInt, cellsBool, cellsWords, cellsActs] at g0 g1 g2 g3 g4 g5 g6 g7
        have e0 := hcell 0 (by omega)
        have e1 := hcell 1 (by omega)
        have e2 := hcell 2 (by omega)
        have e3 := hcell 3 (by omega)
        have e4 := hcell 4 (by omega)
        have e5 := hcell 5 (by omega)
        have e6 := hcell 6 (by omega)
        have e7 := hcell 7 (by omega)
        rw [Go.Deep.add_add] at e0 e1 e2 e3 e4 e5 e6 e7
        obtain ⟨z0, hz0, _, wf0⟩ := DataW.trod_int Tryd.underlying3 g0
        obtain ⟨z1, hz1, _⟩ := DataW.trod_bool Tryd.underlying4 g1
        obtain ⟨z2, hz2, _, wf2⟩ := DataW.trod_int Tryd.underlying3 g2
        obtain ⟨z3, hz3, _, wf3⟩ := DataW.trod_int Tryd.underlying3 g3
        obtain ⟨z7, hz7, _⟩ := DataW.trod_bool Tryd.underlying4 g7
        simp at hz0 hz1 hz2 hz3 hz7
        subst hz0 hz1 hz2 hz3 hz7
        simp only [Prod.mk.injEq] at hxy
        obtain ⟨l, hb, hbl⟩ := open_field g4 (fun k hk => hwi k (by
          rw [hxy.1]
          simp only [DataW.weights]
          rw [Tryd.underlying41]
          exact DataW.weights_mem_each (j := 4) rfl rfl k hk))
        obtain ⟨bl, hbb⟩ := open_acts g5
        obtain ⟨al, hab⟩ := open_acts g6
        exact ⟨⟨z0, z1, z2, z3, v4, l, v5, bl, v6, al, z7⟩, ⟨hb, hbl, hbb, hab, bounds_i64 wf0, bounds_i64 wf2, bounds_i64 wf3⟩, by simpa using e0, by simpa using e1, by simpa using e2, by simpa using e3, by simpa using e4, by simpa using e5, by simpa using e6, by simpa using e7⟩
    haveI : Inhabited OpV := ⟨⟨0, false, 0, 0, .slice none 0 0, [], .slice none 0 0, [], .slice none 0 0, [], false⟩⟩
    obtain ⟨f, hfa⟩ := Go.Deep.choose_lt each
    refine ⟨(List.range len1).map f, some a, m, by simp, by simpa using hl, hm, ?_, ?_⟩
    · intro s hs
      obtain ⟨i, hi, rfl⟩ := List.mem_map.1 hs
      exact (hfa i (List.mem_range.1 hi)).1
    · intro hpos
      simp only [List.length_map, List.length_range] at hpos
      obtain ⟨b, off, spot⟩ := a
      have hspot : spot = none := by simpa [Addr.add] using World.cell?_spot (hfa 0 hpos).2.1
      subst hspot
      refine ⟨b, off, rfl, fun i hi => ?_⟩
      simp only [List.length_map, List.length_range] at hi
      obtain ⟨_, q0, q1, q2, q3, q4, q5, q6, q7⟩ := hfa i hi
      simp only [List.getElem_map, List.getElem_range]
      refine ⟨?_, ?_, ?_, ?_, ?_, ?_, ?_, ?_⟩
      · rw [← Addr.add_lit]; exact q0
      · rw [Nat.add_assoc, ← Addr.add_lit]; exact q1
      · rw [Nat.add_assoc, ← Addr.add_lit]; exact q2
      · rw [Nat.add_assoc, ← Addr.add_lit]; exact q3
      · rw [Nat.add_assoc, ← Addr.add_lit]; exact q4
      · rw [Nat.add_assoc, ← Addr.add_lit]; exact q5
      · rw [Nat.add_assoc, ← Addr.add_lit]; exact q6
      · rw [Nat.add_assoc, ← Addr.add_lit]; exact q7
end Go.Proofs.YtglajdmkbckjjacDoor
namespace Go.Proofs.YtglajdmkbckjjacDoor
open Go.ChangeShapes Go.WideShapes Go.ChangeAt Go.RowKit
set_option linter.unusedVariables false
set_option linter.unusedSimpArgs false
set_option maxRecDepth 20000

theorem cellsMade : Tryd.prog.cellsOf 24 = 3 := by kernel_rfl
theorem three {cs : Array Value} (h : cs.size = 3) : ∃ v0 v1 v2, cs = #[v0, v1, v2] := by
  obtain ⟨l⟩ := cs
  match l, h with
  | [v0, v1, v2], _ => exact ⟨v0, v1, v2, rfl⟩
theorem open_made {H : Type} {enc : TypeId × Value → H} {W : World} {base : Nat} {v : Value} {d : DataW H} {p : List MemPlace} {ts : List TypeId} {ds : List (DataW H)} (j : Nat) (hts : ts[j]? = some 24) (hds : ds[j]? = some d)
    (hsz : (DataW.weightsEach Tryd.prog ts ds).all (· ≤ reachBytes) = true) (hok : Value.okWide Tryd.prog W .any base 24 v) (h1 : DataW.Trod enc Tryd.prog W 0 (fun _ => true) true 24 v d p) :
    ∃ (fr : Bool) (n : Int) (mv : Value) (l : List Nat), v = .agg #[.bool fr, .int .i64 n, mv] ∧ WSl W mv l ∧ l.length ≤ 17592186044416 := by
  obtain ⟨cs, rfl, hcs⟩ := okWide_struct Tryd.underlying24 hok
  obtain ⟨v0, v1, v2, rfl⟩ := three (hcs.trans cellsMade)
  obtain ⟨fuel, hf⟩ := h1
  obtain ⟨xs, k, hk, hxy, hl, hxl, hfd⟩ := DataW.trod_struct Tryd.underlying24 hf
  match xs, hxl with
  | [y0, y1, y2], _ =>
    have g0 := hfd 0 _ rfl
    have g1 := hfd 1 _ rfl
    have g2 := hfd 2 _ rfl
    simp [cellsInt, cellsBool, cellsWords, Value.cells] at g0 g1 g2
    obtain ⟨z0, hz0, _⟩ := DataW.trod_bool Tryd.underlying4 g0
    obtain ⟨z1, hz1, _, wf1⟩ := DataW.trod_int Tryd.underlying3 g1
    simp at hz0 hz1
    subst hz0 hz1
    simp only [Prod.mk.injEq] at hxy
    obtain ⟨l, hb, hbl⟩ := open_field g2 (fun k hk => by
      have h0 := List.all_eq_true.1 hsz k (DataW.weights_mem_each hts hds k (by
        rw [hxy.1]
        simp only [DataW.weights]
        rw [Tryd.underlying24]
        exact DataW.weights_mem_each (j := 2) rfl rfl k hk))
      simpa using h0)
    exact ⟨z0, z1, v2, l, rfl, hb, hbl⟩
theorem made_again {H : Type} {enc : TypeId × Value → H} {W W' : World} {v : Value} {d : DataW H} {p : List MemPlace} (h1 : DataW.Trod enc Tryd.prog W 0 (fun _ => true) true 24 v d p) (bel : Below W.heap.size W W') :
    DataW.Trod enc Tryd.prog W' 0 (fun b => decide (b < W.heap.size)) true 24 v d p := Below.trod laidOut (by kernel_rfl) (of_decide_eq_true (by kernel_rfl)) h1 bel (trod_place_lt h1)
end Go.Proofs.YtglajdmkbckjjacDoor
namespace Go.Proofs.YtglajdmkbckjjacDoor
open Go.ChangeShapes Go.WideShapes Go.ChangeAt Go.RowKit
set_option linter.unusedVariables false
set_option linter.unusedSimpArgs false
set_option maxRecDepth 20000

theorem bytesOp : Tryd.prog.bytesOf 41 = 112 := by kernel_rfl
theorem open_opsL {H : Type} {enc : TypeId × Value → H} {W : World} {base : Nat} {v : Value} {d : DataW H} {p : List MemPlace} {ts : List TypeId} {ds : List (DataW H)} (j : Nat) (hts : ts[j]? = some 25) (hds : ds[j]? = some d)
    (hsz : (DataW.weightsEach Tryd.prog ts ds).all (· ≤ reachBytes) = true)
    (hok : Value.okWide Tryd.prog W .any base 25 v) (h1 : DataW.Trod enc Tryd.prog W 0 (fun _ => true) true 25 v d p) : ∃ os : List OpV, OSl W v os ∧ os.length ≤ 1500000000000 := by
  obtain ⟨os, hos⟩ := open_ops j hts hds hsz hok h1
  refine ⟨os, hos, ?_⟩
  obtain ⟨a0, cap0, e0, -⟩ := hos
  generalize os.length = n0 at *
  subst e0
  obtain ⟨fuel, hf⟩ := h1
  rcases Go.Deep.open_slice Tryd.underlying25 hf with ⟨hcs, _⟩ | ⟨a, len, cap, m, n, D, Pl, hcs, _, hl, hm, hmm, hx, hel⟩
  · simp [Value.cells] at hcs
    omega
  · simp [Value.cells] at hcs
    obtain ⟨rfl, rfl, rfl⟩ := hcs
    simp only [Prod.mk.injEq] at hx
    have h0 := List.all_eq_true.1 hsz _ (DataW.weights_mem_each hts hds _ (by
      rw [hx.1]
      simp only [DataW.weights]
      rw [Tryd.underlying25]
      exact List.mem_cons_self))
    simp only [List.length_map, List.length_range, bytesOp, decide_eq_true_eq] at h0
    unfold reachBytes at h0
    omega
end Go.Proofs.YtglajdmkbckjjacDoor
