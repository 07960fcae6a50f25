import Derived.Test.YtglajdmkbckjjabBDc
namespace Go.Proofs.Ytglajdmkbckjjab
open Go.RowKit
set_option linter.unusedVariables false
set_option linter.unusedSimpArgs false
set_option maxRecDepth 20000

theorem pad_step {T : Nat} (h : ¬ T % 8 = 0) (d : Bool) (l : List Bool) : padR (fil T) (d :: l) = if d = true then (1, none) else (1 + (padR (fil (T + 1)) l).1, (padR (fil (T + 1)) l).2) := by
  have e : fil T = fil (T + 1) + 1 := by unfold fil; omega
  rw [e]
  conv => lhs; unfold padR
  rw [bndR_some (c := 1) (a := d) rfl]
  cases d with
  | true => rfl
  | false => rfl
theorem pad_zero {T : Nat} (h : T % 8 = 0) (l : List Bool) : padR (fil T) l = (0, some ()) := by
  have e : fil T = 0 := by unfold fil; omega
  rw [e]
  rfl
/-- what atEnd says, and where the reader is then -/
def endB (c : List Nat) (T : Nat) : Bool := (padR (fil T) ((digs c).drop T)).2.isSome && decide (¬ (T + (padR (fil T) ((digs c).drop T)).1) / 8 < c.length)
def endT (c : List Nat) (T : Nat) : Nat := T + (padR (fil T) ((digs c).drop T)).1 + (if (padR (fil T) ((digs c).drop T)).2.isSome then 1 else 0)
theorem end_zero {c : List Nat} {T : Nat} (h : T % 8 = 0) : endB c T = decide (¬ T / 8 < c.length) ∧ endT c T = T + 1 := by
  unfold endB endT
  rw [pad_zero h]
  simp
theorem end_one {c : List Nat} {T : Nat} (h : ¬ T % 8 = 0) (l : List Bool) (hd : (digs c).drop T = true :: l) : endB c T = false ∧ endT c T = T + 1 := by
  unfold endB endT
  rw [hd, pad_step h, if_pos rfl]
  simp
theorem end_go {c : List Nat} {T : Nat} (h : ¬ T % 8 = 0) (hd : (digs c).drop T = false :: (digs c).drop (T + 1)) : endB c T = endB c (T + 1) ∧ endT c T = endT c (T + 1) := by
  unfold endB endT
  rw [hd, pad_step h, if_neg (by simp)]
  dsimp only
  rw [← Nat.add_assoc]
  exact ⟨rfl, rfl⟩
set_option maxHeartbeats 1000000 in
theorem atEnd_any {w0 w : World} {p T : Nat} {cv : Value} {c : List Nat} (h : RS w0 w p cv c T) (hT : T ≤ 8 * c.length) (hc : c.length ≤ 150000000000000) :
    Calls Try.prog 14 #[.pointer (some ⟨p, 0, none⟩)] w fun e w' => e = .returned (.bool (endB c T)) ∧ RS w0 w' p cv c (endT c T) := by
  obtain ⟨E, hE⟩ : ∃ E, endB c T = E := ⟨_, rfl⟩
  obtain ⟨F, hF⟩ : ∃ F, endT c T = F := ⟨_, rfl⟩
  rw [hE, hF]
  have HS := hide h
  have HE := hide (And.intro hE hF)
  have HTL := hide hT
  have HLEN := hide hc
  clear hE hF h hT hc
  go_enter Try.func14, Try.ntmps14
  go_wp2_with fail
  go_loopw [] (fun wr => ∃ T' : Nat, Hid (T' ≤ 8 * c.length) ∧ Hid (RS w0 wr p cv c T') ∧ Hid (endB c T' = E ∧ endT c T' = F)) (fun wr => match wr.cell? ⟨p, 1, none⟩ with | some (.int _ x) => (8 * c.length - x.toNat) | _ => 0)
  case atStart => exact ⟨T, HTL, HS, HE⟩
  case round =>
    clear HS HE HTL
    obtain ⟨T', HT, HS, HE⟩ := hrel
    obtain ⟨a, cap, hcv, -⟩ := HS.out.sl
    have c1 : wr.cell? ⟨p, 1, none⟩ = some (.int .i64 (T' : Int)) := cell_of_row _ _ _ _ _ _ HS.out.rd
    have hTb : T' < 4611686018427387904 := by have := HT.out; have := HLEN.out; omega
    have HD := hide (HS.out.digit hTb)
    by_cases h8 : T' % 8 = 0
    · obtain ⟨e1, e2⟩ := end_zero (c := c) h8
      have HE2 : Hid (E = decide (¬ T' / 8 < c.length) ∧ F = T' + 1) := hide ⟨HE.out.1.symm.trans e1, HE.out.2.symm.trans e2⟩
      have h8i : (T' : Int) % 8 = 0 := by omega
      have hsome : (dgR ((digs c).drop T')).2.isSome = decide (T' / 8 < c.length) := by
        by_cases hin : T' / 8 < c.length
        · rw [digs_drop_get hin]; simp [dgR, hin]
        · rw [digs_drop_end hin]; simp [dgR, hin]
      rw [hsome] at HD
      clear e1 e2 HE hsome h8
      generalize ((dgR ((digs c).drop T')).2.getD false).toNat = dv at *
      go_wp2_with (go_at_call 25; refine HD.out.mono ?_; clear HD; rintro e w' ⟨rfl, h9⟩; have H9 := hide h9; clear h9)
      go_ret
      exact ⟨by rw [HE2.out.1, decide_not]; rfl, by rw [HE2.out.2]; exact H9.out⟩
    · have hin : T' / 8 < c.length := by have := HT.out; omega
      have h8i : ((T' : Int) % 8 == 0) = false := by simp; omega
      have hdrop := digs_drop_get hin
      have HT2 : Hid (T' + 1 ≤ 8 * c.length) := hide (by have := HT.out; omega)
      cases hd : (c.getD (T' / 8) 0).testBit (7 - T' % 8) with
      | true =>
        rw [hd] at hdrop
        obtain ⟨e1, e2⟩ := end_one h8 _ hdrop
        have HE2 : Hid (E = false ∧ F = T' + 1) := hide ⟨HE.out.1.symm.trans e1, HE.out.2.symm.trans e2⟩
        rw [hdrop] at HD
        simp only [dgR, Option.getD, Option.isSome, Bool.toNat_true] at HD
        clear e1 e2 HE hd hdrop h8
        go_wp2_with (go_at_call 25; refine HD.out.mono ?_; clear HD; rintro e w' ⟨rfl, h9⟩; have H9 := hide h9; clear h9)
        go_ret
        exact ⟨by rw [HE2.out.1]; rfl, by rw [HE2.out.2]; exact H9.out⟩
      | false =>
        rw [hd] at hdrop
        obtain ⟨e1, e2⟩ := end_go h8 hdrop
        have HE2 : Hid (endB c (T' + 1) = E ∧ endT c (T' + 1) = F) := hide ⟨e1.symm.trans HE.out.1, e2.symm.trans HE.out.2⟩
        rw [hdrop] at HD
        simp only [dgR, Option.getD, Option.isSome, Bool.toNat_false] at HD
        clear e1 e2 HE hd hdrop h8
        go_wp2_with (go_at_call 25; refine HD.out.mono ?_; clear HD; rintro e w' ⟨rfl, h9⟩; have H9 := hide h9; clear h9)
        go_roundw
        case rel => exact ⟨T' + 1, HT2, H9, HE2⟩
        case measure =>
          have c2 : w'.cell? ⟨p, 1, none⟩ = some (.int .i64 ((T' + 1 : Nat) : Int)) := cell_of_row _ _ _ _ _ _ H9.out.rd
          rw [c1, c2]
          have := HT2.out
          show 8 * c.length - (((T' + 1 : Nat) : Int)).toNat < 8 * c.length - ((T' : Int)).toNat
          omega
theorem fault_any {w : World} {p T : Nat} {cv : Value} (h : RdM w p cv T) (hT : T < 4611686018427387904) (h1 : 1 ≤ T) :
    Calls Try.prog 15 #[.pointer (some ⟨p, 0, none⟩)] w fun e w' => e = .returned (.int .i64 (((T - 1) / 8 : Nat) : Int)) ∧ w' = w := by
  have c1 : w.cell? ⟨p, 1, none⟩ = some (.int .i64 (T : Int)) := cell_of_row _ _ _ _ _ _ h
  have hq : ((T : Int) - 1).tdiv 8 = (((T - 1) / 8 : Nat) : Int) := by rw [Int.tdiv_eq_ediv_of_nonneg (by omega)]; omega
  have hq2 : ((T : Int) - 1) / 8 = (((T - 1) / 8 : Nat) : Int) := by omega
  go_enter Try.func15, Try.ntmps15
  go_wp2_with fail
  go_ret
  exact ⟨by first | rfl | (rw [← hq2]; rfl), rfl⟩
/-- what Decode says: the bits; or the place -/
def dOut (n : Nat) (c : List Nat) : Option Nat × Nat := match decR n (digs c) with
  | (k, none) => (none, (k - 1) / 8)
  | (k, some B) => if k < 8 * c.length then (none, k / 8) else (some B, 0)
theorem dOut_no {n : Nat} {c : List Nat} {k : Nat} (h : readR n (digs c) = (k, none)) : dOut n c = (none, (k - 1) / 8) := by
  unfold dOut
  have : decR n (digs c) = (k, none) := bndR_none h
  rw [this]
theorem dOut_some {n : Nat} {c : List Nat} {k B : Nat} (h : readR n (digs c) = (k, some B)) (hk : k ≤ 8 * c.length) : dOut n c = if endB c k = true then (some B, 0) else (none, (endT c k - 1) / 8) := by
  unfold dOut endB endT
  have e : decR n (digs c) = (k + (bndR (padR (fil k)) (fun _ _ => retR B) ((digs c).drop k)).1, (bndR (padR (fil k)) (fun _ _ => retR B) ((digs c).drop k)).2) := bndR_some h
  rw [e]
  cases hp : padR (fil k) ((digs c).drop k) with
  | mk j o =>
    cases o with
    | none =>
      rw [bndR_none hp]
      simp
    | some u =>
      rw [bndR_some hp]
      have hj := (pad_is _ _ _ _ hp).1
      have h8 : (k + j) % 8 = 0 := by rw [hj]; unfold fil; omega
      by_cases hlt : k + j < 8 * c.length
      · have h1 : (k + j) / 8 < c.length := by omega
        simp [retR, hlt, h1]
      · have h1 : ¬ (k + j) / 8 < c.length := by omega
        simp [retR, hlt, h1]
end Go.Proofs.Ytglajdmkbckjjab
