import Derived.Test.YtglajdmkbckjjabBRr
namespace Go.Proofs.Ytglajdmkbckjjab
open Go.RowKit
set_option linter.unusedVariables false
set_option linter.unusedSimpArgs false
set_option maxRecDepth 20000

/-- the document's reader between two digits -/
structure QS (w w' : World) (p : Nat) (cv : Value) (c : List Nat) (T : Nat) : Prop where
  rd : RdQ w' p cv T
  sl : CSl w' cv c
  chg : Chg (fun b => b = p) w w'
theorem QS.step {w w' w'' : World} {p T : Nat} {cv : Value} {c : List Nat} (h : QS w w' p cv c T) (h1 : RdQ w'' p cv (T + 1)) (h2 : Chg (fun b => b = p) w' w'') : QS w w'' p cv c (T + 1) :=
  ⟨h1, h.sl.stepQ h.rd (by obtain ⟨a, cap, rfl, _⟩ := h.sl; exact ⟨_, _, _, rfl⟩) h2, h.chg.trans h2⟩
theorem QS.digit {w w' : World} {p T : Nat} {cv : Value} {c : List Nat} (h : QS w w' p cv c T) (hT : T < 4611686018427387904) {d : Bool} {l : List Bool} (hd : (digs c).drop T = d :: l) :
    Calls Try.prog 18 #[.pointer (some ⟨p, 0, none⟩)] w' fun e w'' => e = .returned (.bool d) ∧ QS w w'' p cv c (T + 1) := by
  have hin : T / 8 < c.length := Nat.lt_of_not_le fun hle => by
    rw [digs_drop_end (by omega)] at hd
    cases hd
  have e : d = dgV c T := by
    rw [digs_drop_get hin] at hd
    injection hd with h1
    exact h1.symm
  rw [e]
  exact (rdigit_any h.rd h.sl hT hin).mono fun e w'' ⟨h1, h2, h3⟩ => ⟨h1, h.step h2 h3⟩
theorem QS.end {w w' : World} {p T : Nat} {cv : Value} {c : List Nat} (h : QS w w' p cv c T) (hT : T < 4611686018427387904) (hc : c.length ≤ 150000000000000) :
    Calls Try.prog 29 #[.pointer (some ⟨p, 0, none⟩)] w' fun e w'' => e = .returned (.bool (decide (8 * c.length ≤ T))) ∧ QS w w'' p cv c T := by
  have c0 : w'.cell? ⟨p, 0, none⟩ = some cv := cell_of_row _ _ _ _ _ _ h.rd
  have c1 : w'.cell? ⟨p, 1, none⟩ = some (.int .i64 (T : Int)) := cell_of_row _ _ _ _ _ _ h.rd
  have H := hide fun (W : World) (hB : Below w'.heap.size w' W) (hW : W.heap = w'.heap) => (⟨show W.heap[p]? = _ by rw [hW]; exact h.rd, h.sl.stepQ h.rd (by obtain ⟨a, cap, rfl, _⟩ := h.sl; exact ⟨_, _, _, rfl⟩) ⟨hB.os, hB.tape, hB.output, by rw [hW]; exact Nat.le_refl _, fun b _ _ => by rw [hW]⟩, h.chg.trans ⟨hB.os, hB.tape, hB.output, by rw [hW]; exact Nat.le_refl _, fun b _ _ => by rw [hW]⟩⟩ : QS w W p cv c T)
  obtain ⟨a, cap, rfl, -⟩ := h.sl
  clear h
  generalize hcl : c.length = L at *
  clear hcl
  have hmul : IntKind.i64.wrap (8 * (L : Int)) = 8 * (L : Int) := by simp [IntKind.wrap, IntKind.bits, IntKind.signed]; omega
  go_enter Try.func29, Try.ntmps29
  go_wp2_with fail
  refine wp_region_still_tail 10 (by kernel_rfl) (by kernel_rfl) ?_
  simp only [List.take_succ_cons, List.take_zero, List.drop_succ_cons, List.drop_zero]
  repeat still_step
  refine wpStill_nil ?_
  go_wp2_with fail
  go_ret
  refine ⟨?_, H.out w'.drew ((Below.refl _ _).drew) rfl⟩
  have : decide (8 * (L : Int) ≤ (T : Int)) = decide (8 * L ≤ T) := by rw [decide_eq_decide]; omega
  rw [this]
  rfl
theorem drop_nil_iff {c : List Nat} {T : Nat} : (digs c).drop T = [] ↔ 8 * c.length ≤ T := by
  rw [List.drop_eq_nil_iff, digs_len]
/-- what the document's number says -/
def NuP (w0 : World) (p : Nat) (cv : Value) (c : List Nat) (T : Nat) (R : Nat × Option Nat) (e : Ending) (w' : World) : Prop :=
  e = .returned (.tuple #[.int .i64 ((R.2.getD 0 : Nat) : Int), .bool (R.2.isNone && decide (T + R.1 ≤ 8 * c.length))]) ∧ ∃ T', QS w0 w' p cv c T' ∧ (T + R.1 ≤ 8 * c.length → T' = T + R.1)
theorem lft_go {R : Nat × Option Nat} {n most j x y : Nat} {d : Bool} {l : List Bool} (h : Lft R n (loR most (j + 1) x (d :: l))) (hb : ¬ most < x + d.toNat * 2 ^ j) (hx : x + d.toNat * 2 ^ j = y) : Lft R (n + 1) (loR most j y l) := by
  unfold Lft at h ⊢
  rw [lo_go _ hb, hx] at h
  rw [h]
  show (n + (1 + _), _) = (n + 1 + _, _)
  rw [Nat.add_assoc]
set_option maxHeartbeats 2000000 in
theorem rnumber_any {w0 w : World} {p T : Nat} {cv : Value} {c : List Nat} (h : QS w0 w p cv c T) (hc : c.length ≤ 150000000000000) (hT : T ≤ 8 * c.length) (most : Nat) (h1 : 1 ≤ most) (h2 : most ≤ 65536) :
    Calls Try.prog 19 #[.pointer (some ⟨p, 0, none⟩), .int .i64 (most : Int)] w (NuP w0 p cv c T (stR most ((digs c).drop T))) := by
  obtain ⟨R, hR⟩ : ∃ R, stR most ((digs c).drop T) = R := ⟨_, rfl⟩
  rw [hR]
  have HR := hide hR
  have HS := hide h
  have HC := hide hc
  have HTL := hide hT
  have HT : Hid (T < 2000000000000000) := hide (by omega)
  clear hR h hc hT
  go_enter Try.func19, Try.ntmps19
  go_wp2_with fail
  go_loopw [6] (fun z wr => ∃ k : Nat, z = .int .i64 (k : Int) ∧ Hid (2 ^ k ≤ most) ∧ Hid (QS w0 wr p cv c (T + k)) ∧ Hid (Lft R k (stK most k ((digs c).drop (T + k))))) (fun z _ => 20 - (intOf z).toNat)
  case atStart => exact ⟨0, rfl, hide h1, hide HS.out, hide (by unfold Lft; rw [stK_zero, Nat.add_zero, ← HR.out]; simp)⟩
  case round =>
    obtain ⟨k, rfl, HTK, HQS, HL⟩ := hrel
    clear HS HR
    have hk : k ≤ 16 := pow_small HTK.out h2
    have hT := HT.out
    have HE := hide (HQS.out.end (by omega) HC.out)
    rcases digs_cases c (T + k) with hnil | ⟨d, hcons⟩
    · have hle := drop_nil_iff.1 hnil
      rw [decide_eq_true hle] at HE
      rw [hnil] at HL
      have HL2 : Hid (R = (k + 1, none)) := hide (by have := HL.out; unfold Lft at this; rw [stK_nil (by omega)] at this; exact this)
      clear HL HQS hnil
      go_wp2_with (go_at_call 29; refine HE.out.mono ?_; clear HE; rintro e w' ⟨rfl, h8⟩; have H8 := hide h8; clear h8)
      refine bodyPost_ret (results_tmp2 rfl _ _ _) rfl ?_
      unfold NuP
      rw [HL2.out]
      refine ⟨?_, _, H8.out, fun hh => by simp only at hh; omega⟩
      rw [decide_eq_false (by simp only; omega)]
      rfl
    · have hlt : ¬ 8 * c.length ≤ T + k := fun hh => by rw [drop_nil_iff.2 hh] at hcons; cases hcons
      rw [decide_eq_false hlt] at HE
      rw [hcons] at HL
      have HD0 := hide fun W (h : QS w0 W p cv c (T + k)) => h.digit (by omega) hcons
      clear HQS
      cases d with
      | true =>
        have HL2 : Hid (Lft R (k + 1) (loR most k (1 * 2 ^ k) ((digs c).drop (T + k + 1)))) := hide (by have := HL.out; unfold Lft at this ⊢; rw [this, stK_one (by omega), Nat.one_mul]; exact Prod.ext (by show k + (1 + _) = k + 1 + _; omega) rfl)
        clear hcons HL
        go_wp2_with (first
          | (go_at_call 29; refine HE.out.mono ?_; clear HE; rintro e w' ⟨rfl, h8⟩; have HD := hide (HD0.out _ h8); clear h8 HD0)
          | (go_at_call 18; refine HD.out.mono ?_; clear HD; rintro e w' ⟨rfl, h8⟩; have H8 := hide h8; clear h8))
        have hq1 : Hid (1 * 2 ^ k ≤ most) := hide (by rw [Nat.one_mul]; exact HTK.out)
        go_loopw [8, 9] (fun nv y wr => ∃ j q n : Nat, y = .int .i64 ((j : Int) - 1) ∧ nv = .int .i64 (q : Int) ∧ 1 ≤ q ∧ Hid (q * 2 ^ j ≤ most) ∧ j ≤ 16 ∧ n + j ≤ 33 ∧ Hid (QS w0 wr p cv c (T + n)) ∧ Hid (Lft R n (loR most j (q * 2 ^ j) ((digs c).drop (T + n))))) (fun _ y _ => (intOf y + 1).toNat)
        case atStart => exact ⟨k, 1, k + 1, rfl, rfl, Nat.le_refl _, hq1, hk, by omega, hide (by rw [← Nat.add_assoc]; exact H8.out), hide (by rw [← Nat.add_assoc]; exact HL2.out)⟩
        case round =>
          clear HL2 H8 hq1 HTK hk hlt
          obtain ⟨j, q, n, rfl, rfl, hq0, HQL, hj, hn, HQS, HL⟩ := hrel
          have hqm : q ≤ 65536 := by
            have h5 := HQL.out
            have h6 : q * 1 ≤ q * 2 ^ j := Nat.mul_le_mul_left _ (Nat.two_pow_pos _)
            omega
          cases j with
          | zero =>
            have hge : ¬ (0 : Int) ≤ ((0 : Nat) : Int) - 1 := by omega
            have HL2 : Hid (R = (n, some (q * 2 ^ 0))) := hide HL.out
            clear HL
            go_wp2_with fail
            refine bodyPost_ret (results_tmp2 rfl _ _ _) rfl ?_
            unfold NuP
            rw [HL2.out]
            exact ⟨by simp, _, HQS.out, fun _ => rfl⟩
          | succ j =>
            have ej : (((j + 1 : Nat) : Int) - 1) = (j : Int) := by omega
            rw [ej]
            have HE := hide (HQS.out.end (by omega) HC.out)
            rcases digs_cases c (T + n) with hnil | ⟨d, hcons⟩
            · have hle := drop_nil_iff.1 hnil
              rw [decide_eq_true hle] at HE
              rw [hnil] at HL
              have HL2 : Hid (R = (n + 1, none)) := hide HL.out
              clear HL HQS hnil
              go_wp2_with (go_at_call 29; refine HE.out.mono ?_; clear HE; rintro e w' ⟨rfl, h8⟩; have H8 := hide h8; clear h8)
              refine bodyPost_ret (results_tmp2 rfl _ _ _) rfl ?_
              unfold NuP
              rw [HL2.out]
              refine ⟨?_, _, H8.out, fun hh => by simp only at hh; omega⟩
              rw [decide_eq_false (by simp only; omega)]
              rfl
            · have hlt : ¬ 8 * c.length ≤ T + n := fun hh => by rw [drop_nil_iff.2 hh] at hcons; cases hcons
              rw [decide_eq_false hlt] at HE
              rw [hcons] at HL
              have HD0 := hide fun W (h : QS w0 W p cv c (T + n)) => h.digit (by omega) hcons
              have hj16 : 2 ^ j ≤ 65536 := by
                have e : 2 ^ 16 = 65536 := by decide
                rw [← e]
                exact Nat.pow_le_pow_right (by decide) (by omega)
              obtain ⟨q2, hq2⟩ : ∃ q2, q2 = 2 * q + d.toNat := ⟨_, rfl⟩
              have hq20 : 1 ≤ q2 := by omega
              have hwA : wrap64 (2 * (q : Int)) = 2 * (q : Int) := by unfold wrap64; omega
              have hwB : wrap64 (2 * (q : Int) + (d.toNat : Nat)) = (q2 : Int) := by rw [hq2]; unfold wrap64; cases d <;> simp <;> omega
              have hjw : (0 : Int) ≤ (j : Int) ∧ (j : Int) < 64 := ⟨by omega, by omega⟩
              have hx : q * 2 ^ (j + 1) + d.toNat * 2 ^ j = q2 * 2 ^ j := by rw [hq2, Nat.add_mul, Nat.pow_succ]; congr 1; rw [Nat.mul_comm 2 q, Nat.mul_assoc, Nat.mul_comm 2]
              obtain ⟨X, hX⟩ : ∃ X, q2 * 2 ^ j = X := ⟨_, rfl⟩
              have hXb : X ≤ 131073 * 65536 := by
                rw [← hX]
                exact Nat.mul_le_mul (by rw [hq2]; cases d <;> simp <;> omega) hj16
              have hwx : wrap64 ((q2 : Int) * 2 ^ j) = (X : Int) := by
                have e : ((q2 : Int) * 2 ^ j) = ((q2 * 2 ^ j : Nat) : Int) := by simp
                rw [e, hX]
                unfold wrap64
                omega
              have hwx2 : (q2 : Int) * 2 ^ j = (X : Int) := by
                have e : ((q2 : Int) * 2 ^ j) = ((q2 * 2 ^ j : Nat) : Int) := by simp
                rw [e, hX]
              have HGO : Hid (¬ most < X → Lft R (n + 1) (loR most j (q2 * 2 ^ j) ((digs c).drop (T + (n + 1))))) := hide (by
                intro hnb
                have h3 := HL.out
                rw [show T + n + 1 = T + (n + 1) from rfl] at h3
                generalize (digs c).drop (T + (n + 1)) = l at h3 ⊢
                exact lft_go h3 (by rw [hx, hX]; exact hnb) hx)
              have HNO : Hid (most < X → R = (n + 1, none)) := hide fun hnb => by
                have := HL.out
                unfold Lft at this
                rw [this, lo_bad _ (by rw [hx, hX]; exact hnb)]
              have HQX : Hid (¬ most < X → q2 * 2 ^ j ≤ most) := hide fun hnb => by rw [hX]; exact Nat.le_of_not_lt hnb
              clear hcons HL hx hX HQL
              have HQ0 : Hid (1 ≤ q2) := hide hq20
              have HN := hide hn
              have HJ := hide hj
              have HLT0 : Hid (T + n + 1 ≤ 8 * c.length) := hide (Nat.lt_of_not_le hlt)
              clear hwx2 hXb hj16 hq20 hqm hlt HQS hn hj
              have HLE : Hid (T + n + 1 ≤ 8 * c.length) := hide HLT0.out
              by_cases hb : most < X
              · have HL2 := hide (HNO.out hb)
                have hbi : (most : Int) < (X : Int) := by exact_mod_cast hb
                clear HNO HGO HQX hb
                cases d with
                | true =>
                  have hwC : wrap64 (2 * (q : Int) + 1) = (q2 : Int) := hwB
                  clear hq2 hwB
                  go_wp2_with (first
                    | (go_at_call 29; refine HE.out.mono ?_; clear HE; rintro e w' ⟨rfl, h8⟩; have HD := hide (HD0.out _ h8); clear h8 HD0)
                    | (go_at_call 18; refine HD.out.mono ?_; clear HD; rintro e w' ⟨rfl, h8⟩; have H8 := hide h8; clear h8))
                  refine bodyPost_ret (results_tmp2 rfl _ _ _) rfl ?_
                  unfold NuP
                  rw [HL2.out]
                  refine ⟨?_, _, H8.out, fun _ => by rw [Nat.add_assoc]⟩
                  rw [decide_eq_true (show T + (n + 1, (none : Option Nat)).1 ≤ 8 * c.length by show T + (n + 1) ≤ _; have := HLE.out; omega)]
                  rfl
                | false =>
                  have hwC : wrap64 (2 * (q : Int)) = (q2 : Int) := by have := hwB; simpa using this
                  clear hq2 hwB hwA
                  go_wp2_with (first
                    | (go_at_call 29; refine HE.out.mono ?_; clear HE; rintro e w' ⟨rfl, h8⟩; have HD := hide (HD0.out _ h8); clear h8 HD0)
                    | (go_at_call 18; refine HD.out.mono ?_; clear HD; rintro e w' ⟨rfl, h8⟩; have H8 := hide h8; clear h8))
                  refine bodyPost_ret (results_tmp2 rfl _ _ _) rfl ?_
                  unfold NuP
                  rw [HL2.out]
                  refine ⟨?_, _, H8.out, fun _ => by rw [Nat.add_assoc]⟩
                  rw [decide_eq_true (show T + (n + 1, (none : Option Nat)).1 ≤ 8 * c.length by show T + (n + 1) ≤ _; have := HLE.out; omega)]
                  rfl
              · have HL2 := hide (HGO.out hb)
                have HQ2 := hide (HQX.out hb)
                have hbi : ¬ (most : Int) < (X : Int) := by exact_mod_cast hb
                clear HNO HGO HQX hb HLE
                cases d with
                | true =>
                  have hwC : wrap64 (2 * (q : Int) + 1) = (q2 : Int) := hwB
                  clear hq2 hwB
                  go_wp2_with (first
                    | (go_at_call 29; refine HE.out.mono ?_; clear HE; rintro e w' ⟨rfl, h8⟩; have HD := hide (HD0.out _ h8); clear h8 HD0)
                    | (go_at_call 18; refine HD.out.mono ?_; clear HD; rintro e w' ⟨rfl, h8⟩; have H8 := hide h8; clear h8))
                  go_roundw
                  case rel => exact ⟨j, q2, n + 1, rfl, by first | rfl | rw [hwC] | rw [hwA, hwC], HQ0.out, hide HQ2.out, by have := HJ.out; omega, by have := HN.out; omega, hide (by rw [← Nat.add_assoc]; exact H8.out), HL2⟩
                  case measure => simp [intOf] <;> omega
                | false =>
                  have hwC : wrap64 (2 * (q : Int)) = (q2 : Int) := by have := hwB; simpa using this
                  clear hq2 hwB hwA
                  go_wp2_with (first
                    | (go_at_call 29; refine HE.out.mono ?_; clear HE; rintro e w' ⟨rfl, h8⟩; have HD := hide (HD0.out _ h8); clear h8 HD0)
                    | (go_at_call 18; refine HD.out.mono ?_; clear HD; rintro e w' ⟨rfl, h8⟩; have H8 := hide h8; clear h8))
                  go_roundw
                  case rel => exact ⟨j, q2, n + 1, rfl, by first | rfl | rw [hwC] | rw [hwA, hwC], HQ0.out, hide HQ2.out, by have := HJ.out; omega, by have := HN.out; omega, hide (by rw [← Nat.add_assoc]; exact H8.out), HL2⟩
                  case measure => simp [intOf] <;> omega
      | false =>
        have HLE : Hid (T + k + 1 ≤ 8 * c.length) := hide (Nat.lt_of_not_le hlt)
        obtain ⟨Y, hY⟩ : ∃ Y, 2 ^ (k + 1) = Y := ⟨_, rfl⟩
        have hYb : Y ≤ 131072 := by
          have e : 2 ^ 17 = 131072 := by decide
          rw [← hY, ← e]
          exact Nat.pow_le_pow_right (by decide) (by omega)
        have hYi : ((2 : Int) ^ (k + 1)) = (Y : Int) := by rw [← hY]; simp
        have hYw : wrap64 ((2 : Int) ^ (k + 1)) = (Y : Int) := by
          rw [hYi]
          clear hYi hY
          unfold wrap64
          omega
        have hYw2 : wrap64 (Y : Int) = (Y : Int) := by rw [← hYi]; exact hYw.trans hYi.symm
        have hkw : wrap64 ((k : Int) + 1) = (k : Int) + 1 := by clear hYi hYw; unfold wrap64; omega
        have htn : ((k : Int) + 1).toNat = k + 1 := by clear hYi hYw; omega
        have hk0 : (0 : Int) ≤ (k : Int) + 1 := by clear hYi hYw; omega
        have HK : Hid (k ≤ 16) := hide hk
        by_cases hb : most < 2 ^ (k + 1)
        · have HL2 : Hid (R = (k + 1, none)) := hide (by have := HL.out; unfold Lft at this; rw [stK_bad (by omega) _ hb] at this; exact this)
          have hbi : (most : Int) < (Y : Int) := by rw [hY] at hb; exact_mod_cast hb
          clear hcons HL hb hY hYb hlt
          go_wp2_with (first
            | (go_at_call 29; refine HE.out.mono ?_; clear HE; rintro e w' ⟨rfl, h8⟩; have HD := hide (HD0.out _ h8); clear h8 HD0)
            | (go_at_call 18; refine HD.out.mono ?_; clear HD; rintro e w' ⟨rfl, h8⟩; have H8 := hide h8; clear h8))
          refine bodyPost_ret (results_tmp2 rfl _ _ _) rfl ?_
          unfold NuP
          rw [HL2.out]
          refine ⟨?_, _, H8.out, fun _ => by rw [Nat.add_assoc]⟩
          rw [decide_eq_true (show T + (k + 1, (none : Option Nat)).1 ≤ 8 * c.length by show T + (k + 1) ≤ _; have := HLE.out; omega)]
          rfl
        · have HL2 : Hid (Lft R (k + 1) (stK most (k + 1) ((digs c).drop (T + (k + 1))))) := hide (by have := HL.out; unfold Lft at this ⊢; rw [this, stK_go (by omega) _ hb]; exact Prod.ext (by show k + (1 + _) = k + 1 + _; rw [← Nat.add_assoc, ← Nat.add_assoc]) rfl)
          have HPW : Hid (2 ^ (k + 1) ≤ most) := hide (Nat.le_of_not_lt hb)
          have hbi : ¬ (most : Int) < (Y : Int) := by rw [hY] at hb; exact_mod_cast hb
          clear hcons HL hb hY hYb hlt HLE
          go_wp2_with (first
            | (go_at_call 29; refine HE.out.mono ?_; clear HE; rintro e w' ⟨rfl, h8⟩; have HD := hide (HD0.out _ h8); clear h8 HD0)
            | (go_at_call 18; refine HD.out.mono ?_; clear HD; rintro e w' ⟨rfl, h8⟩; have H8 := hide h8; clear h8))
          go_roundw
          case rel => exact ⟨k + 1, by first | rfl | go_num, HPW, hide (by rw [← Nat.add_assoc]; exact H8.out), HL2⟩
          case measure => clear hYi hYw; simp [intOf] <;> omega
end Go.Proofs.Ytglajdmkbckjjab
