import Derived.Test.YtglajdmkbckjjabBRn
import Derived.Test.YtglajdmkbckjjabBDd
import Derived.Deep.RegionHeld3
import Derived.Test.YtglajdmkbckjjabBRef4
namespace Go.Proofs.Ytglajdmkbckjjab
open Go.RowKit Go.Shelf
set_option linter.unusedVariables false
set_option linter.unusedSimpArgs false
set_option maxRecDepth 20000

theorem good_read2 (n : Nat) : Good (readR n) := good_bnd good_dg fun d _ => good_rd n (n + 1) 0 d 0
/-- the document's bitmap that is read, and its reader -/
structure QB (w wr : World) (p : Nat) (cv : Value) (c : List Nat) (T : Nat) (R : RL) (n B : Nat) : Prop where
  rd : RdQ wr p cv T
  sl : CSl w cv c
  bm : RRep wr R n B
  bel : Below w.heap.size w wr
  pN : w.heap.size ≤ p
  lN : ∀ b, R.U b → w.heap.size ≤ b ∧ b ≠ p
theorem QB.qs {w wr : World} {p T n B : Nat} {cv : Value} {c : List Nat} {R : RL} (h : QB w wr p cv c T R n B) : QS wr wr p cv c T := ⟨h.rd, h.sl.blk h.bel, Chg.refl _ _⟩
theorem QB.took {w wr w' : World} {p T T' n B : Nat} {cv : Value} {c : List Nat} {R : RL} (h : QB w wr p cv c T R n B) (hs : QS wr w' p cv c T') : QB w w' p cv c T' R n B :=
  ⟨hs.rd, h.sl, h.bm.chg hs.chg fun b hb => (h.lN b hb).2, h.bel.trans (hs.chg.below h.bel.size fun b e => by rw [e]; exact h.pN), h.pN, h.lN⟩
theorem QB.set {w wr w' : World} {p T n B B' : Nat} {cv : Value} {c : List Nat} {R : RL} (h : QB w wr p cv c T R n B) (hb : RRep w' R n B') (hc : Chg R.U wr w') : QB w w' p cv c T R n B' := by
  refine ⟨?_, h.sl, hb, h.bel.trans (hc.below h.bel.size fun b hU => (h.lN b hU).1), h.pN, h.lN⟩
  exact (hc.keep p (Array.getElem?_eq_some_iff.1 h.rd).1 fun hU => (h.lN p hU).2 rfl).trans h.rd
theorem QB.c1 {w wr : World} {p T n B : Nat} {cv : Value} {c : List Nat} {R : RL} (h : QB w wr p cv c T R n B) : wr.cell? ⟨p, 1, none⟩ = some (.int .i64 (T : Int)) := cell_of_row _ _ _ _ _ _ h.rd
theorem put_as {s : Bool} {B pl x : Nat} (hB : B < 2 ^ pl) : putR s B pl (pl + x) = (if s then setR B pl (pl + x) else B) ∧ (if s then setR B pl (pl + x) else B) < 2 ^ (pl + x) := by
  have h1 : putR s B pl (pl + x) = (if s then setR B pl (pl + x) else B) := by
    cases s
    · refine Nat.eq_of_testBit_eq fun i => ?_
      rw [testBit_putR]
      split
      · rename_i h
        rw [if_neg (by simp), Nat.testBit_lt_two_pow (Nat.lt_of_lt_of_le hB (Nat.pow_le_pow_right (by decide) h.1))]
      · rw [if_neg (by simp)]
    · rfl
  refine ⟨h1, ?_⟩
  rw [← h1]
  exact putR_lt (Nat.lt_of_lt_of_le hB (Nat.pow_le_pow_right (by decide) (by omega))) (Nat.le_refl _)
/-- what the document's Decode hands back -/
def DcR (w : World) (n : Nat) (q : Option Nat × Nat) (e : Ending) (w' : World) : Prop := match q.1 with
  | some B => ∃ v', e = .returned (.tuple #[v', .int .i64 0, .int .i64 0]) ∧ WSl w' v' (wds B (nW n)) ∧ Below w.heap.size w w' ∧ (∀ b, blockOf v' = some b → w.heap.size ≤ b)
  | none => e = .returned (.tuple #[.slice none 0 0, .int .i64 (q.2 : Nat), .int .i64 31]) ∧ Below w.heap.size w w'
theorem rdecode_no {w : World} (n : Int) (cv : Value) (hcv : ∃ a m k, cv = .slice a m k) (h : ¬ (1 ≤ n ∧ n ≤ 65536)) : Calls Try.prog 6 #[.int .i64 n, cv] w fun e w' => e = .returned (.tuple #[.slice none 0 0, .int .i64 0, .int .i64 1]) ∧ w' = w := by
  have HN := hide (rNew_no w n h)
  obtain ⟨a, m, k, rfl⟩ := hcv
  go_enter Try.func6, Try.ntmps6
  go_wp2_with (go_at_call 17; refine HN.out.mono ?_; rintro e w' ⟨rfl, hw⟩; have hw2 := hw.symm; clear hw; subst hw2)
  refine bodyPost_ret (results_tmp3 rfl _ _ _) rfl ?_
  exact ⟨rfl, rfl⟩
theorem pl_w {T : Nat} (h1 : 1 ≤ T) (h : T < 4611686018427387904) : IntKind.i64.wrap ((IntKind.i64.wrap ((T : Int) - 1)).tdiv 8) = (((T - 1) / 8 : Nat) : Int) := by
  have e : IntKind.i64.wrap ((T : Int) - 1) = ((T - 1 : Nat) : Int) := by rw [IntKind.wrap_i64]; omega
  rw [e, Int.tdiv_eq_ediv_of_nonneg (by omega), IntKind.wrap_i64]
  omega
theorem pl_w0 {T : Nat} (h : T < 4611686018427387904) : IntKind.i64.wrap ((T : Int).tdiv 8) = ((T / 8 : Nat) : Int) := by
  rw [Int.tdiv_eq_ediv_of_nonneg (by omega), IntKind.wrap_i64]
  omega
theorem pl_w1 {T : Nat} (h : T < 4611686018427387904) : IntKind.i64.wrap ((IntKind.i64.wrap (T : Int)).tdiv 8) = ((T / 8 : Nat) : Int) := by
  have e : IntKind.i64.wrap (T : Int) = (T : Int) := by rw [IntKind.wrap_i64]; omega
  rw [e]
  exact pl_w0 h
theorem pl_w2 {T : Nat} (h : T < 4611686018427387904) : IntKind.i64.wrap ((T : Int) / 8) = ((T / 8 : Nat) : Int) := by
  rw [IntKind.wrap_i64]
  omega
set_option maxHeartbeats 2000000 in
theorem rdecode_any {w : World} {n : Nat} {cv : Value} {c : List Nat} (h1 : 1 ≤ n) (h2 : n ≤ 65536) (hc : CSl w cv c) (hl : c.length ≤ 150000000000000) :
    Calls Try.prog 6 #[.int .i64 (n : Int), cv] w (DcR w n (dOut n c)) := by
  have HN := hide (rNew_any w n h1 h2)
  have HST : Hid (∀ w1 R, RNewAt w w1 R n 0 → QB w (w1.alloc (.cells #[cv, .int .i64 0] 53)) w1.heap.size cv c 0 R n 0) := hide fun w1 R hN => by
    obtain ⟨hb, hbl, hu⟩ := hN
    refine ⟨Go.heap_alloc_new w1 _, hc, hb.below ((Below.refl _ _).alloc (Nat.le_refl _) _), hbl.alloc hbl.size _, hbl.size, fun b hU => ⟨hu b hU, fun e => ?_⟩⟩
    have := hb.uLt b hU
    omega
  cases hcc : c with
  | nil =>
    subst hcc
    have HQ : Hid (dOut n [] = (none, 0)) := hide (dOut_no (n := n) (c := []) (k := 1) rfl)
    obtain ⟨a, cap, rfl, -⟩ := hc
    go_enter Try.func6, Try.ntmps6
    go_wp2_with (go_at_call 17; refine HN.out.mono ?_; clear HN; rintro e w1 ⟨R, rfl, hN⟩; have HS := hide (HST.out w1 R hN); clear hN HST; unfold PR)
    refine bodyPost_ret (results_tmp3 rfl _ _ _) rfl ?_
    rw [HQ.out]
    exact ⟨rfl, HS.out.bel⟩
  | cons c0 cr =>
    rw [← hcc]
    have hpos : 0 < c.length := by rw [hcc]; simp
    clear hcc
    have hst := stt_start (n := n) c
    obtain ⟨d0, hd0⟩ : ∃ d, digs c = d :: (digs c).drop 1 := by
      rcases digs_cases c 0 with h | ⟨d, h⟩
      · rw [List.drop_zero] at h
        have := digs_len c
        rw [h] at this
        simp at this
        omega
      · rw [List.drop_zero] at h
        exact ⟨d, h⟩
    have hds : (dgR (digs c)).2 = some d0 := by rw [hd0]; rfl
    rw [hds] at hst
    simp only [Option.isSome, Option.getD] at hst
    obtain ⟨R, hR⟩ : ∃ R, readR n (digs c) = R := ⟨_, rfl⟩
    have HNO : Hid (∀ k, R = (k, none) → dOut n c = (none, (k - 1) / 8)) := hide fun k h => dOut_no (hR.trans h)
    have HSO : Hid (∀ k B, R = (k, some B) → k ≤ 8 * c.length → dOut n c = if endB c k = true then (some B, 0) else (none, (endT c k - 1) / 8)) := hide fun k B h hk => dOut_some (hR.trans h) hk
    rw [hR] at hst
    have HSTT := hide hst
    have HDG := hide fun (W : World) (p : Nat) (RR : RL) (h : QB w W p cv c 0 RR n 0) => h.qs.digit (by decide) (show (digs c).drop 0 = _ by rw [List.drop_zero]; exact hd0)
    have HLEN := hide hl
    have hci : ((c.length : Int) == 0) = false := beq_eq_false_iff_ne.2 (by omega)
    obtain ⟨Q, hQ⟩ : ∃ Q, dOut n c = Q := ⟨_, rfl⟩
    rw [hQ] at HNO HSO ⊢
    have HPOS := hide hpos
    obtain ⟨a, cap, rfl, -⟩ := hc
    clear hst hds hd0 hR hQ hl hpos
    go_enter Try.func6, Try.ntmps6
    go_wp2_with (first
      | (go_at_call 17; refine HN.out.mono ?_; clear HN; rintro e w1 ⟨RR, rfl, hN⟩; have HS := hide (HST.out w1 RR hN); clear hN HST; unfold PR; have HD := hide (HDG.out _ _ _ HS.out); clear HDG)
      | (go_at_call 18; refine HD.out.mono ?_; clear HD; rintro e w2 ⟨rfl, h8⟩; have H8 := hide (HS.out.took h8); clear h8 HS))
    go_loopw [10, 11] (fun z y wr => ∃ (s : Bool) (pl T B : Nat), z = .bool s ∧ y = .int .i64 (pl : Int) ∧ pl ≤ n ∧ Hid (T ≤ 8 * c.length ∧ 1 ≤ T) ∧ Hid (B < 2 ^ pl) ∧ Hid (QB w wr w1.heap.size (.slice a c.length cap) c T RR n B) ∧ Hid (Stt R n true s pl T B c)) (fun _ y _ => n - (intOf y).toNat)
    case atStart => exact ⟨d0, 0, 1, 0, rfl, rfl, by omega, hide ⟨by have := HPOS.out; omega, Nat.le_refl _⟩, hide (by decide), H8, HSTT⟩
    case round =>
      clear HSTT H8
      obtain ⟨s, pl, T, B, rfl, rfl, hpl, HT, HBL, HB, HS⟩ := hrel
      by_cases hlt : pl < n
      · have hli : (pl : Int) < (n : Int) := by omega
        have hsub : (n : Int) - (pl : Int) = ((n - pl : Nat) : Int) := by omega
        have HNU := hide (rnumber_any HB.out.qs HLEN.out HT.out.1 (n - pl) (by omega) (by omega))
        obtain ⟨hgo1, hgo2⟩ := stt_go HS.out hlt
        have HG1 := hide hgo1
        have HG2 := hide hgo2
        have hle : ∀ k x, stR (n - pl) ((digs c).drop T) = (k, some x) → 1 ≤ x ∧ pl + x ≤ n ∧ T + k ≤ 8 * c.length := fun k x hk => by
          have h1 := st_le (by omega) hk
          have h2 := (good_st (n - pl)).sle _ _ _ hk
          rw [List.length_drop, digs_len] at h2
          have := HT.out.1
          omega
        have hle2 : T + (stR (n - pl) ((digs c).drop T)).1 ≤ 8 * c.length + 1 := by
          have := HT.out.1
          have h2 := (good_st (n - pl)).le ((digs c).drop T)
          rw [List.length_drop, digs_len] at h2
          omega
        have HLE := hide hle
        have HLE2 := hide hle2
        clear hgo1 hgo2 hle hle2 HS
        generalize stR (n - pl) ((digs c).drop T) = q at *
        obtain ⟨k, o⟩ := q
        cases o with
        | none =>
          unfold NuP at HNU
          simp only [Option.getD, Option.isNone, Bool.true_and] at HNU
          have HQN : Hid (Q = (none, (T + k - 1) / 8)) := hide (HNO.out _ (by have := HG1.out k rfl; unfold Stt at this; rw [if_neg (by simp)] at this; exact this))
          clear HG1 HG2 HLE HNO HSO
          obtain ⟨V, hV⟩ : ∃ V, T + k = V := ⟨_, rfl⟩
          rw [hV] at HQN HNU
          have hV1 : 1 ≤ V := by have := HT.out.2; omega
          have HVL : Hid (V ≤ 8 * c.length + 1) := hide (by have := HLE2.out; simp only at this; omega)
          clear hV HLE2
          by_cases hbad : V ≤ 8 * c.length
          · rw [decide_eq_true hbad] at HNU
            have HBD := hide hbad
            have hVb : V < 4611686018427387904 := by have := HLEN.out; omega
            have hdv : ((V : Int) - 1) / 8 = (((V - 1) / 8 : Nat) : Int) := by omega
            clear hbad
            go_wp2_with (go_at_call 19; refine HNU.out.mono ?_; clear HNU; rintro e w3 ⟨rfl, T', h8, hT'⟩; obtain rfl := hT' HBD.out; have H8 := hide (HB.out.took h8); have k1 := H8.out.c1; clear h8 hT')
            go_region_held3 (fun w' => w'.cell? ⟨w1.heap.size, 1, none⟩ = some (.int .i64 (T' : Int))) (first | assumption | go_keep) (fail)
            go_wp2_with fail
            rw [pl_w hV1 hVb]
            refine bodyPost_ret (results_tmp3 rfl _ _ _) rfl ?_
            rw [HQN.out]
            exact ⟨rfl, H8.out.bel.drew⟩
          · rw [decide_eq_false hbad] at HNU
            have HLL : Hid ((V - 1) / 8 = c.length) := hide (by have := HVL.out; omega)
            clear hbad
            go_wp2_with (go_at_call 19; refine HNU.out.mono ?_; clear HNU; rintro e w3 ⟨rfl, T', h8, hT'⟩; have H8 := hide (HB.out.took h8); clear h8 hT')
            refine bodyPost_ret (results_tmp3 rfl _ _ _) rfl ?_
            rw [HQN.out, HLL.out]
            exact ⟨rfl, H8.out.bel⟩
        | some x =>
          unfold NuP at HNU
          simp only [Option.getD, Option.isNone, Bool.false_and] at HNU
          have HS2 := hide (HG2.out k x rfl)
          obtain ⟨x1, x2, x3⟩ := HLE.out k x rfl
          have HX3 := hide x3
          have hx0 : ((x : Int) == 0) = false := beq_eq_false_iff_ne.2 (by omega)
          have HPA := hide (put_as (s := s) (x := x) HBL.out)
          clear HG1 HG2 HLE HLE2 x3
          go_wp2_with (first
            | (go_at_call 19; refine HNU.out.mono ?_; clear HNU; rintro e w3 ⟨rfl, T', h8, hT'⟩; obtain rfl := hT' HX3.out; have H8 := hide (HB.out.took h8); have HPR := hide (rPutRange_any (a := pl) (c := x) H8.out.bm s x2); unfold PR at HPR; clear h8 hT')
            | (go_at_call 20; refine HPR.out.mono ?_; clear HPR; rintro e w9 ⟨rfl, hb9, hc9⟩; have H9 := hide (H8.out.set (hb9.bits HPA.out.1) hc9); clear hb9 hc9))
          go_roundw
          case rel => exact ⟨!s, pl + x, T + k, _, rfl, by go_num, x2, hide ⟨HX3.out, by have := HT.out.2; omega⟩, hide HPA.out.2, H9, HS2⟩
          case measure => simp [intOf]; omega
      · have hli : ¬ (pl : Int) < (n : Int) := by omega
        have HR2 := hide (stt_end HS.out hlt)
        have HQ2 := hide (HSO.out T B HR2.out HT.out.1)
        clear HS HNO HSO HR2
        go_wp2_with fail
        go_loopw [] (fun wr => ∃ T' : Nat, Hid (T' ≤ 8 * c.length ∧ 1 ≤ T') ∧ Hid (QB w wr w1.heap.size (.slice a c.length cap) c T' RR n B) ∧ Hid (endB c T = endB c T' ∧ endT c T = endT c T')) (fun wr => match wr.cell? ⟨w1.heap.size, 1, none⟩ with | some (.int _ x) => (8 * c.length - x.toNat) | _ => 0)
        case atStart => exact ⟨T, HT, HB, hide ⟨rfl, rfl⟩⟩
        case round =>
          clear HT HB hlt hli
          obtain ⟨T', HT, HB, HE⟩ := hrel
          have k1 := HB.out.c1
          have hTb : T' < 4611686018427387904 := by have := HT.out.1; have := HLEN.out; omega
          by_cases h8 : T' % 8 = 0
          · obtain ⟨e1, e2⟩ := end_zero (c := c) h8
            have h8i : (T' : Int) % 8 = 0 := by omega
            by_cases hin : T' / 8 < c.length
            · have HQN : Hid (Q = (none, T' / 8)) := hide (by
                rw [HQ2.out, HE.out.1, HE.out.2, e1, e2, if_neg (by simp [hin])]
                rfl)
              have hini : (T' : Int) / 8 < (c.length : Int) := by omega
              clear e1 e2 HE hin h8 HQ2
              go_wp2_with fail
              go_region_held3 (fun w' => w'.cell? ⟨w1.heap.size, 1, none⟩ = some (.int .i64 (T' : Int))) (first | assumption | go_keep) (fail)
              go_wp2_with fail
              rw [pl_w2 hTb]
              refine bodyPost_ret (results_tmp3 rfl _ _ _) rfl ?_
              rw [HQN.out]
              exact ⟨rfl, HB.out.bel.drew⟩
            · have HQN : Hid (Q = (some B, 0)) := hide (by
                rw [HQ2.out, HE.out.1, e1, if_pos (by simp [hin])])
              have hini : ¬ (T' : Int) / 8 < (c.length : Int) := by omega
              have HWD := hide (rWords_any HB.out.bm)
              unfold PR at HWD
              have HNW : Hid (nW n ≤ 1000000) := hide (by unfold nW; omega)
              clear e1 e2 HE hin h8 HQ2
              go_wp2_with (go_at_call 21; refine HWD.out.mono ?_; clear HWD; rintro e w4 ⟨v4, rfl, hw4⟩; have HS4 := hide (hw4.wsl HNW.out); have HB4 := hide (HB.out.bel.trans (hw4.2.2.mono HB.out.bel.size)); have HBO : Hid (∀ b, blockOf v4 = some b → w.heap.size ≤ b) := hide (by rw [hw4.1]; intro b e; simp [blockOf] at e; subst e; exact HB.out.bel.size); clear hw4)
              refine bodyPost_ret (results_tmp3 rfl _ _ _) rfl ?_
              rw [HQN.out]
              exact ⟨_, rfl, HS4.out, HB4.out, HBO.out⟩
          · have hin : T' / 8 < c.length := by have := HT.out.1; omega
            have h8i : ((T' : Int) % 8 == 0) = false := by simp; omega
            have hdrop := digs_drop_get hin
            have HT2 : Hid (T' + 1 ≤ 8 * c.length) := hide (by have := HT.out.1; omega)
            cases hd : (c.getD (T' / 8) 0).testBit (7 - T' % 8) with
            | true =>
              rw [hd] at hdrop
              obtain ⟨e1, e2⟩ := end_one h8 _ hdrop
              have HQN : Hid (Q = (none, T' / 8)) := hide (by
                rw [HQ2.out, HE.out.1, HE.out.2, e1, e2, if_neg (by simp)]
                rfl)
              have HD := hide (HB.out.qs.digit hTb hdrop)
              have hV1 : 1 ≤ T' + 1 := by omega
              have hVb : T' + 1 < 4611686018427387904 := by have := HT2.out; have := HLEN.out; omega
              clear e1 e2 HE hd hdrop h8 HQ2 hin
              go_wp2_with (go_at_call 18; refine HD.out.mono ?_; clear HD; rintro e w5 ⟨rfl, h9⟩; have H9 := hide (HB.out.took h9); have k2 := H9.out.c1; clear h9)
              go_region_held3 (fun w' => w'.cell? ⟨w1.heap.size, 1, none⟩ = some (.int .i64 ((T' + 1 : Nat) : Int))) (first | assumption | go_keep) (fail)
              go_wp2_with fail
              rw [pl_w1 hTb]
              refine bodyPost_ret (results_tmp3 rfl _ _ _) rfl ?_
              rw [HQN.out]
              exact ⟨rfl, H9.out.bel.drew⟩
            | false =>
              rw [hd] at hdrop
              obtain ⟨e1, e2⟩ := end_go h8 hdrop
              have HE2 : Hid (endB c T = endB c (T' + 1) ∧ endT c T = endT c (T' + 1)) := hide ⟨HE.out.1.trans e1, HE.out.2.trans e2⟩
              have HD := hide (HB.out.qs.digit hTb hdrop)
              clear e1 e2 HE hd hdrop h8 HQ2 hin
              go_wp2_with (go_at_call 18; refine HD.out.mono ?_; clear HD; rintro e w' ⟨rfl, h9⟩; have H9 := hide (HB.out.took h9); clear h9)
              go_roundw
              case rel => exact ⟨T' + 1, hide ⟨HT2.out, by omega⟩, H9, HE2⟩
              case measure =>
                have c2 := H9.out.c1
                rw [k1, c2]
                have := HT2.out
                show 8 * c.length - (((T' + 1 : Nat) : Int)).toNat < 8 * c.length - ((T' : Int)).toNat
                omega
end Go.Proofs.Ytglajdmkbckjjab
