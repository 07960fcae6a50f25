import Derived.Test.YtijfnacplikibabKAcq
import Derived.Test.YtijfnacplikibabKPush
import Derived.Test.YtijfnacplikibabKAppI
namespace Go.Proofs.Ytijfnacplikibab
open Go.RowKit
set_option linter.unusedVariables false
set_option linter.unusedSimpArgs false
set_option maxRecDepth 20000

/-- behind the owner's leaving: who comes in, and the lists -/
def relK (L : Nat → List (Int × Int)) (e : Nat) (o : Int) : Nat := lin (leaveL L e o (e * 2)) (leaveL L e o (e * 2 + 1))
def relIn (L : Nat → List (Int × Int)) (e : Nat) (o : Int) : List Int := ((leaveL L e o (e * 2 + 1)).take (relK L e o)).map Prod.fst
def relL (L : Nat → List (Int × Int)) (e : Nat) (o : Int) : Nat → List (Int × Int) :=
  upd (upd (leaveL L e o) (e * 2) (leaveL L e o (e * 2) ++ (leaveL L e o (e * 2 + 1)).take (relK L e o))) (e * 2 + 1) ((leaveL L e o (e * 2 + 1)).drop (relK L e o))
theorem rem_len_le (l : List (Int × Int)) (o : Int) : (rem l o).length ≤ l.length := by
  unfold rem
  simp
  omega
theorem leaveL_len (L : Nat → List (Int × Int)) (e : Nat) (o : Int) (k : Nat) : (leaveL L e o k).length ≤ (L k).length := by
  unfold leaveL
  split
  · by_cases h : k = e * 2
    · rw [h, upd_same]; exact rem_len_le _ _
    · rw [upd_other _ _ _ h]; exact Nat.le_refl _
  · split
    · by_cases h : k = e * 2 + 1
      · rw [h, upd_same]; exact rem_len_le _ _
      · rw [upd_other _ _ _ h]; exact Nat.le_refl _
    · exact Nat.le_refl _
set_option maxHeartbeats 2000000 in
theorem rel_no (w : World) (p b : Nat) (m : Int) (n : Nat) (V : Nat → Value) (L : Nat → List (Int × Int)) (ws wt : Int) (r : Nat) (o md : Int) (gr : Bool) (tv : Value) (nu : Int) (e : Nat) (h : TRep w p b m n V L ws wt) (q : QRep w r p e o md gr tv nu) (he : e < n) (hb : ∀ k, (L k).length ≤ 8000000000000) (hh : (has (L (e * 2)) o || has (L (e * 2 + 1)) o) = false) :
    Calls Try.prog 37 #[.pointer (some ⟨r, 0, none⟩)] w fun e' w' => e' = .returned (.int .i64 92) ∧ ∃ V', TRep w' p b m n V' L ws wt ∧ QRep w' r p e o md gr tv nu ∧ Tr (· = r) w w' (TU p b n V) (TU p b n V') := by
  have HX := hide (exists_any w p b m n V L ws wt r e o md gr tv nu h q)
  have hee : (decide (0 ≤ (e : Int)) && decide ((e : Int) < (n : Int))) = true := by simp; omega
  rw [hee] at HX
  have HA := hide fun x (hx : Below w.heap.size w x) => ac_of (h.below hx) (q.kept (hx.block r q.lt))
  have HLV := hide fun x (hx : Below w.heap.size w x) => leave_any x p b m n V L ws wt e o (h.below hx) he hb
  have el : leaveL L e o = L := by
    unfold leaveL
    rw [Bool.or_eq_false_iff] at hh
    rw [if_neg (by rw [hh.1]; simp), if_neg (by rw [hh.2]; simp)]
  rw [hh, el] at HLV
  have HRQ := hide fun x (hx : Below w.heap.size w x) => (⟨q.kept (hx.block r q.lt), (h.below hx).rq (q.kept (hx.block r q.lt))⟩ : QRep x r p e o md gr tv nu ∧ ¬ TU p b n V r)
  obtain ⟨ar, cr, er, hr1, hr2⟩ := rowForm (h.own (e * 2 + 1) (by omega))
  have HRW : Hid (∀ x, Below w.heap.size w x → x.cell? ⟨b, e * 2 + 1, none⟩ = some (.slice ar (L (e * 2 + 1)).length cr)) := hide fun x hx => by rw [← er]; exact (h.below hx).lc (by omega)
  have hi : 0 ≤ (e : Int) ∧ (e : Int) < (n : Int) := ⟨by omega, by omega⟩
  clear h q hee hh el
  go_enter Try.func37, Try.ntmps37
  go_wp2_with (go_at_call 45; refine HX.out.mono ?_; rintro e' w2 ⟨rfl, hw2⟩; have HB2 := hide hw2; obtain ⟨g0, g1, g2, g3, g4, g5, g6⟩ := HA.out _ hw2; clear HX hw2)
  go_quiet (fail)
  have HB3 := hide (below_drewN HB2.out nq)
  generalize w2.drewN nq = w3 at *
  obtain ⟨k0, k1, k2, k3, k4, k5, k6⟩ := HA.out _ HB3.out
  have n1 := HRW.out _ HB3.out
  go_wp2_with (go_at_call 49; refine (HLV.out _ HB3.out).mono ?_; rintro e' w4 ⟨rfl, V4, hT4, hTr4⟩; obtain ⟨hq3, hr3⟩ := HRQ.out _ HB3.out; have HT4 := hide hT4; have HR4 := hide hTr4; have HQ4 := hide (hq3.kept (hTr4.chg.keep r hq3.lt fun hu => hu.elim hr3 id)); clear hT4 hTr4 hq3 hr3 HLV)
  go_ret
  exact ⟨rfl, V4, HT4.out, HQ4.out, (Tr.ofBelow HB3.out).trans (HR4.out.mono fun g h => h.elim)⟩
theorem relL_len (L : Nat → List (Int × Int)) (e : Nat) (o : Int) (k : Nat) (hk : k ≠ e * 2) : (relL L e o k).length ≤ (L k).length := by
  unfold relL
  by_cases h : k = e * 2 + 1
  · rw [h, upd_same, List.length_drop]
    have := leaveL_len L e o (e * 2 + 1)
    omega
  · rw [upd_other _ _ _ h, upd_other _ _ _ hk]
    exact leaveL_len L e o k
theorem TRep.nt {w : World} {p b : Nat} {m : Int} {n : Nat} {V : Nat → Value} {L : Nat → List (Int × Int)} {ws wt : Int} (h : TRep w p b m n V L ws wt) {g : Nat} {cs : Array Value} {t : TypeId} (hg : w.heap[g]? = some (.cells cs t (0, 0))) (h1 : t ≠ 70) (h2 : t ≠ 89) (h3 : t ≠ 75) : ¬ TU p b n V g := by
  obtain ⟨A, hA, -, -⟩ := h.arr
  rintro (rfl | rfl | ⟨k, hk, e⟩)
  · exact neType hg h.row h1 rfl
  · exact neType hg hA h2 rfl
  · obtain ⟨cs', hc⟩ := rowCells (h.own k hk) e
    exact neType hg hc h3 rfl
theorem TRep.irow {w w' : World} {p b : Nat} {m : Int} {n : Nat} {V V' : Nat → Value} {L : Nat → List (Int × Int)} {ws wt : Int} (h : TRep w p b m n V L ws wt) {v : Value} {l : List Int} (hv : IRow w v l) (htr : Tr (fun _ => False) w w' (TU p b n V) (TU p b n V')) : IRow w' v l :=
  hv.kept fun g hg => htr.chg.keep g (hv.lt hg) fun hu => hu.elim (by
    obtain ⟨cs, hc⟩ := rowCells hv hg
    exact h.nt hc (by decide) (by decide) (by decide)) id
theorem TRep.qrow {w w' : World} {p b : Nat} {m : Int} {n : Nat} {V V' : Nat → Value} {L : Nat → List (Int × Int)} {ws wt : Int} (h : TRep w p b m n V L ws wt) {r p' : Nat} {e o md : Int} {gr : Bool} {tv : Value} {nu : Int} (q : QRep w r p' e o md gr tv nu) (htr : Tr (fun _ => False) w w' (TU p b n V) (TU p b n V')) : QRep w' r p' e o md gr tv nu :=
  q.kept (htr.chg.keep r q.lt fun hu => hu.elim (h.rq q) id)
/-- behind the append of those who came in: the request's list is stored -/
theorem rel_tail {w w' : World} {p b : Nat} {m : Int} {n : Nat} {V : Nat → Value} {L : Nat → List (Int × Int)} {ws wt : Int} {r p' : Nat} {e o md : Int} {gr : Bool} {tv : Value} {nu : Int} {v v' : Value} {l tl tl' : List Int} (h : TRep w p b m n V L ws wt) (q : QRep w r p' e o md gr tv nu) (hi : IRow w v l) (ht : IRow w tv tl) (hv : IRow w' v' tl') (ha : App w w' tv v') :
    (w'.cell? ⟨r, 5, none⟩ = some tv ∧ w'.frozen? ⟨r, 5, none⟩ = false) ∧ TRep (w'.setCell ⟨r, 5, none⟩ v') p b m n V L ws wt ∧ QRep (w'.setCell ⟨r, 5, none⟩ v') r p' e o md gr v' nu ∧ IRow (w'.setCell ⟨r, 5, none⟩ v') v' tl' ∧ Chg (fun g => g = r ∨ tv.ownBlock = some g) w (w'.setCell ⟨r, 5, none⟩ v') ∧ ∀ g, v'.ownBlock = some g → tv.ownBlock = some g ∨ w.heap.size ≤ g := by
  have hrt : tv.ownBlock ≠ some r := fun e => by
    obtain ⟨cs, hc⟩ := rowCells ht e
    exact neType hc q.row (by decide) rfl
  have hq := q.kept (ha.chg.keep r q.lt hrt)
  have hT : TRep w' p b m n V L ws wt := h.kept fun g hg => ha.chg.keep g (h.lt g hg) fun e => by
    obtain ⟨cs, hc⟩ := rowCells ht e
    exact h.nt hc (by decide) (by decide) (by decide) hg
  refine ⟨⟨hq.c 5, hq.f 5⟩, hT.req (hT.rq hq) 5 v', hq.told v', hv.kept fun g hg => Go.heap_setCell_other _ _ _ _ (show g ≠ r from fun e => ?_), (ha.chg.mono fun g _ e => .inr e).set r 5 v' (.inl (.inl rfl)), ha.loc⟩
  obtain ⟨cs, hc⟩ := rowCells hv hg
  exact neType hc hq.row (by decide) e
set_option maxHeartbeats 2000000 in
theorem rel_yes (w : World) (p b : Nat) (m : Int) (n : Nat) (V : Nat → Value) (L : Nat → List (Int × Int)) (ws wt : Int) (r : Nat) (o md : Int) (gr : Bool) (tv : Value) (tl : List Int) (nu : Int) (e : Nat) (h : TRep w p b m n V L ws wt) (q : QRep w r p e o md gr tv nu) (ht : IRow w tv tl) (he : e < n) (hb : ∀ k, (L k).length ≤ 4000000000000) (htl : tl.length ≤ 1000000) (hr : (L (e * 2 + 1)).length ≤ 1000) (hwt : ((L (e * 2 + 1)).length : Int) ≤ wt ∧ wt ≤ 1000) (hh : (has (L (e * 2)) o || has (L (e * 2 + 1)) o) = true) :
    Calls Try.prog 37 #[.pointer (some ⟨r, 0, none⟩)] w fun e' w' => e' = .returned (.int .i64 0) ∧ ∃ V' tv', TRep w' p b m n V' (relL L e o) ws (wt - (((L (e * 2 + 1)).length : Int) - ((relL L e o (e * 2 + 1)).length : Int))) ∧ QRep w' r p e o md gr tv' nu ∧ IRow w' tv' (tl ++ relIn L e o) ∧ (∀ g, tv'.ownBlock = some g → tv.ownBlock = some g ∨ w.heap.size ≤ g) ∧ Tr (fun g => g = r ∨ tv.ownBlock = some g) w w' (TU p b n V) (TU p b n V') := by
  have HX := hide (exists_any w p b m n V L ws wt r e o md gr tv nu h q)
  have hee : (decide (0 ≤ (e : Int)) && decide ((e : Int) < (n : Int))) = true := by simp; omega
  rw [hee] at HX
  have HA := hide fun x (hx : Below w.heap.size w x) => ac_of (h.below hx) (q.kept (hx.block r q.lt))
  have HLV := hide fun x (hx : Below w.heap.size w x) => leave_any x p b m n V L ws wt e o (h.below hx) he fun k => by have := hb k; omega
  rw [hh] at HLV
  obtain ⟨ar, cr, er, hr1, hr2⟩ := rowForm (h.own (e * 2 + 1) (by omega))
  have HRW : Hid (∀ x, Below w.heap.size w x → x.cell? ⟨b, e * 2 + 1, none⟩ = some (.slice ar (L (e * 2 + 1)).length cr)) := hide fun x hx => by rw [← er]; exact (h.below hx).lc (by omega)
  have hi : 0 ≤ (e : Int) ∧ (e : Int) < (n : Int) := ⟨by omega, by omega⟩
  have l0 := leaveL_len L e o (e * 2)
  have l1 := leaveL_len L e o (e * 2 + 1)
  have HLI := hide fun x V' (hx : TRep x p b m n V' (leaveL L e o) ws wt) => letIn_any x p b m n V' (leaveL L e o) ws wt e hx he (by have := hb (e * 2); have := hb (e * 2 + 1); omega)
  clear hee hh
  have HT := hide h
  have HQ := hide q
  have HTV := hide ht
  clear h q ht
  go_enter Try.func37, Try.ntmps37
  go_wp2_with (go_at_call 45; refine HX.out.mono ?_; rintro e' w2 ⟨rfl, hw2⟩; have HB2 := hide hw2; obtain ⟨g0, g1, g2, g3, g4, g5, g6⟩ := HA.out _ hw2; clear HX hw2)
  go_quiet (fail)
  have HB3 := hide (below_drewN HB2.out nq)
  generalize w2.drewN nq = w3 at *
  obtain ⟨k0, k1, k2, k3, k4, k5, k6⟩ := HA.out _ HB3.out
  have n1 := HRW.out _ HB3.out
  go_wp2_with (go_at_call 49; refine (HLV.out _ HB3.out).mono ?_; rintro e' w4 ⟨rfl, V4, hT4, hTr4⟩; have HT4 := hide hT4; have HR4 := hide ((Tr.ofBelow HB3.out).trans hTr4); clear hT4 hTr4 HLV)
  have HQ4 := hide (HT.out.qrow HQ.out HR4.out)
  have HV4 := hide (HT.out.irow HTV.out HR4.out)
  have HTD : Hid (TRep w4.drew p b m n V4 (leaveL L e o) ws wt) := hide (HT4.out.kept fun _ _ => rfl)
  have s5 := HQ4.out.c 5
  simp at s5
  go_region_law (first
    | (refine step_callTo rfl 50 #[.pointer (some ⟨b, e * 2, none⟩)] (by kernel_rfl) (HLI.out _ _ HTD.out) (fun e w' h => by obtain ⟨v, V', rfl, _⟩ := h; exact ⟨_, rfl⟩) ?_; rintro v5 w5 ⟨v, V5, hv5, hi5, hl5, hT5, hTr5⟩; injection hv5 with hv5; subst hv5; have HI5 := hide hi5; have HL5 := hide hl5; have HT5 := hide hT5; have HR5 := hide hTr5; have HQ5 := hide (HTD.out.qrow (w' := w5) (HQ4.out.kept rfl) hTr5); have HV5 := hide (HTD.out.irow (w' := w5) (HV4.out.kept fun _ _ => rfl) hTr5); have t5 := HQ5.out.c 5; simp at t5; clear hi5 hl5 hT5 hTr5)
    | (refine step_appendI rfl (.tmp 37) (.tmp 39) rfl tv v5 tl _ rfl rfl HV5.out HI5.out (by simp; omega) ?_; intro v6 w6 hi6 ha6; have HY := hide (rel_tail HT5.out HQ5.out HI5.out HV5.out hi6 ha6); obtain ⟨r6, f6⟩ := HY.out.1; obtain ⟨a6, c6, e6, -, -⟩ := rowForm hi6; generalize List.length _ = q6 at e6; subst e6; clear hi6 ha6))
  all_goals
    generalize w6.setCell ⟨r, 5, none⟩ (.slice a6 q6 c6) = w7 at *
    obtain ⟨-, hT7, hQ7, hI7, hC7, hL7⟩ := HY.out
    change TRep w7 p b m n V5 (relL L e o) ws wt at hT7
    change IRow w7 _ (tl ++ relIn L e o) at hI7
    have hrl := relL_len L e o (e * 2 + 1) (by omega)
    have HT7 := hide hT7
    have HQ7 := hide hQ7
    have HI7 := hide hI7
    have HC7 := hide hC7
    have HL7 := hide hL7
    have HIP := hide fun g (hg : (Value.slice a6 q6 c6).ownBlock = some g) => (rowCells hI7 hg).elim fun cs hc => neType hc hT7.row (by decide)
    obtain ⟨x0, -, -, -, x2, x3, x4⟩ := ac_of hT7 hQ7
    obtain ⟨a8, c8, e8, -, -⟩ := rowForm (hT7.own (e * 2 + 1) (by omega))
    have x5 := hT7.lc (k := e * 2 + 1) (by omega)
    rw [e8] at x5
    have fx := hT7.f 4
    have HT8 := hide (hT7.wait (wt - (((L (e * 2 + 1)).length : Int) - ((relL L e o (e * 2 + 1)).length : Int))))
    generalize hq0 : (L (e * 2 + 1)).length = q0 at *
    generalize hq8 : (relL L e o (e * 2 + 1)).length = q8 at *
    have HQ0 := hide hq0
    have HQ8 := hide hq8
    clear hq0 hq8
    have hw1 : IntKind.i64.wrap ((q0 : Int) - (q8 : Int)) = (q0 : Int) - (q8 : Int) := by simp [IntKind.wrap, IntKind.bits, IntKind.signed]; omega
    have hw2 : IntKind.i64.wrap (wt - ((q0 : Int) - (q8 : Int))) = wt - ((q0 : Int) - (q8 : Int)) := by simp [IntKind.wrap, IntKind.bits, IntKind.signed]; omega
    have HRP : Hid (r ≠ p) := hide fun e => hT7.rq hQ7 (.inl e)
    clear hT7 hQ7 hI7 hC7 hL7 HY r6 f6 e8 er hr1 hr2
    go_wp2_with fail
    go_region
    go_wp2_with fail
    go_ret
    refine ⟨rfl, V5, .slice a6 q6 c6, ?_, (HQ7.out.kept (Go.heap_setCell_other _ _ _ _ HRP.out)).kept rfl, (HI7.out.kept fun g hg => Go.heap_setCell_other _ _ _ _ (HIP.out g hg)).kept fun _ _ => rfl, fun g hg => ?_, ?_⟩
    · rw [HQ0.out, HQ8.out]
      exact HT8.out.kept fun _ _ => rfl
    · have hs1 := HR4.out.chg.size
      have hs2 : w4.heap.size ≤ w5.heap.size := HR5.out.chg.size
      rcases HL7.out g hg with h | h
      · exact .inl h
      · exact .inr (by omega)
    · have T1 : Tr (fun g => g = r ∨ tv.ownBlock = some g) w w5 (TU p b n V) (TU p b n V5) := (HR4.out.trans ((Tr.ofBelow (w := w4) (w' := w4.drew) ⟨rfl, rfl, rfl, Nat.le_refl _, fun _ _ => rfl⟩).trans HR5.out)).mono fun g h => h.elim
      have T2 : Tr (fun g => g = r ∨ tv.ownBlock = some g) w5 w7 (TU p b n V5) (TU p b n V5) := ⟨HC7.out.mono fun g _ h => .inr h, fun g h => .inl h⟩
      exact ((T1.trans T2).set p 4 _ (.inl (.inl rfl))).trans (Tr.ofBelow ⟨rfl, rfl, rfl, Nat.le_refl _, fun _ _ => rfl⟩)
end Go.Proofs.Ytijfnacplikibab
