import Derived.Test.YtnjlbkbhlcccmaaDoorBMergeL
namespace Go.Proofs.YtnjlbkbhlcccmaaDoor
open Go.RowKit Go.Shelf
set_option linter.unusedVariables false
set_option linter.unusedSimpArgs false
set_option maxRecDepth 20000
theorem row_base {w : World} {base base' c : Nat} {e : TypeId} {v : Value} {n : Nat} {xs : List Value} (h : w.ownsRow base e c v n xs) (hb : base' ≤ base) : w.ownsRow base' e c v n xs := by
  refine ⟨h.1, ?_⟩
  rcases h.2 with h0 | ⟨g, cap, cur, e, h1, r⟩
  · exact .inl h0
  · exact .inr ⟨g, cap, cur, e, Nat.le_trans hb h1, r⟩

set_option maxHeartbeats 1000000 in
theorem ask_words_g {KP : World → Value → World → Prop} {w : World} {pp k n B : Nat} {L : BL} {R : RL} (h : Pr w pp k L R n B) (A C : Int) (s again : Bool) (a1 a2 a3 : Option Addr) (n1 n2 n3 c1 c2 c3 : Nat)
    (hK : ∀ x v, Below w.heap.size w x → x.ownsRow w.heap.size 63 1 v (nW n) ((wds B (nW n)).map u64V) → Calls Tryd.prog 13 #[.pointer (some ⟨k, 0, none⟩), v] x fun e w' => e = .returned (.tuple #[]) ∧ KP x v w') :
    Calls Tryd.prog 22 #[.pointer (some ⟨pp, 0, none⟩), opA 12 A C s again a1 a2 a3 n1 n2 n3 c1 c2 c3] w fun e w' => e = .returned (.bool true) ∧ ∃ x v, Below w.heap.size w x ∧ x.ownsRow w.heap.size 63 1 v (nW n) ((wds B (nW n)).map u64V) ∧ KP x v w' := by
  unfold opA
  have HP : Hid (∀ x, Below w.heap.size w x → Pr x pp k L R n B) := hide fun x hx => h.below hx
  have hn1 := h.m.n1
  have hn := h.m.n2
  have HK := hide hK
  have hb1 := fun o => (Below.refl w.heap.size w).alloc (Nat.le_refl _) o
  have HBE := hide (hb1 (.cells #[.int .i64 12, .bool s, .int .i64 A, .int .i64 C, .slice a1 n1 c1, .slice a2 n2 c2, .slice a3 n3 c3, .bool again] 39))
  have p0 := (HP.out _ HBE.out).c 0
  have HW : Hid (∀ x, Below w.heap.size w x → Calls Tryd.prog 49 #[PB L] x fun e w' => ∃ v', e = .returned v' ∧ w'.ownsRow x.heap.size 63 1 v' (nW n) ((wds B (nW n)).map u64V) ∧ WSl w' v' (wds B (nW n)) ∧ Below x.heap.size x w') := hide fun x hx => Words_any (HP.out x hx).m
  have HR : Hid (∀ x, Below w.heap.size w x → Calls Tryd.prog 50 #[PR R] x fun e w' => ∃ v', e = .returned v' ∧ WSl w' v' (wds B (nW n)) ∧ Below x.heap.size x w') := hide fun x hx => (rWords_any (HP.out x hx).r).mono fun e w' ⟨v, h1, h2⟩ => ⟨v, h1, h2.wsl (by unfold nW; omega), h2.2.2⟩
  have hm : (nW n) ≤ 1024 := by unfold nW; omega
  have HLEN : Hid (((wds B (nW n))).length = (nW n)) := hide (wds_len _ _)
  simp only [PB, PR] at p0 HW HR
  clear hb1 h hK
  generalize (wds B (nW n)) = l at *
  generalize (nW n) = m at *
  go_enter Tryd.func22, Tryd.ntmps22
  go_wp2_with (first
    | (go_at_call 49; refine (HW.out _ HBE.out).mono ?_; rintro e w2 ⟨v', rfl, hrow, hws, hb2⟩; have HROW := hide hrow; have HWS := hide hws; have HB2 := hide (HBE.out.trans (hb2.mono HBE.out.size)); have p1 := (HP.out _ HB2.out).c 1; simp only [PB, PR] at p1; obtain ⟨av, cv, ev, -⟩ := rowForm hrow; subst ev; clear hrow hws hb2)
    | (go_at_call 50; refine (HR.out _ HB2.out).mono ?_; rintro e w3 ⟨u, rfl, hu, hb3⟩; have HU := hide hu; have HB3w := hide hb3; have HB3 := hide (HB2.out.trans (hb3.mono HB2.out.size)); have HSW := hide (sameWords_any (HWS.out.below hb3) hu); rw [decide_eq_true rfl] at HSW; obtain ⟨au, cu, eu, -⟩ := hu; rw [HLEN.out] at eu; subst eu; clear hb3)
    | (go_at_call 28; refine HSW.out.mono ?_; rintro e w4 ⟨rfl, hq⟩; have HB4w := hide (HB3w.out.trans (hq.2.mono HB3w.out.size)); have HB4 := hide (HB3.out.trans (hq.2.mono HB3.out.size)); have p2 := (HP.out _ HB4.out).c 2; simp only [PB, PR] at p2; have HR4 := hide (row_base (base' := w.heap.size) (rowKept (w' := w4) HROW.out (fun g hg => HB4w.out.block g (HROW.out.lt g hg).2)) HBE.out.size); have HK4 := hide (HK.out _ _ HB4.out HR4.out); clear hq)
    | (go_at_call 13; refine HK4.out.mono ?_; rintro e w5 ⟨rfl, hKp⟩; have HFIN := hide hKp; clear hKp))
  go_ret
  exact ⟨rfl, _, _, HB4.out, HR4.out, HFIN.out⟩

set_option maxHeartbeats 1000000 in
theorem ask_sum_g {KP : World → Value → World → Prop} {w : World} {pp k n B : Nat} {L : BL} {R : RL} (h : Pr w pp k L R n B) (A C : Int) (s again : Bool) (a1 a2 a3 : Option Addr) (n1 n2 n3 c1 c2 c3 : Nat)
    (hK : ∀ x v, Below w.heap.size w x → x.ownsRow w.heap.size 63 1 v (nW (nW n)) ((wds (up B (nW n)) (nW (nW n))).map u64V) → Calls Tryd.prog 13 #[.pointer (some ⟨k, 0, none⟩), v] x fun e w' => e = .returned (.tuple #[]) ∧ KP x v w') :
    Calls Tryd.prog 22 #[.pointer (some ⟨pp, 0, none⟩), opA 13 A C s again a1 a2 a3 n1 n2 n3 c1 c2 c3] w fun e w' => e = .returned (.bool true) ∧ ∃ x v, Below w.heap.size w x ∧ x.ownsRow w.heap.size 63 1 v (nW (nW n)) ((wds (up B (nW n)) (nW (nW n))).map u64V) ∧ KP x v w' := by
  unfold opA
  have HP : Hid (∀ x, Below w.heap.size w x → Pr x pp k L R n B) := hide fun x hx => h.below hx
  have hn1 := h.m.n1
  have hn := h.m.n2
  have HK := hide hK
  have hb1 := fun o => (Below.refl w.heap.size w).alloc (Nat.le_refl _) o
  have HBE := hide (hb1 (.cells #[.int .i64 13, .bool s, .int .i64 A, .int .i64 C, .slice a1 n1 c1, .slice a2 n2 c2, .slice a3 n3 c3, .bool again] 39))
  have p0 := (HP.out _ HBE.out).c 0
  have HW : Hid (∀ x, Below w.heap.size w x → Calls Tryd.prog 51 #[PB L] x fun e w' => ∃ v', e = .returned v' ∧ w'.ownsRow x.heap.size 63 1 v' (nW (nW n)) ((wds (up B (nW n)) (nW (nW n))).map u64V) ∧ WSl w' v' (wds (up B (nW n)) (nW (nW n))) ∧ Below x.heap.size x w') := hide fun x hx => Summary_any (HP.out x hx).m
  have HR : Hid (∀ x, Below w.heap.size w x → Calls Tryd.prog 52 #[PR R] x fun e w' => ∃ v', e = .returned v' ∧ WSl w' v' (wds (up B (nW n)) (nW (nW n))) ∧ Below x.heap.size x w') := hide fun x hx => rSummary_any (HP.out x hx).r
  have hm : (nW (nW n)) ≤ 1024 := by unfold nW; omega
  have HLEN : Hid (((wds (up B (nW n)) (nW (nW n)))).length = (nW (nW n))) := hide (wds_len _ _)
  simp only [PB, PR] at p0 HW HR
  clear hb1 h hK
  generalize (wds (up B (nW n)) (nW (nW n))) = l at *
  generalize (nW (nW n)) = m at *
  go_enter Tryd.func22, Tryd.ntmps22
  go_wp2_with (first
    | (go_at_call 51; refine (HW.out _ HBE.out).mono ?_; rintro e w2 ⟨v', rfl, hrow, hws, hb2⟩; have HROW := hide hrow; have HWS := hide hws; have HB2 := hide (HBE.out.trans (hb2.mono HBE.out.size)); have p1 := (HP.out _ HB2.out).c 1; simp only [PB, PR] at p1; obtain ⟨av, cv, ev, -⟩ := rowForm hrow; subst ev; clear hrow hws hb2)
    | (go_at_call 52; refine (HR.out _ HB2.out).mono ?_; rintro e w3 ⟨u, rfl, hu, hb3⟩; have HU := hide hu; have HB3w := hide hb3; have HB3 := hide (HB2.out.trans (hb3.mono HB2.out.size)); have HSW := hide (sameWords_any (HWS.out.below hb3) hu); rw [decide_eq_true rfl] at HSW; obtain ⟨au, cu, eu, -⟩ := hu; rw [HLEN.out] at eu; subst eu; clear hb3)
    | (go_at_call 28; refine HSW.out.mono ?_; rintro e w4 ⟨rfl, hq⟩; have HB4w := hide (HB3w.out.trans (hq.2.mono HB3w.out.size)); have HB4 := hide (HB3.out.trans (hq.2.mono HB3.out.size)); have p2 := (HP.out _ HB4.out).c 2; simp only [PB, PR] at p2; have HR4 := hide (row_base (base' := w.heap.size) (rowKept (w' := w4) HROW.out (fun g hg => HB4w.out.block g (HROW.out.lt g hg).2)) HBE.out.size); have HK4 := hide (HK.out _ _ HB4.out HR4.out); clear hq)
    | (go_at_call 13; refine HK4.out.mono ?_; rintro e w5 ⟨rfl, hKp⟩; have HFIN := hide hKp; clear hKp))
  go_ret
  exact ⟨rfl, _, _, HB4.out, HR4.out, HFIN.out⟩
end Go.Proofs.YtnjlbkbhlcccmaaDoor
