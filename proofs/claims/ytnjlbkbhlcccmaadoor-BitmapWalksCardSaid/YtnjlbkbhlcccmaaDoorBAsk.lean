import Derived.Test.YtnjlbkbhlcccmaaDoorBMade
namespace Go.Proofs.YtnjlbkbhlcccmaaDoor
open Go.RowKit Go.Shelf
set_option linter.unusedVariables false
set_option linter.unusedSimpArgs false
set_option maxRecDepth 20000

theorem rLen_any {w : World} {L : BL} {n B : Nat} (h : BRep w L n B) : Calls Tryd.prog 48 #[PB L] w fun e w' => e = .returned (.int .i64 (n : Int)) ∧ w' = w := by
  have c0 := h.c0
  unfold PB
  clear h
  go_enter Tryd.func48, Tryd.ntmps48
  go_wp2
  go_ret
  exact ⟨rfl, rfl⟩
/-- a call of a script, as it is handed on -/
def opA (K A B : Int) (s again : Bool) (a1 a2 a3 : Option Addr) (n1 n2 n3 c1 c2 c3 : Nat) : Value :=
  .agg #[.int .i64 K, .bool s, .int .i64 A, .int .i64 B, .slice a1 n1 c1, .slice a2 n2 c2, .slice a3 n3 c3, .bool again]
theorem row_zero {w : World} {base c : Nat} {e : TypeId} {v : Value} {n : Nat} {xs : List Value} (h : w.ownsRow base e c v n xs) : w.ownsRow 0 e c v n xs := by
  refine ⟨h.1, ?_⟩
  rcases h.2 with h0 | ⟨g, cap, cur, e, _, r⟩
  · exact .inl h0
  · exact .inr ⟨g, cap, cur, e, Nat.zero_le _, r⟩

set_option maxHeartbeats 1000000 in
theorem ask_len {w : World} {pp k n B : Nat} {L : BL} {R : RL} (h : Pr w pp k L R n B) (A C : Int) (s again : Bool) (a1 a2 a3 : Option Addr) (n1 n2 n3 c1 c2 c3 : Nat) :
    Calls Tryd.prog 22 #[.pointer (some ⟨pp, 0, none⟩), opA 11 A C s again a1 a2 a3 n1 n2 n3 c1 c2 c3] w fun e w' => e = .returned (.bool true) ∧ Below w.heap.size w w' := by
  unfold opA
  have HP : Hid (∀ x, Below w.heap.size w x → Pr x pp k L R n B) := hide fun x hx => h.below hx
  have hn := h.m.n2
  clear h
  have hb1 := fun o => (Below.refl w.heap.size w).alloc (Nat.le_refl _) o
  have H1 := hide (HP.out _ (hb1 (.cells #[.int .i64 11, .bool s, .int .i64 A, .int .i64 C, .slice a1 n1 c1, .slice a2 n2 c2, .slice a3 n3 c3, .bool again] 39)))
  have HBE := hide (hb1 (.cells #[.int .i64 11, .bool s, .int .i64 A, .int .i64 C, .slice a1 n1 c1, .slice a2 n2 c2, .slice a3 n3 c3, .bool again] 39))
  have p0 := H1.out.c 0
  have p1 := H1.out.c 1
  have r0 := H1.out.r.c0
  have HL : Hid (∀ x, Below w.heap.size w x → Calls Tryd.prog 48 #[PB L] x fun e w' => e = .returned (.int .i64 (n : Int)) ∧ w' = x) := hide fun x hx => rLen_any (HP.out x hx).m
  simp only [PB, PR] at p0 p1 HL
  clear hb1 HP
  go_enter Tryd.func22, Tryd.ntmps22
  go_wp2
  go_region_held3 (fun w' => w'.cell? ⟨pp, 0, none⟩ = some (.pointer (some ⟨L.p, 0, none⟩)) ∧ w'.cell? ⟨pp, 1, none⟩ = some (.pointer (some ⟨R.p, 0, none⟩)) ∧ w'.cell? ⟨R.p, 0, none⟩ = some (.slice (some ⟨R.b, 0, none⟩) n n)) (exact ⟨p0, p1, r0⟩)
    ((go_at_call 48; refine (HL.out _ (Below.drew HBE.out)).mono ?_; rintro e w' ⟨rfl, rfl⟩))
  all_goals
    go_wp2_with fail
    go_ret
    exact ⟨rfl, Below.drew HBE.out⟩
set_option maxHeartbeats 1000000 in
theorem ask_count {w : World} {pp k n B : Nat} {L : BL} {R : RL} (h : Pr w pp k L R n B) (A C : Int) (s again : Bool) (a1 a2 a3 : Option Addr) (n1 n2 n3 c1 c2 c3 : Nat) :
    Calls Tryd.prog 22 #[.pointer (some ⟨pp, 0, none⟩), opA 7 A C s again a1 a2 a3 n1 n2 n3 c1 c2 c3] w fun e w' => e = .returned (.bool true) ∧ Below w.heap.size w w' := by
  unfold opA
  have HP : Hid (∀ x, Below w.heap.size w x → Pr x pp k L R n B) := hide fun x hx => h.below hx
  have hn := h.m.n2
  clear h
  have hb1 := fun o => (Below.refl w.heap.size w).alloc (Nat.le_refl _) o
  have H1 := hide (HP.out _ (hb1 (.cells #[.int .i64 7, .bool s, .int .i64 A, .int .i64 C, .slice a1 n1 c1, .slice a2 n2 c2, .slice a3 n3 c3, .bool again] 39)))
  have HBE := hide (hb1 (.cells #[.int .i64 7, .bool s, .int .i64 A, .int .i64 C, .slice a1 n1 c1, .slice a2 n2 c2, .slice a3 n3 c3, .bool again] 39))
  have p0 := H1.out.c 0
  have p1 := H1.out.c 1
  have HL : Hid (∀ x, Below w.heap.size w x → Calls Tryd.prog 43 #[PB L] x fun e w' => e = .returned (.int .i64 ((cnt B.testBit n : Nat) : Int)) ∧ w' = x) := hide fun x hx => Count_any (HP.out x hx).m
  have HR : Hid (∀ x, Below w.heap.size w x → Calls Tryd.prog 44 #[PR R] x fun e w' => e = .returned (.int .i64 ((cnt B.testBit n : Nat) : Int)) ∧ w' = x) := hide fun x hx => rCount_any (HP.out x hx).r
  have hle := cnt_le B.testBit n
  simp only [PB, PR] at p0 p1 HL HR
  clear hb1 HP
  generalize cnt B.testBit n = q at *
  go_enter Tryd.func22, Tryd.ntmps22
  go_wp2
  go_region_held3 (fun w' => w'.cell? ⟨pp, 0, none⟩ = some (.pointer (some ⟨L.p, 0, none⟩)) ∧ w'.cell? ⟨pp, 1, none⟩ = some (.pointer (some ⟨R.p, 0, none⟩))) (exact ⟨p0, p1⟩)
    (first
      | (go_at_call 43; refine (HL.out _ (Below.drew HBE.out)).mono ?_; rintro e w' ⟨rfl, rfl⟩)
      | (go_at_call 44; refine (HR.out _ (Below.drew HBE.out)).mono ?_; rintro e w' ⟨rfl, rfl⟩))
  all_goals
    go_wp2_with fail
    go_ret
    exact ⟨rfl, Below.drew HBE.out⟩
/-- what a call that hands out a list leaves -/
structure APost (w w' : World) (pp k nl n B : Nat) (L : BL) (R : RL) (bv raw was : Value) : Prop where
  pr : Pr w' pp k L R n B
  bk : ∃ bv' ys', Bk w' k false bv' raw was (nl + 2) ys' ∧ ∀ b, bv'.ownBlock = some b → bv.ownBlock = some b ∨ w.heap.size ≤ b
  chg : Chg (fun b => b = k ∨ bv.ownBlock = some b) w w'
theorem APost.keep {w w4 w5 : World} {pp k nl n B m : Nat} {L : BL} {R : RL} {bv raw was v bv' gv : Value} {ys : List Value} (hp : Pr w pp k L R n B) (hb : Bk w k false bv raw was nl ys) (h4 : Below w.heap.size w w4) (hv : ∀ b, v.ownBlock = some b → w.heap.size ≤ b) (hK : Kp w4 w5 k nl m bv v raw was ys bv' gv) : APost w w5 pp k nl n B L R bv raw was := by
  refine ⟨(hp.below h4).kp (hb.below h4) hK fun b e hu => ?_, ⟨bv', _, hK.bk, fun b e => ?_⟩, ?_⟩
  · have := hv b e; have := hp.lt b hu; omega
  · have := h4.size
    rcases hK.bloc b e with h | h
    · exact .inl h
    · exact .inr (by omega)
  · refine ⟨hK.chg.os.trans h4.os, hK.chg.tape.trans h4.tape, hK.chg.output.trans h4.output, Nat.le_trans h4.size hK.chg.size, fun b h1 h2 => ?_⟩
    exact (hK.chg.keep b (Nat.lt_of_lt_of_le h1 h4.size) (by
      rintro (e | e | e)
      · exact h2 (.inl e)
      · exact h2 (.inr e)
      · have := hv b e; omega)).trans (h4.block b h1)

set_option maxHeartbeats 1000000 in
theorem ask_words {w : World} {pp k n B nl : Nat} {L : BL} {R : RL} {bv raw was : Value} {ys : List Value} (h : Pr w pp k L R n B) (hb : Bk w k false bv raw was nl ys) (hnl : nl ≤ 9000000000000) (A C : Int) (s again : Bool) (a1 a2 a3 : Option Addr) (n1 n2 n3 c1 c2 c3 : Nat) :
    Calls Tryd.prog 22 #[.pointer (some ⟨pp, 0, none⟩), opA 12 A C s again a1 a2 a3 n1 n2 n3 c1 c2 c3] w fun e w' => e = .returned (.bool true) ∧ APost w w' pp k nl n B L R bv raw was := by
  unfold opA
  have HP : Hid (∀ x, Below w.heap.size w x → Pr x pp k L R n B) := hide fun x hx => h.below hx
  have HB : Hid (∀ x, Below w.heap.size w x → Bk x k false bv raw was nl ys) := hide fun x hx => hb.below hx
  have hn1 := h.m.n1
  have hn := h.m.n2
  have HF : Hid (∀ w4 w5 m v bv' gv, Below w.heap.size w w4 → (∀ b, v.ownBlock = some b → w.heap.size ≤ b) → Kp w4 w5 k nl m bv v raw was ys bv' gv → APost w w5 pp k nl n B L R bv raw was) := hide fun w4 w5 m v bv' gv x1 x2 x3 => APost.keep h hb x1 x2 x3
  have hb1 := fun o => (Below.refl w.heap.size w).alloc (Nat.le_refl _) o
  have HBE := hide (hb1 (.cells #[.int .i64 12, .bool s, .int .i64 A, .int .i64 C, .slice a1 n1 c1, .slice a2 n2 c2, .slice a3 n3 c3, .bool again] 39))
  have p0 := (HP.out _ HBE.out).c 0
  have HW : Hid (∀ x, Below w.heap.size w x → Calls Tryd.prog 49 #[PB L] x fun e w' => ∃ v', e = .returned v' ∧ w'.ownsRow x.heap.size 63 1 v' (nW n) ((wds B (nW n)).map u64V) ∧ WSl w' v' (wds B (nW n)) ∧ Below x.heap.size x w') := hide fun x hx => Words_any (HP.out x hx).m
  have HR : Hid (∀ x, Below w.heap.size w x → Calls Tryd.prog 50 #[PR R] x fun e w' => ∃ v', e = .returned v' ∧ WSl w' v' (wds B (nW n)) ∧ Below x.heap.size x w') := hide fun x hx => (rWords_any (HP.out x hx).r).mono fun e w' ⟨v, h1, h2⟩ => ⟨v, h1, h2.wsl (by unfold nW; omega), h2.2.2⟩
  have hm : (nW n) ≤ 1024 := by unfold nW; omega
  have HLEN : Hid (((wds B (nW n))).length = (nW n)) := hide (wds_len _ _)
  simp only [PB, PR] at p0 HW HR
  clear hb1 h hb
  generalize (wds B (nW n)) = l at *
  generalize (nW n) = m at *
  go_enter Tryd.func22, Tryd.ntmps22
  go_wp2_with (first
    | (go_at_call 49; refine (HW.out _ HBE.out).mono ?_; rintro e w2 ⟨v', rfl, hrow, hws, hb2⟩; have HROW := hide hrow; have HWS := hide hws; have HB2 := hide (HBE.out.trans (hb2.mono HBE.out.size)); have HOW : Hid (∀ b, v'.ownBlock = some b → w.heap.size ≤ b) := hide (fun b e => Nat.le_trans HBE.out.size (hrow.lt b e).1); have p1 := (HP.out _ HB2.out).c 1; simp only [PB, PR] at p1; obtain ⟨av, cv, ev, -⟩ := rowForm hrow; subst ev; clear hrow hws hb2)
    | (go_at_call 50; refine (HR.out _ HB2.out).mono ?_; rintro e w3 ⟨u, rfl, hu, hb3⟩; have HU := hide hu; have HB3w := hide hb3; have HB3 := hide (HB2.out.trans (hb3.mono HB2.out.size)); have HSW := hide (sameWords_any (HWS.out.below hb3) hu); rw [decide_eq_true rfl] at HSW; obtain ⟨au, cu, eu, -⟩ := hu; rw [HLEN.out] at eu; subst eu; clear hb3)
    | (go_at_call 28; refine HSW.out.mono ?_; rintro e w4 ⟨rfl, hq⟩; have HB4w := hide (HB3w.out.trans (hq.2.mono HB3w.out.size)); have HB4 := hide (HB3.out.trans (hq.2.mono HB3.out.size)); have p2 := (HP.out _ HB4.out).c 2; simp only [PB, PR] at p2; have HK := hide (keep_any (HB.out _ HB4.out) (rowKept (w' := w4) (row_zero HROW.out) (fun g hg => HB4w.out.block g (HROW.out.lt g hg).2)) (by omega) hnl); clear hq)
    | (go_at_call 13; refine HK.out.mono ?_; rintro e w5 ⟨rfl, bv', gv, hKp⟩; have HFIN := hide (HF.out _ _ _ _ _ _ HB4.out HOW.out hKp); clear hKp))
  go_ret
  exact ⟨rfl, HFIN.out⟩

set_option maxHeartbeats 1000000 in
theorem ask_sum {w : World} {pp k n B nl : Nat} {L : BL} {R : RL} {bv raw was : Value} {ys : List Value} (h : Pr w pp k L R n B) (hb : Bk w k false bv raw was nl ys) (hnl : nl ≤ 9000000000000) (A C : Int) (s again : Bool) (a1 a2 a3 : Option Addr) (n1 n2 n3 c1 c2 c3 : Nat) :
    Calls Tryd.prog 22 #[.pointer (some ⟨pp, 0, none⟩), opA 13 A C s again a1 a2 a3 n1 n2 n3 c1 c2 c3] w fun e w' => e = .returned (.bool true) ∧ APost w w' pp k nl n B L R bv raw was := by
  unfold opA
  have HP : Hid (∀ x, Below w.heap.size w x → Pr x pp k L R n B) := hide fun x hx => h.below hx
  have HB : Hid (∀ x, Below w.heap.size w x → Bk x k false bv raw was nl ys) := hide fun x hx => hb.below hx
  have hn1 := h.m.n1
  have hn := h.m.n2
  have HF : Hid (∀ w4 w5 m v bv' gv, Below w.heap.size w w4 → (∀ b, v.ownBlock = some b → w.heap.size ≤ b) → Kp w4 w5 k nl m bv v raw was ys bv' gv → APost w w5 pp k nl n B L R bv raw was) := hide fun w4 w5 m v bv' gv x1 x2 x3 => APost.keep h hb x1 x2 x3
  have hb1 := fun o => (Below.refl w.heap.size w).alloc (Nat.le_refl _) o
  have HBE := hide (hb1 (.cells #[.int .i64 13, .bool s, .int .i64 A, .int .i64 C, .slice a1 n1 c1, .slice a2 n2 c2, .slice a3 n3 c3, .bool again] 39))
  have p0 := (HP.out _ HBE.out).c 0
  have HW : Hid (∀ x, Below w.heap.size w x → Calls Tryd.prog 51 #[PB L] x fun e w' => ∃ v', e = .returned v' ∧ w'.ownsRow x.heap.size 63 1 v' (nW (nW n)) ((wds (up B (nW n)) (nW (nW n))).map u64V) ∧ WSl w' v' (wds (up B (nW n)) (nW (nW n))) ∧ Below x.heap.size x w') := hide fun x hx => Summary_any (HP.out x hx).m
  have HR : Hid (∀ x, Below w.heap.size w x → Calls Tryd.prog 52 #[PR R] x fun e w' => ∃ v', e = .returned v' ∧ WSl w' v' (wds (up B (nW n)) (nW (nW n))) ∧ Below x.heap.size x w') := hide fun x hx => rSummary_any (HP.out x hx).r
  have hm : (nW (nW n)) ≤ 1024 := by unfold nW; omega
  have HLEN : Hid (((wds (up B (nW n)) (nW (nW n)))).length = (nW (nW n))) := hide (wds_len _ _)
  simp only [PB, PR] at p0 HW HR
  clear hb1 h hb
  generalize (wds (up B (nW n)) (nW (nW n))) = l at *
  generalize (nW (nW n)) = m at *
  go_enter Tryd.func22, Tryd.ntmps22
  go_wp2_with (first
    | (go_at_call 51; refine (HW.out _ HBE.out).mono ?_; rintro e w2 ⟨v', rfl, hrow, hws, hb2⟩; have HROW := hide hrow; have HWS := hide hws; have HB2 := hide (HBE.out.trans (hb2.mono HBE.out.size)); have HOW : Hid (∀ b, v'.ownBlock = some b → w.heap.size ≤ b) := hide (fun b e => Nat.le_trans HBE.out.size (hrow.lt b e).1); have p1 := (HP.out _ HB2.out).c 1; simp only [PB, PR] at p1; obtain ⟨av, cv, ev, -⟩ := rowForm hrow; subst ev; clear hrow hws hb2)
    | (go_at_call 52; refine (HR.out _ HB2.out).mono ?_; rintro e w3 ⟨u, rfl, hu, hb3⟩; have HU := hide hu; have HB3w := hide hb3; have HB3 := hide (HB2.out.trans (hb3.mono HB2.out.size)); have HSW := hide (sameWords_any (HWS.out.below hb3) hu); rw [decide_eq_true rfl] at HSW; obtain ⟨au, cu, eu, -⟩ := hu; rw [HLEN.out] at eu; subst eu; clear hb3)
    | (go_at_call 28; refine HSW.out.mono ?_; rintro e w4 ⟨rfl, hq⟩; have HB4w := hide (HB3w.out.trans (hq.2.mono HB3w.out.size)); have HB4 := hide (HB3.out.trans (hq.2.mono HB3.out.size)); have p2 := (HP.out _ HB4.out).c 2; simp only [PB, PR] at p2; have HK := hide (keep_any (HB.out _ HB4.out) (rowKept (w' := w4) (row_zero HROW.out) (fun g hg => HB4w.out.block g (HROW.out.lt g hg).2)) (by omega) hnl); clear hq)
    | (go_at_call 13; refine HK.out.mono ?_; rintro e w5 ⟨rfl, bv', gv, hKp⟩; have HFIN := hide (HF.out _ _ _ _ _ _ HB4.out HOW.out hKp); clear hKp))
  go_ret
  exact ⟨rfl, HFIN.out⟩
end Go.Proofs.YtnjlbkbhlcccmaaDoor
