import Derived.Test.YtglajdmkbckjjabDoorBWs
import Derived.Test.YtglajdmkbckjjabDoorBTile
import Derived.Test.YtglajdmkbckjjabDoorBFrom2
import Derived.Test.YtglajdmkbckjjabDoorBSt
import Derived.Test.YtglajdmkbckjjabDoorBWords
import Derived.Test.YtglajdmkbckjjabDoorBCopied
import Derived.Test.YtglajdmkbckjjabDoorBHelp
import Derived.Test.YtglajdmkbckjjabDoorBNv
import Derived.Test.YtglajdmkbckjjabDoorBRef4
import Derived.Test.YtglajdmkbckjjabDoorBRef2
import Derived.Test.YtglajdmkbckjjabDoorBIntact
import Derived.StillTailTactics
import Derived.Deep.RegionHeld3
import Derived.Deep.RegionLaw
namespace Go.Proofs.YtglajdmkbckjjabDoor
open Go.RowKit Go.Shelf
set_option linter.unusedVariables false
set_option linter.unusedSimpArgs false
set_option maxRecDepth 20000

theorem WS.below {w0 w w' : World} {p : Nat} {cv : Value} {c : List Nat} {D : List Bool} (h : WS w0 w p cv c D) (hb : Below w.heap.size w w') : WS w0 w' p cv c D := by
  have k : ∀ {b o}, w.heap[b]? = some o → w'.heap[b]? = some o := fun hh => (hb.block _ (Array.getElem?_eq_some_iff.1 hh).1).trans hh
  refine ⟨k h.row, rowK8 h.own fun b e => ?_, h.wrt, ⟨hb.os.trans h.chg.os, hb.tape.trans h.chg.tape, hb.output.trans h.chg.output, Nat.le_trans h.chg.size hb.size, fun b h1 h2 => (hb.block b (Nat.lt_of_lt_of_le h1 h.chg.size)).trans (h.chg.keep b h1 h2)⟩, h.loc, h.pN⟩
  obtain ⟨cs, hcs⟩ := h.blk e
  rw [hcs]
  exact k hcs
/-- a set run ahead: the stretches from s on -/
theorem encP_run {B n s i en : Nat} (h1 : s ≤ i) (h2 : i < en) (h3 : en ≤ n) (hz : ∀ j, s ≤ j → j < i → B.testBit j = false) (ho : ∀ j, i ≤ j → j < en → B.testBit j = true) (hb : en < n → B.testBit en = false) : encP B n s = stD (i - s) ++ (stD (en - i) ++ encP B n en) := by
  have hr2 : ren B n i = en := ren_unique h2 h3 (fun j a b => by rw [ho j a b, ho i (Nat.le_refl _) h2]) (fun h => by rw [hb h, ho i (Nat.le_refl _) h2]; rfl)
  have e2 : encP B n i = stD (en - i) ++ encP B n en := by
    rw [encP_step (by omega), hr2, stD, if_neg (by omega)]
  by_cases hs : s = i
  · subst hs
    rw [e2, Nat.sub_self]
    rfl
  · have hr1 : ren B n s = i := ren_unique (by omega) (by omega) (fun j a b => by rw [hz j a b, hz s (Nat.le_refl _) (by omega)]) (fun h => by rw [ho i (Nat.le_refl _) h2, hz s (Nat.le_refl _) (by omega)]; rfl)
    have e3 : stD (i - s) = gam (i - s) := by rw [stD, if_neg (by omega)]
    rw [encP_step (by omega), hr1, e2, e3]
theorem encP_clear {B n s : Nat} (h1 : s ≤ n) (hz : ∀ j, s ≤ j → j < n → B.testBit j = false) : encP B n s = stD (n - s) := by
  by_cases hs : s < n
  · have hr : ren B n s = n := ren_unique hs (Nat.le_refl _) (fun j a b => by rw [hz j a b, hz s (Nat.le_refl _) hs]) (fun h => by omega)
    rw [encP_step hs, hr, encP_end (by omega), stD, if_neg (by omega), List.append_nil]
  · rw [encP_end hs, stD, if_pos (by omega)]
theorem gam_small {x : Nat} (h : 1 ≤ x) : (gam x).length ≤ 2 * x := by
  rw [gam_len]
  have a1 := Nat.log2_self_le (n := x) (by omega)
  have : x.log2 < 2 ^ x.log2 := Nat.lt_two_pow_self
  omega
theorem stD_small (x : Nat) : (stD x).length ≤ 2 * x := by
  unfold stD
  split
  · simp
  · exact gam_small (by omega)
/-- between two runs: P: the writer; Q: place; Q + 1: what Runs holds -/
structure EI (W2 W : World) (P Q : Nat) (L : BL) (s : Nat) (D : List Bool) : Prop where
  ws : ∃ cv c, WS W2 W P cv c D
  plc : W.heap[Q]? = some (.cells #[.int .i64 (s : Int)] 3 (0, 0))
  clo : W.heap[Q + 1]? = some (.cells #[PB L] 44 (0, 0))
  ne : Q ≠ P ∧ Q + 1 ≠ P
theorem EI.chg {W2 W : World} {P Q s : Nat} {L : BL} {D : List Bool} (h : EI W2 W P Q L s D) : Chg (fun b => b = P) W2 W := by
  obtain ⟨cv, c, hs⟩ := h.ws
  exact hs.chg
theorem EI.own {W2 W W' : World} {row : Option Nat} {P Q s K : Nat} {L : BL} {D : List Bool} (h : EI W2 W P Q L s D) (hK : W2.heap.size ≤ K) (hg : W.grownBy W' row) (hr : ∀ r, row = some r → K ≤ r ∧ ∃ o : Obj, W.heap[r]? = some o ∧ o.isCells = false) : EI W2 W' P Q L s D := by
  obtain ⟨cv, c, hs⟩ := h.ws
  refine ⟨⟨cv, c, own_blk hs.row hg hr, rowK8 hs.own fun b e => ?_, hs.wrt, own_chg hs.chg hK hg hr, hs.loc, hs.pN⟩, own_blk h.plc hg hr, own_blk h.clo hg hr, h.ne⟩
  obtain ⟨cs, hcs⟩ := hs.blk e
  rw [hcs]
  exact own_blk hcs hg hr
theorem EI.wz {W2 W : World} {P Q s : Nat} {L : BL} {D : List Bool} (h : EI W2 W P Q L s D) : WZ W2 W W P D := ⟨h.ws, TF.refl _ _⟩
theorem EI.took {W2 W W' : World} {P Q s : Nat} {L : BL} {D D' : List Bool} (h : EI W2 W P Q L s D) (hz : WZ W2 W W' P D') : EI W2 W' P Q L s D' :=
  ⟨hz.1, hz.2.keep _ _ h.plc h.ne.1 (fun cs fr e => by simp at e), hz.2.keep _ _ h.clo h.ne.2 (fun cs fr e => by simp at e), h.ne⟩
theorem EI.put {W2 W : World} {P Q s s' : Nat} {L : BL} {D : List Bool} (h : EI W2 W P Q L s D) (hQ : W2.heap.size ≤ Q) {X : Int} (hX : X = (s' : Int)) : EI W2 (W.setCell ⟨Q, 0, none⟩ (.int .i64 X)) P Q L s' D := by
  subst hX
  obtain ⟨cv, c, hs⟩ := h.ws
  have hs2 : (W.setCell ⟨Q, 0, none⟩ (.int .i64 (s' : Int))).heap.size = W.heap.size := by simp [World.setCell]
  refine ⟨⟨cv, c, (Go.heap_setCell_other _ _ _ _ (Ne.symm h.ne.1)).trans hs.row, rowK8 hs.own fun b e => Go.heap_setCell_other _ _ _ _ fun e2 => ?_, hs.wrt, ⟨hs.chg.os, hs.chg.tape, hs.chg.output, by rw [hs2]; exact hs.chg.size, fun b hb hne => (Go.heap_setCell_other _ _ _ _ (by show b ≠ Q; omega)).trans (hs.chg.keep b hb hne)⟩, hs.loc, hs.pN⟩, ?_, (Go.heap_setCell_other _ _ _ _ (by show Q + 1 ≠ Q; omega)).trans h.clo, h.ne⟩
  · obtain ⟨cs, hcs⟩ := hs.blk e
    have e3 : b = Q := e2
    rw [e3, h.plc] at hcs
    simp at hcs
  · rw [Go.heap_setCell_same _ _ 0 _ 3 _ h.plc]
    rfl
theorem keeps_TF {p K : Nat} {w w' : World} (h : TF p w w') {cs : Array Value} {t : TypeId} {fr : Nat × Nat} (hp : w.heap[p]? = some (.cells cs t fr)) : KeepsFrom K w w' :=
  ⟨h.size, fun b o _ hb hc => h.keep b o hb (fun e => by subst e; rw [hp] at hb; cases hb; simp [Obj.isCells] at hc) (fun cs fr e => by subst e; simp [Obj.isCells] at hc)⟩
theorem keeps_put {K Q : Nat} {w : World} {v : Value} {cs : Array Value} {t : TypeId} {fr : Nat × Nat} (hp : w.heap[Q]? = some (.cells cs t fr)) : KeepsFrom K w (w.setCell ⟨Q, 0, none⟩ v) :=
  ⟨by simp [World.setCell], fun b o _ hb hc => (Go.heap_setCell_other _ _ _ _ (fun e => by have e : b = Q := e; subst e; rw [hp] at hb; cases hb; simp [Obj.isCells] at hc)).trans hb⟩
theorem wstretch_at {w0 wA w : World} {p : Nat} {D : List Bool} (h : WZ w0 wA w p D) (x : Nat) (hx : x ≤ 65536) (hD : D.length ≤ 9000000) {X : Int} (hX : X = (x : Int)) :
    Calls Tryd.prog 28 #[.pointer (some ⟨p, 0, none⟩), .int .i64 X] w fun e w' => e = .returned (.tuple #[]) ∧ WZ w0 wA w' p (D ++ stD x) := by
  subst hX
  exact wstretch_any h x hx hD
end Go.Proofs.YtglajdmkbckjjabDoor
namespace Go.Proofs.YtglajdmkbckjjabDoor
open Go.RowKit Go.Shelf
attribute [local go_sem] Oper.semAt_some
set_option linter.unusedVariables false
set_option linter.unusedSimpArgs false
set_option maxRecDepth 20000

theorem low_and (B : Nat) : bits .and .u64 ((wd B 0 : Nat) : Int) 1 = (((B.testBit 0).toNat : Nat) : Int) := by
  have h1 := u64_and_nat (wd B 0) 1 (wd_lt B 0) (by decide)
  refine h1.trans ?_
  rw [Nat.and_one_is_mod]
  have h2 := Nat.toNat_testBit (wd B 0) 0
  rw [testBit_wd] at h2
  rw [Nat.pow_zero, Nat.div_one] at h2
  rw [← h2]
  simp
/-- what Encode hands back -/
def EnP (w : World) (n B : Nat) (e : Ending) (w' : World) : Prop := ∃ cv c, e = .returned (.tuple #[cv, .int .i64 0]) ∧ w'.ownsRow w.heap.size 5 1 cv c.length (c.map byV) ∧ Wrt c (encD B n) ∧ Below w.heap.size w w'
theorem own_high {w : World} {b b' : Nat} {e : TypeId} {size : Nat} {v : Value} {n : Nat} {xs : List Value} (h : w.ownsRow b e size v n xs) (hb : ∀ g, v.ownBlock = some g → b' ≤ g) : w.ownsRow b' e size v n xs := by
  refine ⟨h.1, ?_⟩
  rcases h.2 with h0 | ⟨g, cap, cur, rfl, h1, r⟩
  · exact .inl h0
  · exact .inr ⟨g, cap, cur, rfl, hb g rfl, r⟩
set_option maxHeartbeats 4000000 in
theorem encode_main {w : World} {v : Value} {l : List Nat} (n : Nat) (hT : TabAt w) (hv : WSl w v l) (h1 : 1 ≤ n) (h2 : n ≤ 65536) (he : cwErr n l = 0) :
    Calls Tryd.prog 9 #[.int .i64 (n : Int), v] w (EnP w n (valW l)) := by
  refine (callsIn_wide (n := 5)).1 ?_
  have HF := hide (From_any n h1 h2 hv he)
  generalize valW l = B at *
  obtain ⟨va, vcap, rfl, -⟩ := hv
  have HT := hide hT
  have htl := hT.lt
  have hw0 := low_and B
  have hnw : 1 ≤ nW n ∧ nW n ≤ 1024 := by unfold nW; omega
  clear hT he
  generalize l.length = llen at *
  refine callsIn_of_wp_marks Tryd.func9 rfl trivial ?_ rfl
  simp only [Tryd.ntmps9, List.size_toArray, List.length_cons, List.length_nil, Nat.reduceAdd, Nat.reduceSub, Array.replicate_succ, Array.replicate_zero, List.push_toArray, List.append_toArray, List.nil_append, List.cons_append]
  gi_wp2_with (first
    | (refine ⟨trivial, ?_⟩; gi_at_call 25; refine (callsIn_wide.2 HF.out).mono ?_; clear HF; rintro e w1 ⟨L, rfl, hN⟩; have HN := hide hN; clear hN; unfold PB))
  obtain ⟨W2, hW2⟩ : ∃ W2, (w1.alloc (Obj.cells #[Value.slice none 0 0, Value.int IntKind.i64 0] 68)).alloc (Obj.cells #[Value.pointer (some ⟨w1.heap.size, 0, none⟩)] 66) = W2 := ⟨_, rfl⟩
  rw [hW2]
  obtain ⟨P, hP⟩ : ∃ P, w1.heap.size = P := ⟨_, rfl⟩
  have hsz : W2.heap.size = P + 2 := by rw [← hW2, ← hP]; simp
  have hb12 : Below w1.heap.size w1 W2 := by rw [← hW2]; exact ((Below.refl _ _).alloc (Nat.le_refl _) _).alloc (by simp) _
  have q0 : W2.heap[P]? = some (.cells #[.slice none 0 0, .int .i64 0] 68 (0, 0)) := by rw [← hW2, ← hP, Below.heap_alloc _ _ _ (by simp)]; exact Go.heap_alloc_new w1 _
  have q1 : W2.heap[P + 1]? = some (.cells #[.pointer (some ⟨P, 0, none⟩)] 66 (0, 0)) := by rw [← hW2, ← hP]; have := Go.heap_alloc_new (w1.alloc (Obj.cells #[Value.slice none 0 0, Value.int IntKind.i64 0] 68)) (Obj.cells #[Value.pointer (some ⟨w1.heap.size, 0, none⟩)] 66); rwa [World.size_alloc] at this
  have hrep2 : BRep W2 L n B := HN.out.1.below hb12
  have hbel2 : Below w.heap.size w W2 := HN.out.2.1.trans (hb12.mono HN.out.2.1.size)
  have htab2 : TabAt W2 := HT.out.below hbel2
  have hPw : w.heap.size ≤ P := by rw [← hP]; exact HN.out.2.1.size
  have hLP : ∀ b, L.U b → b < P := fun b hb => by rw [← hP]; exact HN.out.1.uLt b hb
  have HDG : Hid (∀ q, Calls Tryd.prog 26 #[.pointer (some ⟨P, 0, none⟩), .int .u64 (((B.testBit 0).toNat : Nat) : Int)] (W2.drewN q) fun e w' => e = .returned (.tuple #[]) ∧ WZ W2 W2 w' P ([] ++ [B.testBit 0])) := hide fun q => WZ.digit (wA := W2) (w := W2.drewN q) ⟨⟨.slice none 0 0, [], (⟨q0, ⟨rfl, .inl ⟨rfl, rfl⟩⟩, wrt_nil, Chg.refl _ _, (fun b e => by simp [Value.ownBlock] at e), by omega⟩ : WS W2 W2 P (.slice none 0 0) [] []).below ⟨rfl, rfl, rfl, Nat.le_refl _, fun _ _ => rfl⟩⟩, ⟨rfl, rfl, rfl, Nat.le_refl _, fun _ _ h _ _ => h⟩⟩ (B.testBit 0) (by simp)
  have HS3 : Hid (∀ w', WZ W2 W2 w' P ([] ++ [B.testBit 0]) → w'.cell? ⟨P + 1, 0, none⟩ = some (.pointer (some ⟨P, 0, none⟩)) ∧ w'.cell? ⟨L.p, 1, none⟩ = some (.slice (some ⟨L.lo, 0, none⟩) (nW n) (nW n)) ∧ w'.cell? ⟨L.lo, 0, none⟩ = some (.int .u64 (wd B 0 : Nat))) := hide fun w' hz => by
    have hr : BRep w' L n B := by
      refine hrep2.kept fun b hb => ?_
      obtain ⟨cv, c, hs⟩ := hz.1
      have := hLP b hb
      exact hs.chg.keep b (by omega) (by omega)
    refine ⟨?_, hr.c1, hr.cl (k := 0) (by omega)⟩
    rw [cell_of_row _ _ _ _ _ _ (hz.2.keep _ _ q1 (by omega) (fun cs fr e => by simp at e))]
    rfl
  rw [hP]
  clear hW2 HN HT hb12 hP
  have c1 : W2.cell? ⟨P + 1, 0, none⟩ = some (.pointer (some ⟨P, 0, none⟩)) := by rw [cell_of_row _ _ _ _ _ _ q1]; rfl
  have c2 := hrep2.c1
  have c3 := hrep2.cl (k := 0) (by omega)
  refine wpIn_wide.2 ?_
  have HREP := hide hrep2
  have HBEL := hide hbel2
  have HTAB := hide htab2
  have HQ0 := hide q0
  have HQ1 := hide q1
  clear hrep2 hbel2 htab2 q0 q1
  generalize hdv : B.testBit 0 = dv at *
  generalize hx : wd B 0 = x at *
  clear hx
  generalize nW n = m1 at *
  have hm0 : (0 : Int) < (m1 : Int) := by omega
  have hm1 : 0 < m1 := by omega
  go_region_held3 (fun w' => w'.cell? ⟨P + 1, 0, none⟩ = some (.pointer (some ⟨P, 0, none⟩)) ∧ w'.cell? ⟨L.p, 1, none⟩ = some (.slice (some ⟨L.lo, 0, none⟩) m1 m1) ∧ w'.cell? ⟨L.lo, 0, none⟩ = some (.int .u64 (x : Int))) (first | assumption | (refine ⟨?_, ?_, ?_⟩ <;> assumption) | go_keep)
    (first | (go_at_call 26; refine (HDG.out 1).mono ?_; clear HDG; rintro e w3 ⟨rfl, h3⟩; obtain ⟨s1, s2, s3⟩ := HS3.out _ h3; have H3 := hide h3; clear h3 HS3))
  clear c1 c2 c3 s2 s3 hw0 hm0 hm1 hnw
  gi_wp2_with (refine ⟨trivial, ?_⟩; gi_at_call 27; refine (callsIn_wide.2 (Runs_any _ L)).mono ?_; rintro e w' ⟨rfl, rfl⟩)
  obtain ⟨W0, hW0⟩ : ∃ W0, (w3.alloc (Obj.cells #[Value.int IntKind.i64 0] 3)).alloc (Obj.cells #[PB L] 44) = W0 := ⟨_, rfl⟩
  rw [hW0]
  obtain ⟨Q, hQ⟩ : ∃ Q, w3.heap.size = Q := ⟨_, rfl⟩
  have hs0 : W0.heap.size = Q + 2 := by rw [← hW0, ← hQ]; simp
  have hQ2 : W2.heap.size ≤ Q := by rw [← hQ]; exact H3.out.2.size
  have START : EI W2 W0 P Q L 0 [dv] := by
    have hbw : Below w3.heap.size w3 W0 := by rw [← hW0]; exact ((Below.refl _ _).alloc (Nat.le_refl _) _).alloc (by simp) _
    obtain ⟨cv, c, hws⟩ := H3.out.1
    refine ⟨⟨cv, c, by simpa using hws.below hbw⟩, ?_, ?_, by omega⟩
    · rw [← hW0, ← hQ, Below.heap_alloc _ _ _ (by simp)]; exact Go.heap_alloc_new w3 _
    · rw [← hW0, ← hQ]; have := Go.heap_alloc_new (w3.alloc (Obj.cells #[Value.int IntKind.i64 0] 3)) (Obj.cells #[PB L] 44); rwa [World.size_alloc] at this
  have HRP : Hid (∀ W s D, EI W2 W P Q L s D → BRep W L n B ∧ TabAt W ∧ Below w.heap.size w W ∧ W.cell? ⟨P + 1, 0, none⟩ = some (.pointer (some ⟨P, 0, none⟩)) ∧ W.cell? ⟨Q + 1, 0, none⟩ = some (PB L) ∧ W.cell? ⟨Q, 0, none⟩ = some (.int .i64 (s : Int)) ∧ W.frozen? ⟨Q, 0, none⟩ = false) := hide fun W s D h => by
    have hc := h.chg
    refine ⟨HREP.out.kept fun b hb => hc.keep b (by have := hLP b hb; omega) (by have := hLP b hb; omega), HTAB.out.of (hc.keep _ (by omega) (by omega)), HBEL.out.trans (hc.below (by omega) fun b e => by omega), ?_, ?_, ?_, frozen_of_row _ _ _ _ _ h.plc⟩
    · rw [cell_of_row _ _ _ _ _ _ ((hc.keep (P + 1) (by omega) (by omega)).trans HQ1.out)]; rfl
    · rw [cell_of_row _ _ _ _ _ _ h.clo]; rfl
    · rw [cell_of_row _ _ _ _ _ _ h.plc]; rfl
  have HENC : Hid ([dv] ++ encP B n 0 = encD B n) := hide (by rw [encD, hdv]; rfl)
  rw [hQ]
  clear hW0 H3 hQ s1 HREP HTAB HBEL HQ0 HQ1
  refine wpIn_range_st rfl (by decide) (gf := 54) (lb := #[.pointer (some ⟨Q + 1, 0, none⟩)]) rfl trivial enters38
    (runs_seq _ (Q + 1) L n) (fun _ => rfl)
    (fun s W => s ≤ n ∧ (0 < s → s < n → B.testBit s = false) ∧ ∃ D, EI W2 W P Q L s D ∧ D ++ encP B n s = encD B n ∧ D.length ≤ 2 * s + 1)
    (fun _ _ => False)
    (fun s A B' row hs hg hr => ⟨hs.1, hs.2.1, by obtain ⟨D, e1, e2⟩ := hs.2.2; exact ⟨D, e1.own (by omega) hg hr, e2⟩⟩)
    (fun _ _ _ _ _ hs _ _ => hs)
    (fun s W hs => by obtain ⟨D, e1, e2⟩ := hs.2.2; obtain ⟨r1, r2, r3, r4, r5, r6⟩ := HRP.out W s D e1; exact ⟨⟨B, r1⟩, r2, r5⟩)
    (fun s x s' => fun _ A B' row hs hg hr => by obtain ⟨B2, e1, e2, e3, e4⟩ := hs; exact ⟨B2, own_rep e1 hg hr, e2, e3, e4⟩) (fun s A B' row hs hg hr => by obtain ⟨B2, e1, e2⟩ := hs; exact ⟨B2, own_rep e1 hg hr, e2⟩)
    ⟨Nat.zero_le _, fun h => by omega, [dv], START, HENC.out, by simp⟩
    ?a1 ?assign ?body ?done ?stop
  case assign =>
    intro l x W K hK
    simp only [rnEnc]
    gi_wp2
    exact hK
  case body =>
    rintro l s x s' W hl1 hl2 ⟨hs1, hs2, D, hI, hD1, hD2⟩ ⟨B', hR, hx1, hx2, rfl⟩
    obtain ⟨r1, r2, r3, k1, k2, k3, f3⟩ := HRP.out W s D hI
    obtain rfl := r1.uniq hR
    obtain ⟨i, en⟩ := x
    dsimp only at hx1 hx2 ⊢
    obtain ⟨u1, u2, u3⟩ := run_ends hs1 hx1
    obtain ⟨g1, g2, g3, g4⟩ := nx_facts hx1 hs1
    obtain ⟨a1, a2⟩ := run_all g3 g2
    rw [← hx2] at u2 u3 a1 a2
    have hrun := encP_run (n := n) g1 u2 u3 g4 a1 a2
    have HI := hide hI
    have hl1' := stD_small (i - s)
    have hl2' := stD_small (en - i)
    have HST1 := hide (wstretch_at hI.wz (i - s) (by omega) (by omega) (X := (i : Int) - (s : Int)) (by omega))
    have HNEW : Hid ((D ++ stD (i - s) ++ stD (en - i)) ++ encP B n en = encD B n ∧ (D ++ stD (i - s) ++ stD (en - i)).length ≤ 2 * en + 1) := hide ⟨by rw [← hD1, hrun]; simp, by simp; omega⟩
    have HA2 := hide a2
    have HL1 : Hid ((D ++ stD (i - s)).length ≤ 9000000) := hide (by simp; omega)
    clear START hrun hI hR g3 g4 hx1 hx2 hs2 a1 a2 hD1 hD2 r1 r2 r3 HENC
    gi_wp2_with (first
      | (refine ⟨trivial, ?_⟩; gi_at_call 28; refine (CallsIn.inRound l (callsIn_wide.2 HST1.out)).mono ?_; clear HST1; rintro e w4 ⟨rfl, h4⟩; have HI4 := hide (HI.out.took h4); have HK4 := hide h4.2; have HST2 := hide (wstretch_at HI4.out.wz (en - i) (by omega) HL1.out (X := (en : Int) - (i : Int)) (by omega)); obtain ⟨-, -, -, k1a, -⟩ := HRP.out w4 s _ HI4.out; clear h4)
      | (refine ⟨trivial, ?_⟩; gi_at_call 28; refine (CallsIn.inRound l (callsIn_wide.2 HST2.out)).mono ?_; clear HST2; rintro e w5 ⟨rfl, h5⟩; have HI5 := hide (HI4.out.took h5); have HK5 := hide h5.2; obtain ⟨-, -, -, k1b, -, k3b, f3b⟩ := HRP.out w5 s _ HI5.out; clear h5))
    obtain ⟨cv0, cc0, hws0⟩ := HI.out.ws
    obtain ⟨cv4, cc4, hws4⟩ := HI4.out.ws
    exact ⟨((keeps_TF HK4.out hws0.row).trans (keeps_TF HK5.out hws4.row)).trans (keeps_put HI5.out.plc), u3, fun _ h => HA2.out h, _, HI5.out.put hQ2 (by omega), HNEW.out⟩
  case done =>
    rintro DD s W hDD ⟨B', hR, hx⟩ ⟨hs1, hs2, D, hI, hD1, hD2⟩ hK
    obtain ⟨r1, r2, r3, k1, k2, k3, f3⟩ := HRP.out W s D hI
    obtain rfl := r1.uniq hR
    have z := nx_no hx
    have henc := encP_clear hs1 z
    have HI := hide hI
    have HKD := hide hK
    have HST1 := hide (wstretch_at hI.wz (n - s) (by omega) (by omega) (X := (n : Int) - (s : Int)) (by omega))
    have HFULL : Hid (D ++ stD (n - s) = encD B n) := hide (by rw [← hD1, henc])
    clear START hI hR hx z hK hs2 henc hD1 r1 r2 r3 HENC
    gi_wp2_with (refine ⟨trivial, ?_⟩; gi_at_call 28; refine (callsIn_wide.2 HST1.out).mono ?_; clear HST1; rintro e w4 ⟨rfl, h4⟩; have HI4 := hide (HI.out.took h4); have HK4 := hide h4.2; obtain ⟨-, -, hb4, k1a, -⟩ := HRP.out w4 s _ HI4.out; have HB4 := hide hb4; obtain ⟨cv4, cc4, hws4⟩ := HI4.out.ws; have HW4 := hide hws4; have kc : w4.cell? ⟨P, 0, none⟩ = some cv4 := cell_of_row _ _ _ _ _ _ hws4.row; clear h4 hb4 hws4)
    have hkd : w4.heap[DD]? = some (.deferred (some [])) := HK4.out.keep _ _ HKD.out (by omega) (fun cs fr e => by simp at e)
    have hg : w4.grownBy (w4.putObj DD (.deferred none)) (some DD) := grownBy_putObj' w4 DD _
    have hown : (w4.putObj DD (.deferred none)).ownsRow w.heap.size 5 1 cv4 cc4.length (cc4.map byV) := by
      refine own_high (rowK8 HW4.out.own fun b e => ?_) fun b e => ?_
      · obtain ⟨cs, hcs⟩ := HW4.out.blk e
        rw [hcs]
        exact own_blk (N := W0.heap.size) hcs hg (fun r e => by cases e; exact ⟨hDD, _, hkd, rfl⟩)
      · have := HW4.out.loc b e
        omega
    have hbel : Below w.heap.size w (w4.putObj DD (.deferred none)) := HB4.out.grown hg (by have := HB4.out.size; omega) (fun k e => by cases e; omega)
    refine ⟨by simp, .inl ⟨_, _, rfl, run_takeDeferred hkd, ?_⟩⟩
    refine ⟨_, results_tmp2 rfl _ _ _, ?_⟩
    exact ⟨cv4, cc4, rfl, hown, by rw [← HFULL.out]; exact HW4.out.wrt, hbel⟩
  case stop =>
    rintro D c W hD h hK
    exact h.elim
end Go.Proofs.YtglajdmkbckjjabDoor
namespace Go.Proofs.YtglajdmkbckjjabDoor
open Go.RowKit
set_option linter.unusedVariables false
set_option linter.unusedSimpArgs false
set_option maxRecDepth 20000

theorem CSl.blk {w : World} {cv : Value} {c : List Nat} (h : CSl w cv c) {w' : World} (hb : Below w.heap.size w w') : CSl w' cv c := by
  obtain ⟨a, cap, rfl, h1, h2, h3, h4⟩ := h
  refine ⟨a, cap, rfl, h1, h2, h3, fun h0 => ?_⟩
  obtain ⟨b, off, rfl, hc⟩ := h4 h0
  exact ⟨b, off, rfl, fun i hi => by rw [World.cell?_of_block (hb.block b (World.block_lt_of_cell? w _ (hc i hi)))]; exact hc i hi⟩
/-- a bitmap that is read, and its reader -/
structure RB (w wr : World) (p : Nat) (cv : Value) (c : List Nat) (T : Nat) (L : BL) (n B : Nat) : Prop where
  rd : RdM wr p cv T
  sl : CSl w cv c
  bm : BRep wr L n B
  bel : Below w.heap.size w wr
  pN : w.heap.size ≤ p
  lN : ∀ b, L.U b → w.heap.size ≤ b ∧ b ≠ p
theorem RB.rs {w wr : World} {p T n B : Nat} {cv : Value} {c : List Nat} {L : BL} (h : RB w wr p cv c T L n B) : RS wr wr p cv c T := ⟨h.rd, h.sl.blk h.bel, Chg.refl _ _⟩
theorem RB.took {w wr w' : World} {p T T' n B : Nat} {cv : Value} {c : List Nat} {L : BL} (h : RB w wr p cv c T L n B) (hs : RS wr w' p cv c T') : RB w w' p cv c T' L n B :=
  ⟨hs.rd, h.sl, h.bm.chg hs.chg fun b hb => (h.lN b hb).2, h.bel.trans (hs.chg.below h.bel.size fun b e => by rw [e]; exact h.pN), h.pN, h.lN⟩
theorem RB.set {w wr w' : World} {p T n B B' : Nat} {cv : Value} {c : List Nat} {L : BL} (h : RB w wr p cv c T L n B) (hb : BRep w' L n B') (hc : Chg L.U wr w') : RB w w' p cv c T L n B' := by
  refine ⟨?_, h.sl, hb, h.bel.trans (hc.below h.bel.size fun b hU => (h.lN b hU).1), h.pN, h.lN⟩
  exact (hc.keep p (Array.getElem?_eq_some_iff.1 h.rd).1 fun hU => (h.lN p hU).2 rfl).trans h.rd
theorem rdR_go {n f p : Nat} {s : Bool} {B : Nat} (hp : p < n) (ds : List Bool) : rdR n (f + 1) p s B ds = bndR (stR (n - p)) (fun x _ => rdR n f (p + x) (!s) (if s then setR B p (p + x) else B)) ds := by
  conv => lhs; unfold rdR
  rw [if_pos hp]
theorem rdR_end {n f p : Nat} {s : Bool} {B : Nat} (hp : ¬ p < n) (ds : List Bool) : rdR n (f + 1) p s B ds = (0, some B) := by
  conv => lhs; unfold rdR
  rw [if_neg hp]
  rfl
theorem st_le {most : Nat} (hm : 1 ≤ most) {ds : List Bool} {c x : Nat} (h : stR most ds = (c, some x)) : 1 ≤ x ∧ x ≤ most := (st_is hm h).2.2
def readR (n : Nat) : Rd Nat := bndR dgR fun d _ => rdR n (n + 1) 0 d 0
/-- what is left to read -/
def Stt (R : Nat × Option Nat) (n : Nat) (ok s : Bool) (pl T B : Nat) (c : List Nat) : Prop := if ok = true then ∃ f, n - pl < f ∧ Lft R T (rdR n f pl s B ((digs c).drop T)) else R = (T, none)
theorem stt_start {n : Nat} (c : List Nat) : Stt (readR n (digs c)) n (dgR (digs c)).2.isSome ((dgR (digs c)).2.getD false) 0 1 0 c := by
  unfold Stt
  cases hd : digs c with
  | nil =>
    rw [if_neg (by simp [dgR])]
    rfl
  | cons d l =>
    rw [if_pos (by rfl)]
    refine ⟨n + 1, by omega, ?_⟩
    unfold Lft readR
    rw [bndR_some (c := 1) (a := d) rfl]
    rfl
theorem stt_go {R : Nat × Option Nat} {n pl T B : Nat} {s : Bool} {c : List Nat} (h : Stt R n true s pl T B c) (hp : pl < n) : (∀ k, stR (n - pl) ((digs c).drop T) = (k, none) → Stt R n false (!s) pl (T + k) B c) ∧ (∀ k x, stR (n - pl) ((digs c).drop T) = (k, some x) → Stt R n true (!s) (pl + x) (T + k) (if s then setR B pl (pl + x) else B) c) := by
  unfold Stt at h
  rw [if_pos rfl] at h
  obtain ⟨f, hf, hL⟩ := h
  obtain ⟨f, rfl⟩ : ∃ g, f = g + 1 := ⟨f - 1, by omega⟩
  unfold Lft at hL
  rw [rdR_go hp] at hL
  refine ⟨fun k hk => ?_, fun k x hk => ?_⟩
  · rw [bndR_none hk] at hL
    unfold Stt
    rw [if_neg (by simp)]
    exact hL
  · rw [bndR_some hk] at hL
    have := (st_le (by omega) hk).1
    unfold Stt
    rw [if_pos rfl]
    refine ⟨f, by omega, ?_⟩
    unfold Lft
    rw [hL, List.drop_drop]
    exact Prod.ext (by show T + (k + _) = T + k + _; omega) rfl
theorem stt_end {R : Nat × Option Nat} {n pl T B : Nat} {s : Bool} {c : List Nat} (h : Stt R n true s pl T B c) (hp : ¬ pl < n) : R = (T, some B) := by
  unfold Stt at h
  rw [if_pos rfl] at h
  obtain ⟨f, hf, hL⟩ := h
  obtain ⟨f, rfl⟩ : ∃ g, f = g + 1 := ⟨f - 1, by omega⟩
  unfold Lft at hL
  rw [rdR_end hp] at hL
  exact hL
set_option maxHeartbeats 2000000 in
theorem read_any {w w1 : World} {p n : Nat} {cv : Value} {c : List Nat} {L : BL} (h : RB w w1 p cv c 0 L n 0) (hc : c.length ≤ 150000000000000) :
    Calls Tryd.prog 30 #[PB L, .pointer (some ⟨p, 0, none⟩)] w1 fun e w' => e = .returned (.bool (readR n (digs c)).2.isSome) ∧ ∃ B, RB w w' p cv c (readR n (digs c)).1 L n B ∧ ((readR n (digs c)).2.isSome = true → (readR n (digs c)).2 = some B) := by
  have hst := stt_start (n := n) c
  have HD := hide (h.rs.digit (by decide))
  rw [List.drop_zero] at HD
  have hpos : (dgR (digs c)).2.isSome = true → 1 ≤ 8 * c.length := fun hs => by
    rw [← digs_len]
    cases hd : digs c with
    | nil => rw [hd] at hs; cases hs
    | cons d l => simp
  obtain ⟨R, hR⟩ : ∃ R, readR n (digs c) = R := ⟨_, rfl⟩
  rw [hR] at hst ⊢
  have HST := hide hst
  have HH := hide h
  have hn := h.bm.n2
  have hn1 := h.bm.n1
  clear hR h hst
  generalize (dgR (digs c)).2 = o at *
  generalize o.isSome = okb at *
  generalize o.getD false = dv at *
  have hset : (((dv.toNat : Nat) : Int) == 1) = dv := by cases dv <;> rfl
  have HLEN := hide hc
  have HPOS := hide hpos
  clear hc hpos
  unfold PB
  go_enter Tryd.func30, Tryd.ntmps30
  go_wp2_with (go_at_call 59; refine HD.out.mono ?_; clear HD; rintro e w' ⟨rfl, h8⟩; have H8 := hide (HH.out.took h8); clear h8)
  clear HH
  go_loopw [6, 7, 8] (fun z6 z7 z8 wr => ∃ (ok s : Bool) (pl T B : Nat), z6 = .bool ok ∧ z7 = .bool s ∧ z8 = .int .i64 (pl : Int) ∧ pl ≤ n ∧ Hid ((ok = true → T ≤ 8 * c.length) ∧ T ≤ 8 * c.length + 1) ∧ Hid (RB w wr p cv c T L n B) ∧ Hid (Stt R n ok s pl T B c)) (fun z6 _ z8 _ => 2 * (n - (intOf z8).toNat) + (match z6 with | .bool b => b.toNat | _ => 0))
  case atStart => exact ⟨okb, dv, 0, 1, 0, rfl, rfl, rfl, by omega, hide ⟨HPOS.out, by omega⟩, H8, HST⟩
  case round =>
    clear HST H8 hset HPOS
    obtain ⟨ok, s, pl, T, B, rfl, rfl, rfl, hpl, HT, HB, HS⟩ := hrel
    cases ok with
    | false =>
      have HR2 : Hid (R = (T, none)) := hide HS.out
      clear HS
      go_wp2_with fail
      go_ret
      rw [HR2.out]
      exact ⟨rfl, B, HB.out, fun h => by cases h⟩
    | true =>
      have c0 := HB.out.bm.c0
      by_cases hlt : pl < n
      · have hli : (pl : Int) < (n : Int) := by omega
        have hsub : (n : Int) - (pl : Int) = ((n - pl : Nat) : Int) := by omega
        have HST := hide (stretch_any HB.out.rs (by have := HT.out.2; have := HLEN.out; omega) (n - pl) (by omega) (by omega))
        obtain ⟨hgo1, hgo2⟩ := stt_go HS.out hlt
        have HG1 := hide hgo1
        have HG2 := hide hgo2
        have hle : ∀ k x, stR (n - pl) ((digs c).drop T) = (k, some x) → 1 ≤ x ∧ pl + x ≤ n ∧ T + k ≤ 8 * c.length := fun k x hk => by
          have h1 := st_le (by omega) hk
          have h2 := (good_st (n - pl)).sle _ _ _ hk
          rw [List.length_drop, digs_len] at h2
          have := HT.out.1 rfl
          omega
        have hle2 : T + (stR (n - pl) ((digs c).drop T)).1 ≤ 8 * c.length + 1 := by
          have := HT.out.1 rfl
          have h2 := (good_st (n - pl)).le ((digs c).drop T)
          rw [List.length_drop, digs_len] at h2
          omega
        have HLE := hide hle
        have HLE2 := hide hle2
        clear hgo1 hgo2 hle hle2 HS
        generalize stR (n - pl) ((digs c).drop T) = q at *
        obtain ⟨k, o⟩ := q
        cases o with
        | none =>
          simp only [Option.getD, Option.isSome] at HST
          have HS2 := hide (HG1.out k rfl)
          clear HG1 HG2 HLE
          go_wp2_with (go_at_call 60; refine HST.out.mono ?_; clear HST; rintro e w' ⟨rfl, h8⟩; have H8 := hide (HB.out.took h8); clear h8)
          go_roundw
          case rel => exact ⟨false, !s, pl, T + k, B, rfl, rfl, by go_num, hpl, hide ⟨(fun h => by cases h), HLE2.out⟩, H8, HS2⟩
          case measure => simp [intOf]
        | some x =>
          simp only [Option.getD, Option.isSome] at HST
          have HS2 := hide (HG2.out k x rfl)
          obtain ⟨x1, x2, x3⟩ := HLE.out k x rfl
          have HX3 := hide x3
          clear HG1 HG2 HLE HLE2 x3
          cases s with
          | true =>
            go_wp2_with (first
              | (go_at_call 60; refine HST.out.mono ?_; clear HST; rintro e w' ⟨rfl, h8⟩; have H8 := hide (HB.out.took h8); have HSR := hide (SetRange_any (a := pl) (c := x) H8.out.bm x2); unfold PB at HSR; clear h8)
              | (go_at_call 61; refine HSR.out.mono ?_; clear HSR; rintro e w9 ⟨rfl, hb9, hc9⟩; have H9 := hide (H8.out.set hb9 hc9); clear hb9 hc9))
            go_roundw
            case rel => exact ⟨true, false, pl + x, T + k, _, rfl, rfl, by go_num, x2, hide ⟨fun _ => HX3.out, by have := HX3.out; omega⟩, H9, HS2⟩
            case measure => simp [intOf]; omega
          | false =>
            go_wp2_with (first
              | (go_at_call 60; refine HST.out.mono ?_; clear HST; rintro e w' ⟨rfl, h8⟩; have H8 := hide (HB.out.took h8); clear h8))
            go_roundw
            case rel => exact ⟨true, true, pl + x, T + k, _, rfl, rfl, by go_num, x2, hide ⟨fun _ => HX3.out, by have := HX3.out; omega⟩, H8, HS2⟩
            case measure => simp [intOf]; omega
      · have hli : ¬ (pl : Int) < (n : Int) := by omega
        have HR2 := hide (stt_end HS.out hlt)
        clear HS
        go_wp2_with fail
        go_ret
        rw [HR2.out]
        exact ⟨rfl, B, HB.out, fun _ => rfl⟩
end Go.Proofs.YtglajdmkbckjjabDoor
namespace Go.Proofs.YtglajdmkbckjjabDoor
open Go.RowKit
set_option linter.unusedVariables false
set_option linter.unusedSimpArgs false
set_option maxRecDepth 20000

theorem pad_step {T : Nat} (h : ¬ T % 8 = 0) (d : Bool) (l : List Bool) : padR (fil T) (d :: l) = if d = true then (1, none) else (1 + (padR (fil (T + 1)) l).1, (padR (fil (T + 1)) l).2) := by
  have e : fil T = fil (T + 1) + 1 := by unfold fil; omega
  rw [e]
  conv => lhs; unfold padR
  rw [bndR_some (c := 1) (a := d) rfl]
  cases d with
  | true => rfl
  | false => rfl
theorem pad_zero {T : Nat} (h : T % 8 = 0) (l : List Bool) : padR (fil T) l = (0, some ()) := by
  have e : fil T = 0 := by unfold fil; omega
  rw [e]
  rfl
/-- what atEnd says, and where the reader is then -/
def endB (c : List Nat) (T : Nat) : Bool := (padR (fil T) ((digs c).drop T)).2.isSome && decide (¬ (T + (padR (fil T) ((digs c).drop T)).1) / 8 < c.length)
def endT (c : List Nat) (T : Nat) : Nat := T + (padR (fil T) ((digs c).drop T)).1 + (if (padR (fil T) ((digs c).drop T)).2.isSome then 1 else 0)
theorem end_zero {c : List Nat} {T : Nat} (h : T % 8 = 0) : endB c T = decide (¬ T / 8 < c.length) ∧ endT c T = T + 1 := by
  unfold endB endT
  rw [pad_zero h]
  simp
theorem end_one {c : List Nat} {T : Nat} (h : ¬ T % 8 = 0) (l : List Bool) (hd : (digs c).drop T = true :: l) : endB c T = false ∧ endT c T = T + 1 := by
  unfold endB endT
  rw [hd, pad_step h, if_pos rfl]
  simp
theorem end_go {c : List Nat} {T : Nat} (h : ¬ T % 8 = 0) (hd : (digs c).drop T = false :: (digs c).drop (T + 1)) : endB c T = endB c (T + 1) ∧ endT c T = endT c (T + 1) := by
  unfold endB endT
  rw [hd, pad_step h, if_neg (by simp)]
  dsimp only
  rw [← Nat.add_assoc]
  exact ⟨rfl, rfl⟩
set_option maxHeartbeats 1000000 in
theorem atEnd_any {w0 w : World} {p T : Nat} {cv : Value} {c : List Nat} (h : RS w0 w p cv c T) (hT : T ≤ 8 * c.length) (hc : c.length ≤ 150000000000000) :
    Calls Tryd.prog 31 #[.pointer (some ⟨p, 0, none⟩)] w fun e w' => e = .returned (.bool (endB c T)) ∧ RS w0 w' p cv c (endT c T) := by
  obtain ⟨E, hE⟩ : ∃ E, endB c T = E := ⟨_, rfl⟩
  obtain ⟨F, hF⟩ : ∃ F, endT c T = F := ⟨_, rfl⟩
  rw [hE, hF]
  have HS := hide h
  have HE := hide (And.intro hE hF)
  have HTL := hide hT
  have HLEN := hide hc
  clear hE hF h hT hc
  go_enter Tryd.func31, Tryd.ntmps31
  go_wp2_with fail
  go_loopw [] (fun wr => ∃ T' : Nat, Hid (T' ≤ 8 * c.length) ∧ Hid (RS w0 wr p cv c T') ∧ Hid (endB c T' = E ∧ endT c T' = F)) (fun wr => match wr.cell? ⟨p, 1, none⟩ with | some (.int _ x) => (8 * c.length - x.toNat) | _ => 0)
  case atStart => exact ⟨T, HTL, HS, HE⟩
  case round =>
    clear HS HE HTL
    obtain ⟨T', HT, HS, HE⟩ := hrel
    obtain ⟨a, cap, hcv, -⟩ := HS.out.sl
    have c1 : wr.cell? ⟨p, 1, none⟩ = some (.int .i64 (T' : Int)) := cell_of_row _ _ _ _ _ _ HS.out.rd
    have hTb : T' < 4611686018427387904 := by have := HT.out; have := HLEN.out; omega
    have HD := hide (HS.out.digit hTb)
    by_cases h8 : T' % 8 = 0
    · obtain ⟨e1, e2⟩ := end_zero (c := c) h8
      have HE2 : Hid (E = decide (¬ T' / 8 < c.length) ∧ F = T' + 1) := hide ⟨HE.out.1.symm.trans e1, HE.out.2.symm.trans e2⟩
      have h8i : (T' : Int) % 8 = 0 := by omega
      have hsome : (dgR ((digs c).drop T')).2.isSome = decide (T' / 8 < c.length) := by
        by_cases hin : T' / 8 < c.length
        · rw [digs_drop_get hin]; simp [dgR, hin]
        · rw [digs_drop_end hin]; simp [dgR, hin]
      rw [hsome] at HD
      clear e1 e2 HE hsome h8
      generalize ((dgR ((digs c).drop T')).2.getD false).toNat = dv at *
      go_wp2_with (go_at_call 59; refine HD.out.mono ?_; clear HD; rintro e w' ⟨rfl, h9⟩; have H9 := hide h9; clear h9)
      go_ret
      exact ⟨by rw [HE2.out.1, decide_not]; rfl, by rw [HE2.out.2]; exact H9.out⟩
    · have hin : T' / 8 < c.length := by have := HT.out; omega
      have h8i : ((T' : Int) % 8 == 0) = false := by simp; omega
      have hdrop := digs_drop_get hin
      have HT2 : Hid (T' + 1 ≤ 8 * c.length) := hide (by have := HT.out; omega)
      cases hd : (c.getD (T' / 8) 0).testBit (7 - T' % 8) with
      | true =>
        rw [hd] at hdrop
        obtain ⟨e1, e2⟩ := end_one h8 _ hdrop
        have HE2 : Hid (E = false ∧ F = T' + 1) := hide ⟨HE.out.1.symm.trans e1, HE.out.2.symm.trans e2⟩
        rw [hdrop] at HD
        simp only [dgR, Option.getD, Option.isSome, Bool.toNat_true] at HD
        clear e1 e2 HE hd hdrop h8
        go_wp2_with (go_at_call 59; refine HD.out.mono ?_; clear HD; rintro e w' ⟨rfl, h9⟩; have H9 := hide h9; clear h9)
        go_ret
        exact ⟨by rw [HE2.out.1]; rfl, by rw [HE2.out.2]; exact H9.out⟩
      | false =>
        rw [hd] at hdrop
        obtain ⟨e1, e2⟩ := end_go h8 hdrop
        have HE2 : Hid (endB c (T' + 1) = E ∧ endT c (T' + 1) = F) := hide ⟨e1.symm.trans HE.out.1, e2.symm.trans HE.out.2⟩
        rw [hdrop] at HD
        simp only [dgR, Option.getD, Option.isSome, Bool.toNat_false] at HD
        clear e1 e2 HE hd hdrop h8
        go_wp2_with (go_at_call 59; refine HD.out.mono ?_; clear HD; rintro e w' ⟨rfl, h9⟩; have H9 := hide h9; clear h9)
        go_roundw
        case rel => exact ⟨T' + 1, HT2, H9, HE2⟩
        case measure =>
          have c2 : w'.cell? ⟨p, 1, none⟩ = some (.int .i64 ((T' + 1 : Nat) : Int)) := cell_of_row _ _ _ _ _ _ H9.out.rd
          rw [c1, c2]
          have := HT2.out
          show 8 * c.length - (((T' + 1 : Nat) : Int)).toNat < 8 * c.length - ((T' : Int)).toNat
          omega
theorem fault_any {w : World} {p T : Nat} {cv : Value} (h : RdM w p cv T) (hT : T < 4611686018427387904) (h1 : 1 ≤ T) :
    Calls Tryd.prog 32 #[.pointer (some ⟨p, 0, none⟩)] w fun e w' => e = .returned (.int .i64 (((T - 1) / 8 : Nat) : Int)) ∧ w' = w := by
  have c1 : w.cell? ⟨p, 1, none⟩ = some (.int .i64 (T : Int)) := cell_of_row _ _ _ _ _ _ h
  have hq : ((T : Int) - 1).tdiv 8 = (((T - 1) / 8 : Nat) : Int) := by rw [Int.tdiv_eq_ediv_of_nonneg (by omega)]; omega
  have hq2 : ((T : Int) - 1) / 8 = (((T - 1) / 8 : Nat) : Int) := by omega
  go_enter Tryd.func32, Tryd.ntmps32
  go_wp2_with fail
  go_ret
  exact ⟨by first | rfl | (rw [← hq2]; rfl), rfl⟩
/-- what Decode says: the bits; or the place -/
def dOut (n : Nat) (c : List Nat) : Option Nat × Nat := match decR n (digs c) with
  | (k, none) => (none, (k - 1) / 8)
  | (k, some B) => if k < 8 * c.length then (none, k / 8) else (some B, 0)
theorem dOut_no {n : Nat} {c : List Nat} {k : Nat} (h : readR n (digs c) = (k, none)) : dOut n c = (none, (k - 1) / 8) := by
  unfold dOut
  have : decR n (digs c) = (k, none) := bndR_none h
  rw [this]
theorem dOut_some {n : Nat} {c : List Nat} {k B : Nat} (h : readR n (digs c) = (k, some B)) (hk : k ≤ 8 * c.length) : dOut n c = if endB c k = true then (some B, 0) else (none, (endT c k - 1) / 8) := by
  unfold dOut endB endT
  have e : decR n (digs c) = (k + (bndR (padR (fil k)) (fun _ _ => retR B) ((digs c).drop k)).1, (bndR (padR (fil k)) (fun _ _ => retR B) ((digs c).drop k)).2) := bndR_some h
  rw [e]
  cases hp : padR (fil k) ((digs c).drop k) with
  | mk j o =>
    cases o with
    | none =>
      rw [bndR_none hp]
      simp
    | some u =>
      rw [bndR_some hp]
      have hj := (pad_is _ _ _ _ hp).1
      have h8 : (k + j) % 8 = 0 := by rw [hj]; unfold fil; omega
      by_cases hlt : k + j < 8 * c.length
      · have h1 : (k + j) / 8 < c.length := by omega
        simp [retR, hlt, h1]
      · have h1 : ¬ (k + j) / 8 < c.length := by omega
        simp [retR, hlt, h1]
end Go.Proofs.YtglajdmkbckjjabDoor
namespace Go.Proofs.YtglajdmkbckjjabDoor
open Go.RowKit
set_option linter.unusedVariables false
set_option linter.unusedSimpArgs false
set_option maxRecDepth 20000

theorem good_read (n : Nat) : Good (readR n) := good_bnd good_dg fun d _ => good_rd n (n + 1) 0 d 0
/-- what Decode hands back -/
def DcP (w : World) (n : Nat) (q : Option Nat × Nat) (e : Ending) (w' : World) : Prop := match q.1 with
  | some B => ∃ v', e = .returned (.tuple #[v', .int .i64 0, .int .i64 0]) ∧ w'.ownsRow w.heap.size 62 1 v' (nW n) ((wds B (nW n)).map u64V) ∧ WSl w' v' (wds B (nW n)) ∧ B < 2 ^ n ∧ Below w.heap.size w w'
  | none => e = .returned (.tuple #[.slice none 0 0, .int .i64 (q.2 : Nat), .int .i64 31]) ∧ Below w.heap.size w w'
theorem decode_no {w : World} (n : Int) (cv : Value) (h : ¬ (1 ≤ n ∧ n ≤ 65536)) : Calls Tryd.prog 12 #[.int .i64 n, cv] w fun e w' => e = .returned (.tuple #[.slice none 0 0, .int .i64 0, .int .i64 1]) ∧ Below w.heap.size w w' := by
  have HN := hide (New_no w n h)
  go_enter Tryd.func12, Tryd.ntmps12
  go_wp2_with (go_at_call 29; refine HN.out.mono ?_; rintro e w' ⟨rfl, hw⟩; have hw2 := hw.symm; clear hw; subst hw2)
  refine bodyPost_ret (results_tmp3 rfl _ _ _) rfl ?_
  exact ⟨rfl, Below.refl _ _⟩
theorem own_low {w : World} {b b' : Nat} {e : TypeId} {size : Nat} {v : Value} {n : Nat} {xs : List Value} (h : w.ownsRow b e size v n xs) (hb : b' ≤ b) : w.ownsRow b' e size v n xs := by
  refine ⟨h.1, ?_⟩
  rcases h.2 with h0 | ⟨g, cap, cur, rfl, h1, r⟩
  · exact .inl h0
  · exact .inr ⟨g, cap, cur, rfl, Nat.le_trans hb h1, r⟩
set_option maxHeartbeats 2000000 in
theorem decode_any {w : World} {n : Nat} {cv : Value} {c : List Nat} (h1 : 1 ≤ n) (h2 : n ≤ 65536) (hc : CSl w cv c) (hl : c.length ≤ 150000000000000) :
    Calls Tryd.prog 12 #[.int .i64 (n : Int), cv] w (DcP w n (dOut n c)) := by
  have HN := hide (New_any w n h1 h2)
  have HST : Hid (∀ w1 L, BNewAt w w1 L n 0 → RB w (w1.alloc (.cells #[cv, .int .i64 0] 78)) w1.heap.size cv c 0 L n 0) := hide fun w1 L hN => by
    obtain ⟨hb, hbl, hu⟩ := hN
    refine ⟨Go.heap_alloc_new w1 _, hc, hb.below ((Below.refl _ _).alloc (Nat.le_refl _) _), hbl.alloc hbl.size _, hbl.size, fun b hU => ⟨hu b hU, fun e => ?_⟩⟩
    have := hb.uLt b hU
    omega
  have HRD := hide fun (w2 : World) (p : Nat) (L : BL) (h : RB w w2 p cv c 0 L n 0) => read_any h hl
  have hrk : ∀ k B, readR n (digs c) = (k, some B) → k ≤ 8 * c.length := fun k B h => by
    have := (good_read n).sle _ _ _ h
    rwa [digs_len] at this
  have hr1 : 1 ≤ (readR n (digs c)).1 ∧ (readR n (digs c)).1 ≤ 8 * c.length + 1 := by
    refine ⟨?_, ?_⟩
    · unfold readR
      cases hd : digs c with
      | nil => exact Nat.le_refl _
      | cons d l =>
        rw [bndR_some (c := 1) (a := d) rfl]
        show 1 ≤ 1 + _
        omega
    · have := (good_read n).le (digs c)
      rwa [digs_len] at this
  have HNO := hide fun k h => dOut_no (n := n) (c := c) (k := k) h
  have HSO := hide fun k B h hk => dOut_some (n := n) (c := c) (k := k) (B := B) h hk
  obtain ⟨Q, hQ⟩ : ∃ Q, dOut n c = Q := ⟨_, rfl⟩
  rw [hQ] at HNO HSO ⊢
  clear hQ
  have HL := hide hl
  obtain ⟨a, cap, rfl, -⟩ := hc
  clear hl
  generalize readR n (digs c) = q at *
  obtain ⟨k, o⟩ := q
  dsimp only at hr1 HRD
  have HK1 := hide hr1
  clear hr1
  cases o with
  | none =>
    have HQ := hide (HNO.out k rfl)
    simp only [Option.isSome] at HRD
    clear hrk HNO HSO
    go_enter Tryd.func12, Tryd.ntmps12
    go_wp2_with (first
      | (go_at_call 29; refine HN.out.mono ?_; clear HN; rintro e w1 ⟨L, rfl, hN⟩; have HS := hide (HST.out w1 L hN); clear hN HST; unfold PB; have HR := hide (HRD.out _ _ _ HS.out); clear HRD; unfold PB at HR)
      | (go_at_call 30; refine HR.out.mono ?_; clear HR; rintro e w2 ⟨rfl, B, hB, -⟩; have HB := hide hB; have HF := hide (fault_any hB.rd (by have := HK1.out; have := HL.out; omega) HK1.out.1); clear hB)
      | (go_at_call 32; refine HF.out.mono ?_; clear HF; rintro e w3 ⟨rfl, hw⟩; have hw2 := hw.symm; clear hw; subst hw2))
    refine bodyPost_ret (results_tmp3 rfl _ _ _) rfl ?_
    rw [HQ.out]
    exact ⟨rfl, HB.out.bel⟩
  | some B0 =>
    have hk := hrk k B0 rfl
    have HQ := hide (HSO.out k B0 rfl hk)
    have HKL := hide hk
    simp only [Option.isSome] at HRD
    clear hrk HNO HSO hk
    have hte : 1 ≤ endT c k ∧ endT c k ≤ 8 * c.length + 10 := by
      unfold endT
      have := HK1.out.1
      have h1 := (good_pad (fil k)).le ((digs c).drop k)
      rw [List.length_drop, digs_len] at h1
      have := HKL.out
      split <;> omega
    have HTE := hide hte
    clear hte
    cases he : endB c k with
    | true =>
      rw [he, if_pos rfl] at HQ
      have HAE := hide fun (w1 w2 : World) (p : Nat) (h : RS w1 w2 p (.slice a c.length cap) c k) => atEnd_any h HKL.out HL.out
      rw [he] at HAE
      clear he
      go_enter Tryd.func12, Tryd.ntmps12
      go_wp2_with (first
        | (go_at_call 29; refine HN.out.mono ?_; clear HN; rintro e w1 ⟨L, rfl, hN⟩; have HS := hide (HST.out w1 L hN); clear hN HST; unfold PB; have HR := hide (HRD.out _ _ _ HS.out); clear HRD; unfold PB at HR)
        | (go_at_call 30; refine HR.out.mono ?_; clear HR; rintro e w2 ⟨rfl, B, hB, hBB⟩; obtain rfl : B0 = B := (by simpa using hBB); have HB := hide hB; have HA := hide (HAE.out _ _ _ hB.rs); clear hB hBB HAE)
        | (go_at_call 31; refine HA.out.mono ?_; clear HA; rintro e w3 ⟨rfl, h3⟩; have HB3 := hide (HB.out.took h3); have HWD := hide (Words_any HB3.out.bm); unfold PB at HWD; clear h3)
        | (go_at_call 33; refine HWD.out.mono ?_; clear HWD; rintro e w4 ⟨v', rfl, ho4, hs4, hb4⟩; have HFIN : Hid (w4.ownsRow w.heap.size 62 1 v' (nW n) ((wds B0 (nW n)).map u64V) ∧ WSl w4 v' (wds B0 (nW n)) ∧ B0 < 2 ^ n ∧ Below w.heap.size w w4) := hide ⟨own_low ho4 HB3.out.bel.size, hs4, HB3.out.bm.hB, HB3.out.bel.trans (hb4.mono HB3.out.bel.size)⟩; obtain ⟨va, vcap, rfl, -⟩ := hs4; clear ho4 hb4))
      refine bodyPost_ret (results_tmp3 rfl _ _ _) rfl ?_
      rw [HQ.out]
      exact ⟨_, rfl, HFIN.out⟩
    | false =>
      rw [he, if_neg (by simp)] at HQ
      have HAE := hide fun (w1 w2 : World) (p : Nat) (h : RS w1 w2 p (.slice a c.length cap) c k) => atEnd_any h HKL.out HL.out
      rw [he] at HAE
      clear he
      go_enter Tryd.func12, Tryd.ntmps12
      go_wp2_with (first
        | (go_at_call 29; refine HN.out.mono ?_; clear HN; rintro e w1 ⟨L, rfl, hN⟩; have HS := hide (HST.out w1 L hN); clear hN HST; unfold PB; have HR := hide (HRD.out _ _ _ HS.out); clear HRD; unfold PB at HR)
        | (go_at_call 30; refine HR.out.mono ?_; clear HR; rintro e w2 ⟨rfl, B, hB, hBB⟩; have HB := hide hB; have HA := hide (HAE.out _ _ _ hB.rs); clear hB hBB HAE)
        | (go_at_call 31; refine HA.out.mono ?_; clear HA; rintro e w3 ⟨rfl, h3⟩; have HB3 := hide (HB.out.took h3); have HF := hide (fault_any HB3.out.rd (by have := HTE.out; have := HL.out; omega) HTE.out.1); clear h3)
        | (go_at_call 32; refine HF.out.mono ?_; clear HF; rintro e w4 ⟨rfl, hw⟩; have hw2 := hw.symm; clear hw; subst hw2))
      refine bodyPost_ret (results_tmp3 rfl _ _ _) rfl ?_
      rw [HQ.out]
      exact ⟨rfl, HB3.out.bel⟩
end Go.Proofs.YtglajdmkbckjjabDoor
namespace Go.Proofs.YtglajdmkbckjjabDoor
open Go.RowKit Go.Shelf
set_option linter.unusedVariables false
set_option linter.unusedSimpArgs false
set_option maxRecDepth 20000

theorem can_true {n : Int} {l : List Nat} (h : canB n l = true) : ∃ m : Nat, n = (m : Int) ∧ 1 ≤ m ∧ m ≤ 65536 ∧ cwErr m l = 0 := by
  have h' := of_decide_eq_true h
  exact ⟨n.toNat, by omega, by omega, by omega, h'.2.2⟩

theorem own_csl {w : World} {b : Nat} {cv : Value} {c : List Nat} (h : w.ownsRow b 5 1 cv c.length (c.map byV)) (hb : ∀ x ∈ c, x < 256) : CSl w cv c := by
  rcases h.2 with ⟨rfl, hz⟩ | ⟨g, cap, cur, rfl, _, hh, h1, h2, _⟩
  · exact ⟨none, 0, by rw [hz], by omega, Nat.zero_le _, hb, fun h => by omega⟩
  · refine ⟨_, _, rfl, h1, h2, hb, fun _ => ⟨g, 0, rfl, fun i hi => ?_⟩⟩
    have := h.cells (g := g) rfl i (byV (c.getD i 0)) (by simp [List.getD, hi])
    rw [Addr.add_lit] at this
    simpa [byV] using this
theorem wrt_encF {c : List Nat} {B n : Nat} (h : Wrt c (encD B n)) : digs c = encF B n := h.2
theorem dOut_enc {c : List Nat} {B n : Nat} (h1 : 1 ≤ n) (h2 : n ≤ 65536) (hB : B < 2 ^ n) (h : Wrt c (encD B n)) : dOut n c = (some B, 0) := by
  unfold dOut
  have e := dec_of h1 hB h2 []
  rw [List.append_nil, ← wrt_encF h] at e
  rw [e, digs_len]
  simp
theorem enc_pos {c : List Nat} {B n : Nat} (h : Wrt c (encD B n)) : 0 < c.length ∧ (c.getD 0 0).testBit 7 = B.testBit 0 := by
  have hl := h.len
  have h0 : 0 < c.length := by
    rw [hl, encD, List.length_cons]
    omega
  refine ⟨h0, ?_⟩
  have hg := digs_get c 0 (by simpa using h0)
  rw [h.2] at hg
  simpa [encD] using hg.symm
theorem enc_open {w : World} {b : Nat} {cv : Value} {c : List Nat} {B n : Nat} (ho : w.ownsRow b 5 1 cv c.length (c.map byV)) (hW : Wrt c (encD B n)) : 0 < c.length ∧ (c.getD 0 0).testBit 7 = B.testBit 0 ∧ c.getD 0 0 < 256 ∧ ∃ ca ccap cb coff, cv = .slice ca c.length ccap ∧ ca = some ⟨cb, coff, none⟩ ∧ c.length ≤ ccap ∧ ccap ≤ 9223372036854775807 ∧ w.cell? ⟨cb, coff, none⟩ = some (.int .u8 (c.getD 0 0 : Nat)) ∧ Hid (CSl w cv c) := by
  obtain ⟨h0, hb⟩ := enc_pos hW
  have hc := own_csl ho hW.1
  have hc' := hc
  obtain ⟨ca, ccap, rfl, h1, h2, h3, h4⟩ := hc
  obtain ⟨cb, coff, rfl, h5⟩ := h4 h0
  unfold maxLen at h2
  refine ⟨h0, hb, h3 _ (mem_getD h0), _, _, cb, coff, rfl, rfl, h1, by omega, ?_, hide hc'⟩
  simpa using h5 0 h0
theorem cell_below2 {w w' : World} {b o : Nat} {v : Value} (hb : Below w.heap.size w w') (h : w.cell? ⟨b, o, none⟩ = some v) : w'.cell? ⟨b, o, none⟩ = some v := by
  rw [World.cell?_of_block (hb.block _ (World.block_lt_of_cell? w _ h))]
  exact h
theorem top_bit {y : Nat} (h : y < 256) : y / 128 = (y.testBit 7).toNat := by
  rw [Nat.toNat_testBit]
  have : (2 : Nat) ^ 7 = 128 := by decide
  rw [this]
  omega
theorem encP_len {B n : Nat} : ∀ k p, n - p ≤ k → p ≤ n → (encP B n p).length ≤ 2 * (n - p)
  | 0, p, h, hp => by rw [encP_end (by omega)]; simp
  | k + 1, p, h, hp => by
    by_cases hlt : p < n
    · obtain ⟨a1, a2, -, -⟩ := ren_spec (B := B) hlt
      have ih := encP_len k (ren B n p) (by omega) a2 (B := B)
      have hg := gam_small (x := ren B n p - p) (by omega)
      rw [encP_step hlt, List.length_append]
      omega
    · rw [encP_end hlt]; simp
theorem enc_len {c : List Nat} {B n : Nat} (h : Wrt c (encD B n)) (h2 : n ≤ 65536) : c.length ≤ 150000000000000 := by
  have h1 := h.len
  have h3 := encP_len (B := B) n 0 (by omega) (Nat.zero_le n)
  rw [h1, encD, List.length_cons]
  omega
theorem wd_val {l : List Nat} (hl : ∀ b ∈ l, b < 18446744073709551616) : wds (valW l) l.length = l := by
  refine List.ext_getElem (wds_len _ _) fun i h1 h2 => ?_
  have h3 := wds_get (B := valW l) h2
  rw [wd_valW l i hl] at h3
  have e1 : (wds (valW l) l.length).getD i 0 = (wds (valW l) l.length)[i] := by simp [List.getD, h1]
  have e2 : l.getD i 0 = l[i] := by simp [List.getD, h2]
  rw [← e1, ← e2]
  exact h3
end Go.Proofs.YtglajdmkbckjjabDoor
namespace Go.Proofs.YtglajdmkbckjjabDoor
open Go.RowKit Go.Shelf
set_option linter.unusedVariables false
set_option linter.unusedSimpArgs false
set_option maxRecDepth 20000

theorem CSl.getLt8 {w : World} {v : Value} {l : List Nat} (h : CSl w v l) (i : Nat) : l.getD i 0 < 256 := by
  obtain ⟨_, _, _, _, _, h3, _⟩ := h
  by_cases hi : i < l.length
  · exact h3 _ (mem_getD hi)
  · simp [List.getD, List.getElem?_eq_none (Nat.le_of_not_lt hi)]
theorem CSl.lt {w : World} {v : Value} {l : List Nat} (h : CSl w v l) : ∀ x ∈ l, x < 256 := by obtain ⟨_, _, _, _, _, h3, _⟩ := h; exact h3
set_option maxHeartbeats 400000 in
theorem sameBytes_any {w : World} {v1 v2 : Value} {l1 l2 : List Nat} (h1 : CSl w v1 l1) (h2 : CSl w v2 l2) :
    Calls Tryd.prog 19 #[v1, v2] w fun e w' => e = .returned (.bool (decide (l1 = l2))) ∧ Qt w w' := by
  have g1 := hide h1.getLt8
  have g2 := hide h2.getLt8
  obtain ⟨a, cap, rfl, hl, hm, hb, hcell⟩ := h1
  obtain ⟨a2, cap2, rfl, hl2, hm2, hb2, hcell2⟩ := h2
  unfold maxLen at hm hm2
  have HC := hide hcell
  have HC2 := hide hcell2
  clear hb2 hb hcell hcell2
  by_cases hlen : l1.length = l2.length
  · have HIFF := hide (take_eq_iff hlen)
    have HLEN := hide hlen
    rw [← hlen] at HC2 hl2
    rw [← hlen]
    clear hlen
    generalize hR : decide (l1 = l2) = R
    have HR := hide hR
    clear hR
    generalize hL : l1.length = len at *
    clear hL
    go_enter Tryd.func19, Tryd.ntmps19
    go_wp2
    go_loopw [5] (fun i wr => ∃ k : Nat, k ≤ len ∧ i = .int .i64 k ∧ (∀ i, i < k → l1.getD i 0 = l2.getD i 0) ∧ ∃ n, wr = w.drewN n) (fun i _ => len - (intOf i).toNat)
    case atStart => exact ⟨0, Nat.zero_le _, rfl, fun i hi => by omega, 0, rfl⟩
    case round =>
      obtain ⟨k, hk, rfl, hz, n, rfl⟩ := hrel
      have HZ := hide hz
      clear hz
      by_cases hlt : k < len
      · obtain ⟨b, off, rfl, hcell⟩ := HC.out (by omega)
        obtain ⟨b2, off2, rfl, hcell2⟩ := HC2.out (by omega)
        have hck := hcell k hlt
        have hck2 := hcell2 k hlt
        have hx := g1.out k
        have hy := g2.out k
        clear hcell hcell2 HC HC2
        by_cases hxy : l1.getD k 0 = l2.getD k 0
        · have HN : Hid (∀ i, i < k + 1 → l1.getD i 0 = l2.getD i 0) := hide fun i hi => by
            by_cases e : i = k
            · rw [e]; exact hxy
            · exact HZ.out i (by omega)
          rw [← hxy] at hck2
          clear hxy HZ
          generalize l1.getD k 0 = x at *
          have hne : ((x : Int) != (x : Int)) = false := by simp
          go_wp2
          go_quiet (fail)
          go_wp2
          go_roundw
          case rel => exact ⟨k + 1, by omega, by go_num, HN.out, _, rfl⟩
          case measure => simp [intOf]; omega
        · have HF : Hid (R = false) := hide (by
            rw [← HR.out]
            exact decide_eq_false fun e => hxy (by rw [e]))
          have hne : (((l1.getD k 0 : Nat) : Int) != ((l2.getD k 0 : Nat) : Int)) = true := by simp only [bne_iff_ne, ne_eq]; omega
          clear hxy HZ
          generalize l1.getD k 0 = x at *
          generalize l2.getD k 0 = y at *
          go_wp2
          go_quiet (fail)
          go_wp2
          go_ret
          exact ⟨ret_bool HF.out.symm, ((Qt.refl _).drewN _).drewN _⟩
      · have HT : Hid (R = true) := hide (by
          rw [← HR.out]
          exact decide_eq_true (HIFF.out.2 fun i hi => HZ.out i (by omega)))
        go_wp2
        go_ret
        exact ⟨ret_bool HT.out.symm, (Qt.refl _).drewN _⟩
  · have hR : decide (l1 = l2) = false := decide_eq_false fun e => hlen (by rw [e])
    rw [hR]
    have hne : ((l1.length : Int) != (l2.length : Int)) = true := by simp only [bne_iff_ne, ne_eq]; omega
    clear hlen hR HC HC2 g1 g2
    generalize l1.length = len1 at *
    generalize l2.length = len2 at *
    go_enter Tryd.func19, Tryd.ntmps19
    go_wp2
    go_ret
    exact ⟨rfl, Qt.refl _⟩
def bpRow (len : Nat) (f : Nat → Nat) : Array Value := ((List.range len).map fun i => Value.int .u8 (f i : Nat)).toArray
theorem bpRow_size (len : Nat) (f : Nat → Nat) : (bpRow len f).size = len := by simp [bpRow]
theorem bpRow_get {len i : Nat} (f : Nat → Nat) (h : i < len) : (bpRow len f)[i]? = some (.int .u8 (f i : Nat)) := by
  simp [bpRow, h]
theorem bpRow_congr {len : Nat} {f g : Nat → Nat} (h : ∀ i, i < len → f i = g i) : bpRow len f = bpRow len g := by
  unfold bpRow
  congr 1
  exact List.map_congr_left fun i hi => by rw [h i (List.mem_range.1 hi)]
theorem bpRow_set {len k x : Nat} {f g : Nat → Nat} (hk : k < len) (h1 : g k = x) (h2 : ∀ i, i < len → i ≠ k → g i = f i) : (bpRow len f).setIfInBounds k (.int .u8 (x : Int)) = bpRow len g := by
  apply Array.ext_getElem?
  intro i
  by_cases hi : i < len
  · by_cases e : i = k
    · subst e
      rw [Array.getElem?_setIfInBounds_self_of_lt (by rw [bpRow_size]; exact hi), bpRow_get g hi, h1]
    · rw [Array.getElem?_setIfInBounds_ne (by omega), bpRow_get f hi, bpRow_get g hi, h2 i hi e]
  · rw [Array.getElem?_eq_none (by simp [bpRow_size]; omega), Array.getElem?_eq_none (by simp [bpRow_size]; omega)]

theorem run_bytes8 (n : Nat) (hn : n ≤ 140737488355328) (w : World) :
    (Instr.makeSlice 23 (.int .i64 (n : Int)) (.int .i64 (n : Int))).run Tryd.prog w = .ok (.slice (some ⟨w.heap.size, 0, none⟩) n n) (w.alloc (.cells (bpRow n fun _ => 0) 5)) := by
  obtain ⟨i0, hi, hz0, hz1, hz2⟩ := infoBs
  have hr := run_make (P := Tryd.prog) w 23 5 i0 (.int .u8 0) Tryd.underlying23 hi hz0 .i64 .i64 (n : Int) (n : Int) (by omega) (Int.le_refl _) (by rw [hz2]; omega) (by omega)
  simp only [Int.toNat_natCast] at hr
  have e : madeCells (Value.int IntKind.u8 0).cells n = bpRow n fun _ => 0 := by
    apply Array.ext_getElem?
    intro i
    by_cases h : i < n
    · rw [bpRow_get _ h]
      simp [madeCells, Value.cells, h, Nat.mod_one]
    · rw [Array.getElem?_eq_none (by simp [madeCells]; omega), Array.getElem?_eq_none (by rw [bpRow_size]; omega)]
  rw [hz1, Nat.mul_one, e] at hr
  exact hr
/-- what bytesOf gives: new memory with marks behind its end -/
def Bo (N : Nat) (w : World) (v : Value) (l : List Nat) : Prop :=
  ∃ g, v = .slice (some ⟨g, 0, none⟩) l.length (l.length + 3) ∧ N ≤ g ∧ w.heap[g]? = some (.cells (bpRow (l.length + 3) fun i => if i < l.length then l.getD i 0 else 199) 5 (0, 0))
set_option maxHeartbeats 400000 in
theorem bytesOf_any {w : World} {v : Value} {l : List Nat} (h : CSl w v l) (hr : l.length ≤ 140737488351232) :
    Calls Tryd.prog 14 #[v] w fun e w' => ∃ v', e = .returned v' ∧ Bo w.heap.size w' v' l ∧ Below w.heap.size w w' := by
  have H := hide h
  obtain ⟨a, cap, rfl, q1, q2, q4, q5⟩ := h
  unfold maxLen at q2
  have HC : Hid (∀ k, k < l.length → ∃ b off, a = some ⟨b, off, none⟩ ∧ b < w.heap.size ∧ w.cell? ⟨b, off + k, none⟩ = some (.int .u8 (l.getD k 0 : Nat))) := hide fun k hk => by
    obtain ⟨b, off, rfl, hc⟩ := q5 (by omega)
    exact ⟨b, off, rfl, World.block_lt_of_cell? w _ (hc k hk), hc k hk⟩
  have HL := hide H.out.lt
  have HG := hide H.out.getLt8
  clear q4 q5
  have hmk := run_bytes8 (l.length + 3) (by omega)
  have HZ : Hid ((w.alloc (.cells (bpRow (l.length + 3) (fun _ => 0)) 5)).heap[w.heap.size]? = some (.cells (bpRow (l.length + 3) fun i => if i < 0 then 199 else 0) 5 (0, 0))) := hide (by
    rw [Go.heap_alloc_new w _]; simp)
  generalize hZ : bpRow (l.length + 3) (fun _ => 0) = Z at *
  clear hZ
  obtain ⟨ROW, hROW⟩ : ∃ ROW : (Nat → Nat) → Array Value, ∀ f, ROW f = bpRow (l.length + 3) f := ⟨_, fun _ => rfl⟩
  have HROW := hide hROW
  simp only [← hROW] at HZ
  clear hROW
  obtain ⟨F, hF⟩ : ∃ F : Nat → Nat, ∀ k, F k = l.getD k 0 := ⟨_, fun _ => rfl⟩
  have HF := hide hF
  simp only [← hF] at HC HG
  clear hF
  obtain ⟨len, hlen⟩ : ∃ len, l.length = len := ⟨_, rfl⟩
  have HLEN := hide hlen
  rw [hlen] at hmk HC q1 hr HROW ⊢
  clear hlen
  have hmk' : ∀ W : World, (Instr.makeSlice 23 (.int .i64 ((len : Int) + 3)) (.int .i64 ((len : Int) + 3))).run Tryd.prog W = .ok (.slice (some ⟨W.heap.size, 0, none⟩) (len + 3) (len + 3)) (W.alloc (.cells Z 5)) := fun W => by
    have := hmk W
    rw [Int.natCast_add] at this
    exact this
  clear hmk
  go_enter Tryd.func14, Tryd.ntmps14
  go_wp2_with fail
  go_loopw [4] (fun i wr => ∃ k : Nat, k ≤ len + 3 ∧ i = .int .i64 (k : Int) ∧ Below w.heap.size w wr ∧ wr.heap[w.heap.size]? = some (.cells (ROW fun i => if i < k then 199 else 0) 5 (0, 0))) (fun i _ => len + 3 - (intOf i).toNat)
  case atStart => exact ⟨0, by omega, rfl, (Below.refl _ _).alloc (Nat.le_refl _) _, HZ.out⟩
  case round =>
    obtain ⟨k, hk, rfl, hb, hrow⟩ := hrel
    have HB := hide hb
    clear hb HZ
    by_cases hlt : k < len + 3
    · have hc : wr.cell? ⟨w.heap.size, k, none⟩ = some (.int .u8 (0 : Nat)) := by rw [cell_of_row _ _ _ _ _ _ hrow, HROW.out, bpRow_get _ hlt, if_neg (by omega)]
      have hf : wr.frozen? ⟨w.heap.size, k, none⟩ = false := frozen_of_row _ _ _ _ 5 hrow
      have HN : Hid ((wr.setCell ⟨w.heap.size, k, none⟩ (.int .u8 199)).heap[w.heap.size]? = some (.cells (ROW fun i => if i < k + 1 then 199 else 0) 5 (0, 0))) := hide (by
        rw [Go.heap_setCell_same wr w.heap.size k _ 5 _ hrow, HROW.out, HROW.out]
        have := bpRow_set (len := len + 3) (k := k) (x := 199) (f := fun i => if i < k then 199 else 0) (g := fun i => if i < k + 1 then 199 else 0) hlt (by simp) (fun i _ hne => by
          by_cases hik : i < k
          · rw [if_pos hik, if_pos (by omega)]
          · rw [if_neg hik, if_neg (by omega)])
        rw [← this]; rfl)
      clear hrow
      go_wp2_with fail
      go_roundw
      case rel => exact ⟨k + 1, by omega, by go_num, HB.out.setCell (p := ⟨w.heap.size, k, none⟩) (Nat.le_refl _) _, HN.out⟩
      case measure => simp [intOf]; omega
    · have HR : Hid (wr.heap[w.heap.size]? = some (.cells (ROW fun i => if i < 0 then F i else 199) 5 (0, 0))) := hide (by
        rw [hrow, HROW.out, HROW.out]
        congr 2
        exact bpRow_congr fun i hi => by rw [if_pos (by omega), if_neg (by omega)])
      clear hrow
      go_wp2_with fail
      go_loopw [5] (fun i wr => ∃ k : Nat, k ≤ len ∧ i = .int .i64 (k : Int) ∧ Below w.heap.size w wr ∧ wr.heap[w.heap.size]? = some (.cells (ROW fun i => if i < k then F i else 199) 5 (0, 0))) (fun i _ => len - (intOf i).toNat)
      case atStart => exact ⟨0, by omega, rfl, HB.out, HR.out⟩
      case round =>
        obtain ⟨k2, hk2, rfl, hb2, hrow2⟩ := hrel
        have HB2 := hide hb2
        clear HB HR
        by_cases hlt2 : k2 < len
        · obtain ⟨b, off, rfl, hbl, hcv⟩ := HC.out k2 hlt2
          have hcv' := (hb2.cell (p := ⟨b, off + k2, none⟩) hbl).trans hcv
          have hx := HG.out k2
          have hc : wr.cell? ⟨w.heap.size, k2, none⟩ = some (.int .u8 (199 : Nat)) := by rw [cell_of_row _ _ _ _ _ _ hrow2, HROW.out, bpRow_get _ (by omega), if_neg (by omega)]
          have hf : wr.frozen? ⟨w.heap.size, k2, none⟩ = false := frozen_of_row _ _ _ _ 5 hrow2
          have HN : Hid ((wr.setCell ⟨w.heap.size, k2, none⟩ (.int .u8 (F k2 : Nat))).heap[w.heap.size]? = some (.cells (ROW fun i => if i < k2 + 1 then F i else 199) 5 (0, 0))) := hide (by
            rw [Go.heap_setCell_same wr w.heap.size k2 _ 5 _ hrow2, HROW.out, HROW.out]
            have := bpRow_set (len := len + 3) (k := k2) (x := F k2) (f := fun i => if i < k2 then F i else 199) (g := fun i => if i < k2 + 1 then F i else 199) (by omega) (by simp) (fun i _ hne => by
              by_cases hik : i < k2
              · rw [if_pos hik, if_pos (by omega)]
              · rw [if_neg hik, if_neg (by omega)])
            rw [← this])
          clear hrow2 hb2 hcv HC
          generalize F k2 = x at *
          go_wp2_with fail
          go_roundw
          case rel => exact ⟨k2 + 1, by omega, by go_num, HB2.out.setCell (p := ⟨w.heap.size, k2, none⟩) (Nat.le_refl _) _, HN.out⟩
          case measure => simp [intOf]; omega
        · have ek : k2 = len := by omega
          have HCP : Hid (Bo w.heap.size wr (.slice (some ⟨w.heap.size, 0, none⟩) len (len + 3)) l) := hide (⟨w.heap.size, by rw [HLEN.out], Nat.le_refl _, by
            rw [hrow2, HROW.out, ek, HLEN.out]
            congr 2
            exact bpRow_congr fun i hi => by rw [HF.out]⟩)
          clear hrow2 hb2 ek
          go_wp2_with fail
          go_ret
          exact ⟨_, rfl, HCP.out, HB2.out⟩
end Go.Proofs.YtglajdmkbckjjabDoor
namespace Go.Proofs.YtglajdmkbckjjabDoor
open Go.RowKit Go.Shelf
set_option linter.unusedVariables false
set_option linter.unusedSimpArgs false
set_option maxRecDepth 20000

theorem BS.trans {w0 w w' : World} {v0 v v' : Value} {D E : List Bool} (h : BS w0 w v0 v D) (k : BS w w' v v' E) : BS w0 w' v0 v' E := by
  have h1 := h.size
  have h2 := k.size
  refine ⟨k.own, k.os.trans h.os, k.tape.trans h.tape, k.output.trans h.output, by omega, fun b hb hne => ?_, fun b e => ?_⟩
  · refine (k.keep b (by omega) fun e => ?_).trans (h.keep b hb hne)
    rcases h.loc b e with e | e
    · exact hne e
    · omega
  · rcases k.loc b e with e | e
    · exact h.loc b e
    · right; omega
theorem BS.below {w0 w : World} {v : Value} {D : List Bool} (h : BS w0 w (.slice none 0 0) v D) : Below w0.heap.size w0 w :=
  ⟨h.os, h.tape, h.output, h.size, fun b hb => h.keep b hb (by simp [Value.ownBlock])⟩
theorem find_ren {B n p : Nat} : (fnd (fun j => B.testBit j == !B.testBit p) p (n - p)).getD n = ren B n p := by
  unfold ren
  congr 2
  funext j
  cases B.testBit j <;> cases B.testBit p <;> rfl
theorem or_add8 : ∀ x, x < 256 → ∀ s, s < 8 → x.testBit s = false → x ||| 2 ^ s = x + 2 ^ s := by decide +kernel
/-- the bytes that k digits have been laid into -/
def Lay (c : List Nat) (m k : Nat) (D : List Bool) : Prop := c.length = m ∧ (∀ x ∈ c, x < 256) ∧ digs c = D.take k ++ List.replicate (8 * m - k) false
theorem digs_zero : ∀ m, digs (List.replicate m 0) = List.replicate (8 * m) false
  | 0 => rfl
  | m + 1 => by
    rw [List.replicate_succ, digs, digs_zero m, show 8 * (m + 1) = 8 + 8 * m by omega, ← List.replicate_append_replicate]
    rfl
theorem Lay.zero (m : Nat) (D : List Bool) : Lay (List.replicate m 0) m 0 D := ⟨by simp, fun x hx => by rw [(List.mem_replicate.1 hx).2]; decide, by rw [digs_zero]; simp⟩
theorem Lay.no {c : List Nat} {m k : Nat} {D : List Bool} (h : Lay c m k D) (hk : k < D.length) (hm : D.length ≤ 8 * m) (hd : D.getD k false = false) : Lay c m (k + 1) D := by
  refine ⟨h.1, h.2.1, h.2.2.trans ?_⟩
  have e : D[k]? = some false := by
    simp [List.getD, hk] at hd
    simp [hk, hd]
  rw [List.take_add_one, e, show 8 * m - k = (8 * m - (k + 1)) + 1 by omega, List.replicate_succ]
  simp
theorem Lay.yes {c : List Nat} {m k : Nat} {D : List Bool} (h : Lay c m k D) (hk : k < D.length) (hm : D.length ≤ 8 * m) (hd : D.getD k false = true) :
    c.getD (k / 8) 0 + 2 ^ (7 - k % 8) < 256 ∧ Lay (c.set (k / 8) (c.getD (k / 8) 0 + 2 ^ (7 - k % 8))) m (k + 1) D := by
  obtain ⟨h1, h2, h3⟩ := h
  have hk8 : k / 8 < c.length := by omega
  have hx : c.getD (k / 8) 0 < 256 := by
    have : c.getD (k / 8) 0 = c[k / 8] := by simp [List.getD, hk8]
    rw [this]
    exact h2 _ (List.getElem_mem hk8)
  have hb := digs_get c k hk8
  have hl : (D.take k).length = k := by simp; omega
  rw [h3, List.getElem?_append_right (by omega), hl, Nat.sub_self, show 8 * m - k = (8 * m - (k + 1)) + 1 by omega, List.replicate_succ] at hb
  have hb' : (c.getD (k / 8) 0).testBit (7 - k % 8) = false := by simpa using hb
  have e : c.getD (k / 8) 0 + 2 ^ (7 - k % 8) = orD (c.getD (k / 8) 0) (k % 8) true := by
    unfold orD
    rw [Bool.toNat_true, Nat.one_mul, or_add8 _ hx _ (by omega) hb']
  rw [e]
  have hlt : orD (c.getD (k / 8) 0) (k % 8) true < 256 := orD_lt hx (by omega)
  refine ⟨hlt, by rw [List.length_set]; exact h1, fun x hx' => (List.mem_or_eq_of_mem_set hx').elim (h2 x) (fun e => by rw [e]; exact hlt), ?_⟩
  rw [digs_set c _ _ true hk8 (by omega) hb', h3, show 8 * (k / 8) + k % 8 = k by omega, List.set_append_right _ _ (by omega), hl, Nat.sub_self, show 8 * m - k = (8 * m - (k + 1)) + 1 by omega, List.replicate_succ, List.set_cons_zero]
  have e2 : D[k]? = some true := by
    simp [List.getD, hk] at hd
    simp [hk, hd]
  rw [List.take_add_one, e2]
  simp
theorem Lay.fin {c : List Nat} {D : List Bool} (h : Lay c ((D.length + 7) / 8) D.length D) : Wrt c D := by
  refine ⟨h.2.1, h.2.2.trans ?_⟩
  rw [List.take_length]
  congr 2
  unfold fil
  omega
theorem bpRow_zero (m : Nat) : (bpRow m fun _ => 0) = ((List.replicate m 0).map byV).toArray := by
  apply Array.ext_getElem?
  intro i
  by_cases h : i < m
  · rw [bpRow_get _ h]
    simp [byV, h]
  · rw [Array.getElem?_eq_none (by rw [bpRow_size]; omega), Array.getElem?_eq_none (by simp; omega)]
theorem byRow_set (c : List Nat) (i x : Nat) : ((c.map byV).toArray).setIfInBounds i (.int .u8 (x : Int)) = ((c.set i x).map byV).toArray := by
  rw [List.setIfInBounds_toArray, List.map_set]
  rfl
theorem csl_row {w : World} {g m : Nat} {c : List Nat} (h : w.heap[g]? = some (.cells ((c.map byV).toArray) 5 (0, 0))) (hm : c.length = m) (hl : m ≤ 1000000) (hb : ∀ x ∈ c, x < 256) : CSl w (.slice (some ⟨g, 0, none⟩) m m) c := by
  refine ⟨_, m, by rw [hm], by omega, by unfold maxLen; omega, hb, fun _ => ⟨g, 0, rfl, fun i hi => ?_⟩⟩
  rw [cell_of_row _ _ _ _ _ _ h]
  simp [byV, List.getD, hi]
/-- what the document's Encode hands back -/
def REn (w : World) (n B : Nat) (e : Ending) (w' : World) : Prop := ∃ cv c, e = .returned (.tuple #[cv, .int .i64 0]) ∧ CSl w' cv c ∧ Wrt c (encD B n) ∧ Below w.heap.size w w' ∧ ∀ b, blockOf cv = some b → w.heap.size ≤ b ∧ b < w'.heap.size
theorem BS.row {w0 w : World} {v0 v : Value} {D : List Bool} (h : BS w0 w v0 v D) (h0 : 0 < D.length) : ∃ g cap, v = .slice (some ⟨g, 0, none⟩) D.length cap ∧ D.length ≤ cap ∧ cap ≤ 9223372036854775807 ∧ g < w.heap.size ∧ ∀ i, i < D.length → w.cell? ⟨g, i, none⟩ = some (.bool (D.getD i false)) := by
  have ho := h.own
  rcases ho.2 with ⟨_, hz⟩ | ⟨g, cap, cur, rfl, _, _, h1, h2, _⟩
  · omega
  · unfold maxLen at h2
    refine ⟨g, cap, rfl, h1, by omega, (ho.lt g rfl).2, fun i hi => ?_⟩
    have := ho.cells (g := g) rfl i (.bool (D.getD i false)) (by simp [List.getD, hi])
    rw [Addr.add_lit, Nat.zero_add] at this
    exact this
set_option maxHeartbeats 4000000 in
theorem rencode_main {w : World} {v : Value} {l : List Nat} (n : Nat) (hv : WSl w v l) (h1 : 1 ≤ n) (h2 : n ≤ 65536) (he : cwErr n l = 0) :
    Calls Tryd.prog 17 #[.int .i64 (n : Int), v] w (REn w n (valW l)) := by
  have HF := hide (rFrom_any n h1 h2 hv he)
  generalize valW l = B at *
  obtain ⟨va, vcap, rfl, -⟩ := hv
  obtain ⟨i0, hi0, hz0, hz1, hz2⟩ := infoBl
  clear he
  generalize l.length = llen at *
  obtain ⟨d0, hd0⟩ : ∃ d, B.testBit 0 = d := ⟨_, rfl⟩
  have HD0 := hide hd0
  clear hd0
  go_enter Tryd.func17, Tryd.ntmps17
  go_wp2_with (first
    | (at_builtin; refine wpList_app8 _ rfl (.tmp 22) (.tmp 29) 93 rfl 4 i0 (.bool false) 1 Tryd.underlying93 hi0 hz0 hz1 hz2 rfl _ _ _ rfl o3 ⟨w1.heap.size, 0, none⟩ 1 (.bool d0) rfl (new_bool w1 _) rfl (by simp [maxLen]) (by simp) ?_)
    | (go_at_call 34; refine HF.out.mono ?_; clear HF; rintro e w1 ⟨R, rfl, hN⟩; have HN := hide hN; have c0 := hN.1.c0; have cb0 := hN.1.cb (i := 0) (by omega); rw [HD0.out] at cb0; clear hN; unfold PR; have oN : w1.ownsRow 0 4 1 (.slice none 0 0) ([] : List Bool).length (([] : List Bool).map Value.bool) := ⟨rfl, .inl ⟨rfl, rfl⟩⟩; have HM := hide fun (w4 : World) (v4 : Value) ho hu => (BS.start oN).more (d := d0) (w4 := w4) (v4 := v4) ho hu; have o3 := oN.alloc (.cells #[.bool d0] 4); clear oN))
  intro v4 w4 ho4 hup4
  have H4 := hide (HM.out w4 v4 ho4 (by unfold Upn; rw [World.size_alloc]; exact hup4))
  clear ho4 hup4 HM o3 c0 cb0
  have HE0 : Hid (([] ++ [d0]) ++ encP B n 0 = encD B n) := hide (by rw [← HD0.out]; rfl)
  go_wp2_with fail
  go_loopw [8, 9] (fun dv y wr => ∃ (p : Nat) (D : List Bool), p ≤ n ∧ y = .int .i64 (p : Int) ∧ Hid (BS w1 wr (.slice none 0 0) dv D) ∧ Hid (D ++ encP B n p = encD B n) ∧ Hid (0 < D.length ∧ D.length ≤ 2 * p + 1)) (fun _ y _ => n - (intOf y).toNat)
  case atStart => exact ⟨0, _, Nat.zero_le _, rfl, H4, HE0, hide (by simp)⟩
  case round =>
    clear H4 HE0
    obtain ⟨p, D, hp, rfl, HB, HE, HL⟩ := hrel
    obtain ⟨w2, hw2⟩ : ∃ w2, wr = w2 := ⟨_, rfl⟩
    rw [hw2] at HB ⊢
    have hrep : RRep w2 R n B := HN.out.1.below HB.out.below
    by_cases hlt : p < n
    · have hli : (p : Int) < (n : Int) := by omega
      have c0 := hrep.c0
      have cbp := hrep.cb (i := p) hlt
      have hf := rFind_pos hrep (p : Int) (!B.testBit p) (by omega)
      rw [Int.toNat_natCast] at hf
      obtain ⟨a1, a2, -, -⟩ := ren_spec (B := B) hlt
      have hg := gam_small (x := ren B n p - p) (by omega)
      have HE2 : Hid ((D ++ gam (ren B n p - p)) ++ encP B n (ren B n p) = encD B n) := hide (by rw [← HE.out, encP_step hlt, List.append_assoc])
      have HL2 : Hid (0 < (D ++ gam (ren B n p - p)).length ∧ (D ++ gam (ren B n p - p)).length ≤ 2 * ren B n p + 1) := hide (by have := HL.out; rw [List.length_append]; omega)
      have HDG := hide fun (X : Nat) (hX : X = ren B n p - p) => rdigits_any HB.out.own (by have := HL.out.2; omega) X (by omega) (by omega)
      have hfr := find_ren (B := B) (n := n) (p := p)
      have HF := hide hf
      clear hf hrep HE HL
      obtain ⟨d, hd⟩ : ∃ d, B.testBit p = d := ⟨_, rfl⟩
      rw [hd] at cbp HF hfr
      cases hfo : fnd (fun j => B.testBit j == !d) p (n - p) with
      | none =>
        rw [hfo] at HF hfr
        have hrn : ren B n p = n := hfr.symm
        rw [hrn] at HE2 HL2 a1 a2
        clear hfr hfo
        simp only [orN] at HF
        have HD1 := hide (HDG.out (n - p) (by rw [hrn]))
        have ex : ((n - p : Nat) : Int) = (n : Int) - (p : Int) := by omega
        rw [ex] at HD1
        clear HDG ex hrn
        unfold PR at HF
        go_wp2_with (first
          | (go_at_call 44; refine HF.out.mono ?_; clear HF; rintro e w' ⟨rfl, hw⟩; have hw2 := hw.symm; clear hw; subst hw2)
          | (go_at_call 50; refine HD1.out.mono ?_; clear HD1; rintro e w3 ⟨v3, rfl, hb3⟩; have H3 := hide (HB.out.trans hb3); clear hb3 HB))
        go_roundw
        case rel => exact ⟨n, _, Nat.le_refl _, rfl, H3, HE2, HL2⟩
        case measure => simp [intOf]; omega
      | some q =>
        rw [hfo] at HF hfr
        have hrn : ren B n p = q := hfr.symm
        rw [hrn] at HE2 HL2 a1 a2
        clear hfr hfo
        simp only [orN] at HF
        have HD1 := hide (HDG.out (q - p) (by rw [hrn]))
        have ex : ((q - p : Nat) : Int) = (q : Int) - (p : Int) := by omega
        rw [ex] at HD1
        clear HDG ex hrn
        unfold PR at HF
        go_wp2_with (first
          | (go_at_call 44; refine HF.out.mono ?_; clear HF; rintro e w' ⟨rfl, hw⟩; have hw2 := hw.symm; clear hw; subst hw2)
          | (go_at_call 50; refine HD1.out.mono ?_; clear HD1; rintro e w3 ⟨v3, rfl, hb3⟩; have H3 := hide (HB.out.trans hb3); clear hb3 HB))
        go_roundw
        case rel => exact ⟨q, _, by omega, rfl, H3, HE2, HL2⟩
        case measure => simp [intOf]; omega
    · have ep : p = n := by omega
      subst ep
      have hli : ¬ (p : Int) < (p : Int) := by omega
      have HD : Hid (D = encD B p) := hide (by have := HE.out; rwa [encP_end hlt, List.append_nil] at this)
      clear HE hrep
      obtain ⟨g, cap, rfl, hg1, hg2, hg3, hg4⟩ := HB.out.row HL.out.1
      have HC := hide hg4
      have hM := HL.out.2
      have hM0 := HL.out.1
      obtain ⟨m, hm⟩ : ∃ m, (D.length + 7) / 8 = m := ⟨_, rfl⟩
      have hmk := run_bytes8 m (by omega)
      have hdv : ((D.length : Int) + 7) / 8 = (m : Int) := by omega
      have hdv2 : ((D.length : Int) + 7).tdiv 8 = (m : Int) := by rw [Int.tdiv_eq_ediv_of_nonneg (by omega)]; exact hdv
      have HBW : Hid (Below w.heap.size w w2) := hide (HN.out.2.1.trans (HB.out.below.mono HN.out.2.1.size))
      have hsw := HBW.out.size
      have HZ : Hid ((w2.alloc (.cells (bpRow m fun _ => 0) 5)).heap[w2.heap.size]? = some (.cells (((List.replicate m 0).map byV).toArray) 5 (0, 0))) := hide (by rw [Go.heap_alloc_new w2 _, bpRow_zero])
      have HB0 : Hid (Below w2.heap.size w2 (w2.alloc (.cells (bpRow m fun _ => 0) 5))) := hide ((Below.refl _ _).alloc (Nat.le_refl _) _)
      clear hg4 HB
      generalize (bpRow m fun _ => 0) = Z at *
      generalize hlen : D.length = len at *
      have HLEN := hide hlen
      clear hlen
      have hlb : len ≤ 131073 := by omega
      have hmb : m ≤ 20000 := by omega
      rw [← hdv] at hmk
      have HM8 := hide hm
      clear hdv hdv2 hm hM hM0
      go_wp2_with fail
      go_loopw [12] (fun y wr => ∃ (k : Nat) (c : List Nat), k ≤ len ∧ y = .int .i64 (k : Int) ∧ Hid (Below w2.heap.size w2 wr) ∧ Hid (Lay c m k D) ∧ Hid (wr.heap[w2.heap.size]? = some (.cells ((c.map byV).toArray) 5 (0, 0)))) (fun y _ => len - (intOf y).toNat)
      case atStart => exact ⟨0, _, Nat.zero_le _, rfl, HB0, hide (Lay.zero m D), HZ⟩
      case round =>
        clear HZ HB0
        obtain ⟨k, c, hk, rfl, HBL, HLA, HR⟩ := hrel
        by_cases hkl : k < len
        · have hki : (k : Int) < (len : Int) := by omega
          have hc0 := (HBL.out.cell (p := ⟨g, k, none⟩) hg3).trans (HC.out k hkl)
          cases hd : D.getD k false with
          | false =>
            rw [hd] at hc0
            have HN2 := hide (HLA.out.no (by rw [HLEN.out]; exact hkl) (by have := HM8.out; rw [HLEN.out]; omega) hd)
            clear HLA hd
            go_wp2_with fail
            go_roundw
            case rel => exact ⟨k + 1, c, by omega, by go_num, HBL, HN2, HR⟩
            case measure => simp [intOf]; omega
          | true =>
            rw [hd] at hc0
            obtain ⟨hs, hL2⟩ := HLA.out.yes (by rw [HLEN.out]; exact hkl) (by have := HM8.out; rw [HLEN.out]; omega) hd
            have HN2 := hide hL2
            have hcl : c.length = m := HLA.out.1
            have hk8 : k / 8 < c.length := by have := HM8.out; omega
            have hcc : wr.cell? ⟨w2.heap.size, k / 8, none⟩ = some (.int .u8 (c.getD (k / 8) 0 : Nat)) := by rw [cell_of_row _ _ _ _ _ _ HR.out]; simp [byV, List.getD, hk8]
            have hf : wr.frozen? ⟨w2.heap.size, k / 8, none⟩ = false := frozen_of_row _ _ _ _ 5 HR.out
            have HR2 : Hid (∀ x : Nat, (wr.setCell ⟨w2.heap.size, k / 8, none⟩ (.int .u8 (x : Int))).heap[w2.heap.size]? = some (.cells (((c.set (k / 8) x).map byV).toArray) 5 (0, 0))) := hide fun x => by
              rw [Go.heap_setCell_same wr w2.heap.size (k / 8) _ 5 _ HR.out, byRow_set]
            clear HLA hd hL2
            obtain ⟨K, hK⟩ : ∃ K, k / 8 = K := ⟨_, rfl⟩
            obtain ⟨J, hJ⟩ : ∃ J, k % 8 = J := ⟨_, rfl⟩
            obtain ⟨S, hS⟩ : ∃ S, 7 - J = S := ⟨_, rfl⟩
            have hd1 : (k : Int) / 8 = (K : Int) := by omega
            have hd2 : (k : Int).tdiv 8 = (K : Int) := by rw [Int.tdiv_eq_ediv_of_nonneg (by omega)]; exact hd1
            have hrm : (k : Int) % 8 = (J : Int) := by omega
            have hrm1 : (k : Int).tmod 8 = (J : Int) := by rw [Int.tmod_eq_emod_of_nonneg (by omega)]; exact hrm
            have hsb : (7 : Int) - (J : Int) = (S : Int) := by omega
            have hS7 : S ≤ 7 := by omega
            have hKm : (K : Int) < (m : Int) := by omega
            have hK0 : (0 : Int) ≤ (K : Int) := by omega
            rw [hK] at hcc hf HR2 HN2 hs
            rw [hJ, hS] at hs HN2
            have hcast : (2 : Int) ^ S = ((2 ^ S : Nat) : Int) := by simp
            have hfin : (((c.getD K 0 : Nat) : Int) + 2 ^ S) % 256 = ((c.getD K 0 + 2 ^ S : Nat) : Int) := by
              rw [hcast]
              generalize 2 ^ S = y at hs ⊢
              omega
            have HFIN := hide hfin
            have hx256 : c.getD K 0 < 256 := by
              generalize 2 ^ S = y at hs
              omega
            have HR3 := hide (HR2.out (c.getD K 0 + 2 ^ S))
            have HBL2 := hide (HBL.out.setCell (p := ⟨w2.heap.size, K, none⟩) (Nat.le_refl _) (.int .u8 ((c.getD K 0 + 2 ^ S : Nat) : Int)))
            clear HR HR2 hK hJ hS HBL hcl hk8 hcast hfin hs
            generalize c.getD K 0 + 2 ^ S = z at *
            generalize c.getD K 0 = x at *
            go_wp2_with fail
            rw [HFIN.out]
            go_roundw
            case rel => exact ⟨k + 1, _, by omega, by go_num, HBL2, HN2, HR3⟩
            case measure => simp [intOf]; omega
        · have ek : k = len := by omega
          subst ek
          have hki : ¬ (k : Int) < (k : Int) := by omega
          have HW : Hid (Wrt c D) := hide (by
            have h := HLA.out
            rw [← HM8.out, ← HLEN.out] at h
            exact h.fin)
          have hcl : c.length = m := HLA.out.1
          have HCS := hide (csl_row (w := wr) HR.out hcl (by omega) HLA.out.2.1)
          have hrs : w2.heap.size < wr.heap.size := (Array.getElem?_eq_some_iff.1 HR.out).1
          clear HLA
          go_wp2_with fail
          go_ret2
          exact ⟨_, c, rfl, HCS.out, by rw [← HD.out]; exact HW.out, HBW.out.trans (HBL.out.mono hsw), fun b e => by simp [blockOf] at e; omega⟩
end Go.Proofs.YtglajdmkbckjjabDoor
namespace Go.Proofs.YtglajdmkbckjjabDoor
open Go.RowKit Go.Shelf
set_option linter.unusedVariables false
set_option linter.unusedSimpArgs false
set_option maxRecDepth 20000

theorem dec_pos (n : Nat) (ds : List Bool) : 1 ≤ (decR n ds).1 := by
  have h1 : 1 ≤ (readR n ds).1 := by
    unfold readR
    cases ds with
    | nil => exact Nat.le_refl _
    | cons d l =>
      rw [bndR_some (c := 1) (a := d) rfl]
      show 1 ≤ 1 + _
      omega
  unfold decR
  change 1 ≤ (bndR (readR n) _ ds).1
  cases h : readR n ds with
  | mk c o =>
    rw [h] at h1
    cases o with
    | none => rw [bndR_none h]; exact h1
    | some B => rw [bndR_some h]; show 1 ≤ c + _; have : 1 ≤ c := h1; omega
theorem dOut_le {n : Nat} {c : List Nat} {a : Nat} (h : dOut n c = (none, a)) : a ≤ c.length := by
  unfold dOut at h
  have h1 := (good_dec n).le (digs c)
  rw [digs_len] at h1
  cases hd : decR n (digs c) with
  | mk k o =>
    rw [hd] at h h1
    cases o with
    | none => simp at h; omega
    | some B =>
      dsimp only at h
      split at h
      · simp at h; omega
      · simp at h
/-- what is taken is a bitmap's code -/
theorem dOut_code {n : Nat} {c : List Nat} {B a : Nat} (h1 : 1 ≤ n) (hc : ∀ x ∈ c, x < 256) (h : dOut n c = (some B, a)) : Wrt c (encD B n) ∧ B < 2 ^ n ∧ a = 0 := by
  unfold dOut at h
  cases hd : decR n (digs c) with
  | mk k o =>
    rw [hd] at h
    cases o with
    | none => simp at h
    | some B' =>
      dsimp only at h
      split at h
      · simp at h
      · rename_i hk
        simp only [Prod.mk.injEq, Option.some.injEq] at h
        obtain ⟨rfl, rfl⟩ := h
        obtain ⟨e1, e2, e3⟩ := dec_is h1 hd
        have h2 := (good_dec n).sle _ _ _ hd
        rw [digs_len] at h2
        have hk2 : k = (digs c).length := by rw [digs_len]; omega
        rw [hk2, List.take_length] at e2
        exact ⟨⟨hc, e2⟩, e1, rfl⟩
/-- a byte behind a code cannot stand there -/
theorem dOut_more {n : Nat} {c : List Nat} {B x : Nat} (h1 : 1 ≤ n) (h2 : n ≤ 65536) (hB : B < 2 ^ n) (h : Wrt c (encD B n)) : dOut n (c ++ [x]) = (none, c.length) := by
  unfold dOut
  have e := dec_of h1 hB h2 (digs [x])
  rw [← wrt_encF h, ← digs_app, digs_len] at e
  rw [e]
  dsimp only
  rw [if_pos (by simp)]
  congr 1
  omega
/-- a code that ends earlier ends too early -/
theorem dOut_less {n : Nat} {c : List Nat} {B : Nat} (h1 : 1 ≤ n) (h2 : n ≤ 65536) (hB : B < 2 ^ n) (h : Wrt c (encD B n)) (p : Nat) (hp : p < c.length) : dOut n (c.take p) = (none, p) := by
  unfold dOut
  have e := dec_of h1 hB h2 []
  rw [List.append_nil, ← wrt_encF h] at e
  have ho := (good_dec n).out (digs c) (8 * p) (by rw [e, digs_len]; show 8 * p < 8 * c.length; omega) (by rw [digs_len]; omega)
  rw [digs_take] at ho
  rw [ho]
  show (none, (8 * p + 1 - 1) / 8) = _
  congr 1
  omega
theorem val_wds {B n : Nat} (h1 : 1 ≤ n) (hB : B < 2 ^ n) : valW (wds B (nW n)) = B ∧ cwErr n (wds B (nW n)) = 0 := by
  have hlt : ∀ b ∈ wds B (nW n), b < 18446744073709551616 := wds_lt _ _
  have hval : valW (wds B (nW n)) = B := by
    have hB2 : B < 2 ^ (64 * nW n) := Nat.lt_of_lt_of_le hB (Nat.pow_le_pow_right (by decide) (by unfold nW; omega))
    refine wd_ext (m := nW n) (fun k hk => ?_) ?_ hB2
    · rw [wd_valW _ _ hlt, wds_get hk]
    · have := valW_lt _ hlt
      rwa [wds_len] at this
  refine ⟨hval, ?_⟩
  unfold cwErr
  rw [if_neg (by rw [wds_len]; simp)]
  rw [if_neg]
  rintro ⟨h3, h4⟩
  apply h4
  rw [wds_len, wds_get (by unfold nW; omega)]
  refine Nat.div_eq_of_lt ?_
  refine lt_of_bits fun i hi => ?_
  rw [testBit_wd]
  by_cases h64 : i < 64
  · rw [bit_ge hB (by unfold nW; omega)]
    simp
  · simp [h64]
theorem wds_zero (n : Nat) : wds 0 n = List.replicate n 0 := by
  unfold wds
  apply List.ext_getElem
  · simp
  · intro i h1 h2
    simp [wd_zero]
end Go.Proofs.YtglajdmkbckjjabDoor
namespace Go.Proofs.YtglajdmkbckjjabDoor
open Go.RowKit Go.Shelf
set_option linter.unusedVariables false
set_option linter.unusedSimpArgs false
set_option maxRecDepth 20000

theorem bpRow_take (l : List Nat) (n : Nat) (f : Nat → Nat) (hf : ∀ i, i < l.length → f i = l.getD i 0) (hn : l.length ≤ n) : (bpRow n f).toList.take l.length = l.map byV := by
  apply List.ext_getElem?
  intro i
  by_cases h : i < l.length
  · rw [List.getElem?_take_of_lt h, Array.getElem?_toList, bpRow_get f (by omega), hf i h]
    simp [byV, h, List.getD]
  · rw [List.getElem?_eq_none (by simp; omega), List.getElem?_eq_none (by simp; omega)]
theorem Bo.own {N : Nat} {w : World} {v : Value} {l : List Nat} (h : Bo N w v l) (hl : l.length ≤ 140737488351232) : w.ownsRow N 5 1 v l.length (l.map byV) := by
  obtain ⟨g, rfl, hg, hh⟩ := h
  refine ⟨by simp, .inr ⟨g, l.length + 3, _, rfl, hg, hh, by omega, by unfold maxLen; omega, by rw [bpRow_size, Nat.mul_one], ?_⟩⟩
  rw [Nat.mul_one]
  exact bpRow_take l _ _ (fun i hi => if_pos hi) (by omega)
theorem Bo.csl {N : Nat} {w : World} {v : Value} {l : List Nat} (h : Bo N w v l) (hl : l.length ≤ 140737488351232) (hb : ∀ x ∈ l, x < 256) : CSl w v l := own_csl (h.own hl) hb
theorem CSl.part {w : World} {a : Option Addr} {cap n p : Nat} {c : List Nat} (h : CSl w (.slice a n cap) c) (hp : p ≤ c.length) : CSl w (.slice a p cap) (c.take p) := by
  obtain ⟨a', cap', e, h1, h2, h3, h4⟩ := h
  injection e with e1 e2 e3
  subst e1 e3
  have hlen : (c.take p).length = p := by simp; omega
  refine ⟨a, cap, by rw [hlen], by omega, h2, fun x hx => h3 x (List.mem_of_mem_take hx), fun h0 => ?_⟩
  obtain ⟨b, off, rfl, hc⟩ := h4 (by omega)
  refine ⟨b, off, rfl, fun i hi => ?_⟩
  rw [hc i (by omega)]
  simp [List.getD, List.getElem?_take_of_lt (show i < p by omega)]
/-- a byte behind a copy -/
theorem Bo.more {N : Nat} {w w' : World} {v v' : Value} {l : List Nat} {x : Nat} (h : Bo N w v l) (hl : l.length ≤ 140737488351232) (hb : ∀ y ∈ l, y < 256) (hx : x < 256) (hN : N ≤ w.heap.size)
    (ho : w'.ownsRow 0 5 1 v' (l.length + 1) (l.map byV ++ [.int .u8 (x : Int)])) (hu : (v'.ownBlock = some (w.alloc (.cells #[.int .u8 (x : Int)] 5)).heap.size ∧ (w.alloc (.cells #[.int .u8 (x : Int)] 5)).grownBy w' none) ∨ (∃ g, v.ownBlock = some g ∧ v'.ownBlock = some g ∧ (w.alloc (.cells #[.int .u8 (x : Int)] 5)).grownBy w' (some g))) :
    CSl w' v' (l ++ [x]) ∧ Below N w w' := by
  refine ⟨own_csl (b := 0) (by rw [List.length_append, List.map_append]; exact ho) fun y hy => ?_, ?_⟩
  · rcases List.mem_append.1 hy with h1 | h1
    · exact hb y h1
    · rw [List.mem_singleton.1 h1]; exact hx
  · obtain ⟨g, rfl, hg, -⟩ := h
    have h0 : Below N w (w.alloc (.cells #[.int .u8 (x : Int)] 5)) := (Below.refl _ _).alloc hN _
    have hs : N ≤ (w.alloc (.cells #[.int .u8 (x : Int)] 5)).heap.size := by rw [World.size_alloc]; omega
    rcases hu with ⟨_, h1⟩ | ⟨g', e, _, h1⟩
    · exact h0.grown h1 hs (fun k e => by cases e)
    · simp only [Value.ownBlock, Option.some.injEq] at e
      subst e
      exact h0.grown h1 hs (fun k e => by cases e; exact hg)

theorem enc_at {W : World} {wv : Value} {m B : Nat} (hT : TabAt W) (h1 : 1 ≤ m) (h2 : m ≤ 65536) (hB : B < 2 ^ m) (hv : WSl W wv (wds B (nW m))) :
    Calls Tryd.prog 9 #[.int .i64 (m : Int), wv] W fun e w' => ∃ a cap c, e = .returned (.tuple #[.slice a c.length cap, .int .i64 0]) ∧ CSl w' (.slice a c.length cap) c ∧ Wrt c (encD B m) ∧ Below W.heap.size W w' := by
  obtain ⟨e1, e2⟩ := val_wds h1 hB
  have h := encode_main m hT hv h1 h2 e2
  rw [e1] at h
  refine h.mono fun e w' h => ?_
  obtain ⟨cv, c, rfl, ho, hW, hb⟩ := h
  have hc := own_csl ho hW.1
  obtain ⟨a, cap, rfl, h⟩ := hc
  exact ⟨a, cap, c, rfl, ⟨a, cap, rfl, h⟩, hW, hb⟩
theorem dec_some {W : World} {cv : Value} {c : List Nat} {m B : Nat} (h1 : 1 ≤ m) (h2 : m ≤ 65536) (hB : B < 2 ^ m) (hc : CSl W cv c) (hW : Wrt c (encD B m)) :
    Calls Tryd.prog 12 #[.int .i64 (m : Int), cv] W fun e w' => ∃ v', e = .returned (.tuple #[v', .int .i64 0, .int .i64 0]) ∧ WSl w' v' (wds B (nW m)) ∧ Below W.heap.size W w' := by
  have h := decode_any h1 h2 hc (enc_len hW h2)
  rw [dOut_enc h1 h2 hB hW] at h
  refine h.mono fun e w' h => ?_
  obtain ⟨v', e1, -, e3, -, e5⟩ := h
  exact ⟨v', e1, e3, e5⟩
theorem dec_none {W : World} {cv : Value} {c : List Nat} {m a : Nat} (h1 : 1 ≤ m) (h2 : m ≤ 65536) (hc : CSl W cv c) (hl : c.length ≤ 150000000000000) (hd : dOut m c = (none, a)) :
    Calls Tryd.prog 12 #[.int .i64 (m : Int), cv] W fun e w' => e = .returned (.tuple #[.slice none 0 0, .int .i64 (a : Nat), .int .i64 31]) ∧ Below W.heap.size W w' := by
  have h := decode_any h1 h2 hc hl
  rw [hd] at h
  exact h
theorem sameB_eq {w : World} {v1 v2 : Value} {l : List Nat} (h1 : CSl w v1 l) (h2 : CSl w v2 l) :
    Calls Tryd.prog 19 #[v1, v2] w fun e w' => e = .returned (.bool true) ∧ Below w.heap.size w w' := (sameBytes_any h1 h2).mono fun e w' h => ⟨h.1.trans (by simp), h.2.2⟩
theorem enc_short {c : List Nat} {B n : Nat} (h : Wrt c (encD B n)) (h2 : n ≤ 65536) : c.length ≤ 20000 := by
  have h1 := h.len
  have h3 := encP_len (B := B) n 0 (by omega) (Nat.zero_le n)
  rw [h1, encD, List.length_cons]
  omega
end Go.Proofs.YtglajdmkbckjjabDoor
namespace Go.Proofs.YtglajdmkbckjjabDoor
open Go.RowKit Go.Shelf
attribute [local go_sem] Oper.semAt_some
set_option linter.unusedVariables false
set_option linter.unusedSimpArgs false
set_option maxRecDepth 20000

theorem wrt_step {c : List Nat} {D : List Bool} (h : Wrt c D) (d : Bool) : ∃ c', Wrt c' (D ++ [d]) := by
  by_cases h8 : D.length % 8 = 0
  · obtain ⟨g1, g2⟩ := h.grow h8
    exact ⟨_, (wrt_put (m := 7) g2 g1 (by decide) d).2.2⟩
  · have e : fil D.length = (fil D.length - 1) + 1 := by unfold fil; omega
    exact ⟨_, (wrt_put (m := fil D.length - 1) h.1 (by rw [← e]; exact h.2) (by unfold fil; omega) d).2.2⟩
theorem wrt_more : ∀ (E D : List Bool) (c : List Nat), Wrt c D → ∃ c', Wrt c' (D ++ E)
  | [], D, c, h => ⟨c, by rw [List.append_nil]; exact h⟩
  | d :: E, D, c, h => by
    obtain ⟨c1, h1⟩ := wrt_step h d
    obtain ⟨c2, h2⟩ := wrt_more E _ _ h1
    exact ⟨c2, by rwa [List.append_assoc] at h2⟩
theorem wrt_ex (D : List Bool) : ∃ c, Wrt c D := wrt_more D [] [] wrt_nil
/-- what Encode says of n bits in these words: the code and the error -/
def EAns (n : Int) (l : List Nat) (q : List Nat × Nat) : Prop :=
  (∃ m : Nat, n = (m : Int) ∧ 1 ≤ m ∧ m ≤ 65536 ∧ cwErr m l = 0 ∧ Wrt q.1 (encD (valW l) m) ∧ q.2 = 0) ∨
  (∃ m : Nat, n = (m : Int) ∧ 1 ≤ m ∧ m ≤ 65536 ∧ cwErr m l ≠ 0 ∧ q = ([], cwErr m l)) ∨ (¬ (1 ≤ n ∧ n ≤ 65536) ∧ q = ([], 1))
theorem eans_ex (n : Int) (l : List Nat) : ∃ q, EAns n l q := by
  by_cases h : 1 ≤ n ∧ n ≤ 65536
  · obtain ⟨m, rfl⟩ : ∃ m : Nat, n = (m : Int) := ⟨n.toNat, by omega⟩
    by_cases he : cwErr m l = 0
    · obtain ⟨c, hc⟩ := wrt_ex (encD (valW l) m)
      exact ⟨(c, 0), .inl ⟨m, rfl, by omega, by omega, he, hc, rfl⟩⟩
    · exact ⟨_, .inr (.inl ⟨m, rfl, by omega, by omega, he, rfl⟩)⟩
  · exact ⟨_, .inr (.inr ⟨h, rfl⟩)⟩
theorem EAns.lt {n : Int} {l : List Nat} {q : List Nat × Nat} (h : EAns n l q) : ∀ x ∈ q.1, x < 256 := by
  rcases h with ⟨m, -, -, -, -, hW, -⟩ | ⟨m, -, -, -, -, rfl⟩ | ⟨-, rfl⟩
  · exact hW.1
  · simp
  · simp
theorem EAns.len {n : Int} {l : List Nat} {q : List Nat × Nat} (h : EAns n l q) : q.1.length ≤ 20000 := by
  rcases h with ⟨m, -, -, h2, -, hW, -⟩ | ⟨m, -, -, -, -, rfl⟩ | ⟨-, rfl⟩
  · exact enc_short hW h2
  · simp
  · simp
/-- an answer of the program's: own bytes in new memory -/
def PEn (x : World) (q : List Nat × Nat) (e : Ending) (w' : World) : Prop := ∃ av, e = .returned (.tuple #[av, .int .i64 ((q.2 : Nat) : Int)]) ∧ w'.ownsRow 0 5 1 av q.1.length (q.1.map byV) ∧ Below x.heap.size x w' ∧ ∀ b, av.ownBlock = some b → x.heap.size ≤ b
/-- an answer of the document's -/
def DEn (x : World) (q : List Nat × Nat) (e : Ending) (w' : World) : Prop := ∃ bv, e = .returned (.tuple #[bv, .int .i64 ((q.2 : Nat) : Int)]) ∧ CSl w' bv q.1 ∧ Below x.heap.size x w' ∧ ∀ b, blockOf bv = some b → x.heap.size ≤ b ∧ b < w'.heap.size
theorem csl_nil (w : World) : CSl w (.slice none 0 0) [] := ⟨none, 0, rfl, Nat.le_refl _, by unfold maxLen; omega, by simp, by simp⟩
theorem own_nil8 (w : World) : w.ownsRow 0 5 1 (.slice none 0 0) ([] : List Nat).length (([] : List Nat).map byV) := ⟨rfl, .inl ⟨rfl, rfl⟩⟩
theorem encode_err {x : World} {v : Value} {l : List Nat} (n : Int) (r : Nat) (h0 : r ≠ 0) (hv : WSl x v l) (hF : Calls Tryd.prog 25 #[.int .i64 n, v] x fun e w' => e = .returned (.tuple #[.pointer none, .int .i64 ((r : Nat) : Int)]) ∧ Below x.heap.size x w') :
    Calls Tryd.prog 9 #[.int .i64 n, v] x fun e w' => e = .returned (.tuple #[.slice none 0 0, .int .i64 ((r : Nat) : Int)]) ∧ Below x.heap.size x w' := by
  refine (callsIn_wide (n := 5)).1 ?_
  have HF := hide hF
  have hne : (((r : Nat) : Int) != 0) = true := by simpa using h0
  obtain ⟨va, vcap, rfl, -⟩ := hv
  clear hF
  generalize l.length = llen at *
  refine callsIn_of_wp_marks Tryd.func9 rfl trivial ?_ rfl
  simp only [Tryd.ntmps9, List.size_toArray, List.length_cons, List.length_nil, Nat.reduceAdd, Nat.reduceSub, Array.replicate_succ, Array.replicate_zero, List.push_toArray, List.append_toArray, List.nil_append, List.cons_append]
  gi_wp2_with (first
    | (refine ⟨trivial, ?_⟩; gi_at_call 25; refine (callsIn_wide.2 HF.out).mono ?_; clear HF; rintro e w1 ⟨rfl, hb⟩; have HB := hide hb; clear hb))
  refine ⟨_, results_tmp2 rfl _ _ _, ?_⟩
  exact ⟨rfl, HB.out⟩
theorem rencode_err {x : World} {v : Value} {l : List Nat} (n : Int) (r : Nat) (h0 : r ≠ 0) (hv : WSl x v l) (hF : Calls Tryd.prog 34 #[.int .i64 n, v] x fun e w' => e = .returned (.tuple #[.pointer none, .int .i64 ((r : Nat) : Int)]) ∧ w' = x) :
    Calls Tryd.prog 17 #[.int .i64 n, v] x fun e w' => e = .returned (.tuple #[.slice none 0 0, .int .i64 ((r : Nat) : Int)]) ∧ w' = x := by
  have HF := hide hF
  have hne : (((r : Nat) : Int) != 0) = true := by simpa using h0
  obtain ⟨va, vcap, rfl, -⟩ := hv
  clear hF
  generalize l.length = llen at *
  go_enter Tryd.func17, Tryd.ntmps17
  go_wp2_with (go_at_call 34; refine HF.out.mono ?_; clear HF; rintro e w1 ⟨rfl, hw⟩; have hw2 := hw.symm; clear hw; subst hw2)
  go_ret2
  exact ⟨rfl, rfl⟩
theorem encode_all {x : World} {v : Value} {l : List Nat} {n : Int} {q : List Nat × Nat} (hq : EAns n l q) (hT : TabAt x) (hv : WSl x v l) : Calls Tryd.prog 9 #[.int .i64 n, v] x (PEn x q) := by
  rcases hq with ⟨m, rfl, h1, h2, he, hW, h0⟩ | ⟨m, rfl, h1, h2, he, rfl⟩ | ⟨h, rfl⟩
  · refine (encode_main m hT hv h1 h2 he).mono fun e w' h => ?_
    obtain ⟨cv, c, rfl, ho, hW', hb⟩ := h
    obtain rfl := hW'.unique hW
    exact ⟨cv, by rw [h0]; rfl, own_low ho (Nat.zero_le _), hb, fun b e => (ho.lt b e).1⟩
  · refine (encode_err (m : Int) (cwErr m l) he hv (From_bad m h1 h2 hv he)).mono fun e w' h => ?_
    exact ⟨_, h.1, own_nil8 _, h.2, fun b e => by simp [Value.ownBlock] at e⟩
  · refine (encode_err n 1 (by decide) hv ((From_no n h hv).mono fun e w' hh => ⟨hh.1, hh.2 ▸ Below.refl _ _⟩)).mono fun e w' h => ?_
    exact ⟨_, h.1, own_nil8 _, h.2, fun b e => by simp [Value.ownBlock] at e⟩
theorem rencode_all {x : World} {v : Value} {l : List Nat} {n : Int} {q : List Nat × Nat} (hq : EAns n l q) (hv : WSl x v l) : Calls Tryd.prog 17 #[.int .i64 n, v] x (DEn x q) := by
  rcases hq with ⟨m, rfl, h1, h2, he, hW, h0⟩ | ⟨m, rfl, h1, h2, he, rfl⟩ | ⟨h, rfl⟩
  · refine (rencode_main m hv h1 h2 he).mono fun e w' h => ?_
    obtain ⟨cv, c, rfl, hc, hW', hb, hz⟩ := h
    obtain rfl := hW'.unique hW
    exact ⟨cv, by rw [h0]; rfl, hc, hb, hz⟩
  · refine (rencode_err (m : Int) (cwErr m l) he hv (rFrom_bad m h1 h2 hv he)).mono fun e w' h => ?_
    exact ⟨_, h.1, csl_nil _, h.2 ▸ Below.refl _ _, fun b e => by simp [blockOf] at e⟩
  · refine (rencode_err n 1 (by decide) hv (rFrom_no n h hv)).mono fun e w' h => ?_
    exact ⟨_, h.1, csl_nil _, h.2 ▸ Below.refl _ _, fun b e => by simp [blockOf] at e⟩
end Go.Proofs.YtglajdmkbckjjabDoor
namespace Go.Proofs.YtglajdmkbckjjabDoor
open Go.RowKit Go.Shelf
set_option linter.unusedVariables false
set_option linter.unusedSimpArgs false
set_option maxRecDepth 20000

/-- an own row's address -/
theorem own_open {w : World} {v : Value} {l : List Nat} (h : w.ownsRow 0 5 1 v l.length (l.map byV)) : ∃ a cap, v = .slice a l.length cap ∧ l.length ≤ cap ∧ cap ≤ 9223372036854775807 ∧ (0 < l.length → ∃ g, a = some ⟨g, 0, none⟩) := by
  rcases h.2 with ⟨rfl, hz⟩ | ⟨g, cap, cur, rfl, _, _, h1, h2, _⟩
  · exact ⟨none, 0, by rw [hz], by omega, by omega, fun h => by omega⟩
  · unfold maxLen at h2
    exact ⟨_, _, rfl, h1, by omega, fun _ => ⟨g, rfl⟩⟩
theorem turned0 {w : World} {g cap i : Nat} {c : List Nat} (h : w.ownsRow 0 5 1 (.slice (some ⟨g, 0, none⟩) c.length cap) c.length (c.map byV)) (hi : i < c.length) :
    w.cell? ⟨g, i, none⟩ = some (.int .u8 (c.getD i 0 : Nat)) ∧ w.frozen? ⟨g, i, none⟩ = false := by
  refine ⟨?_, ?_⟩
  · have := h.cells (g := g) rfl i (byV (c.getD i 0)) (by simp [List.getD, hi])
    rw [Addr.add_lit, Nat.zero_add] at this
    simpa [byV] using this
  · rcases h.2 with ⟨hv, hz⟩ | ⟨g', cap', cur, e, hg0, hgc, -⟩
    · simp at hv
    · simp only [Value.slice.injEq, Option.some.injEq, Addr.mk.injEq] at e
      obtain ⟨⟨rfl, -, -⟩, -, rfl⟩ := e
      exact frozen_of_row _ _ _ _ _ hgc
/-- bytes that are appended to: since w0 nothing else has turned -/
structure YS (w0 w : World) (v0 v : Value) (l : List Nat) : Prop where
  own : w.ownsRow 0 5 1 v l.length (l.map byV)
  chg : Chg (fun b => v0.ownBlock = some b) w0 w
  loc : ∀ b, v.ownBlock = some b → v0.ownBlock = some b ∨ w0.heap.size ≤ b
theorem YS.start {w : World} {v : Value} {l : List Nat} (h : w.ownsRow 0 5 1 v l.length (l.map byV)) : YS w w v v l := ⟨h, Chg.refl _ _, fun _ e => .inl e⟩
theorem YS.more {w0 w w4 : World} {v0 v v4 : Value} {l : List Nat} {d : Nat} (h : YS w0 w v0 v l) (ho : w4.ownsRow 0 5 1 v4 (l.length + 1) (l.map byV ++ [.int .u8 (d : Int)])) (hu : Upn (w.alloc (.cells #[.int .u8 (d : Int)] 5)) w4 v v4) : YS w0 w4 v0 v4 (l ++ [d]) := by
  obtain ⟨s1, s2, s3⟩ := hu.same
  have hs := hu.size
  have hsz : (w.alloc (.cells #[.int .u8 (d : Int)] 5)).heap.size = w.heap.size + 1 := World.size_alloc ..
  have h1 := h.chg.size
  refine ⟨by rw [List.length_append, List.map_append]; exact ho, ⟨s1.trans h.chg.os, s2.trans h.chg.tape, s3.trans h.chg.output, by omega, fun b hb hne => ?_⟩, fun b e => ?_⟩
  · refine ((hu.block b (by omega) fun e => ?_).trans (Below.heap_alloc _ _ _ (by omega))).trans (h.chg.keep b hb hne)
    rcases h.loc b e with e | e
    · exact hne e
    · omega
  · rcases hu.loc b e with e | e
    · exact h.loc b e
    · right; omega
def mkd (m k : Nat) (l : List Nat) : List Nat := List.replicate k m ++ l.drop k
theorem mkd_len (m k : Nat) (l : List Nat) (h : k ≤ l.length) : (mkd m k l).length = l.length := by simp [mkd]; omega
theorem mkd_set (m k : Nat) (l : List Nat) (h : k < l.length) : (mkd m k l).set k m = mkd m (k + 1) l := by
  unfold mkd
  rw [List.set_append_right _ _ (by simp), List.length_replicate, Nat.sub_self, List.drop_eq_getElem_cons h, List.set_cons_zero, List.replicate_succ']
  simp
set_option maxHeartbeats 1000000 in
theorem full_any {w : World} {v : Value} {l : List Nat} (m : Nat) (hm : m < 256) (h : w.ownsRow 0 5 1 v l.length (l.map byV)) (hl : l.length ≤ 1000000) :
    Calls Tryd.prog 20 #[v, .int .u8 (m : Int)] w fun e w' => e = .returned (.tuple #[]) ∧ w'.ownsRow 0 5 1 v l.length ((List.replicate l.length m).map byV) ∧ Chg (fun b => v.ownBlock = some b) w w' := by
  obtain ⟨a, cap, rfl, h1, h2, h3⟩ := own_open h
  have HO := hide h
  have H3 := hide h3
  clear h h3
  obtain ⟨n, hn⟩ : ∃ n, l.length = n := ⟨_, rfl⟩
  have HN := hide hn
  rw [hn] at h1 hl ⊢
  have HO' : Hid (w.ownsRow 0 5 1 (.slice a n cap) n ((mkd m 0 l).map byV)) := hide (by have := HO.out; rw [hn] at this; simpa [mkd] using this)
  clear hn HO
  go_enter Tryd.func20, Tryd.ntmps20
  go_wp2_with fail
  go_loopw [4] (fun i wr => ∃ k : Nat, k ≤ n ∧ i = .int .i64 (k : Int) ∧ Hid (wr.ownsRow 0 5 1 (.slice a n cap) n ((mkd m k l).map byV)) ∧ Hid (Chg (fun b => (Value.slice a n cap).ownBlock = some b) w wr)) (fun i _ => n - (intOf i).toNat)
  case atStart => exact ⟨0, Nat.zero_le _, rfl, HO', hide (Chg.refl _ _)⟩
  case round =>
    obtain ⟨k, hk, rfl, HR, HC⟩ := hrel
    clear HO'
    by_cases hlt : k < n
    · obtain ⟨g, rfl⟩ := H3.out (by rw [HN.out]; omega)
      have hml := mkd_len m k l (by rw [HN.out]; exact hk)
      rw [HN.out] at hml
      have ho := HR.out
      rw [← hml] at ho
      obtain ⟨k0, kf⟩ := turned0 ho (i := k) (by rw [hml]; exact hlt)
      have hs := own_set (y := m) ho (K := k) (by rw [hml]; exact hlt)
      rw [mkd_set m k l (by rw [HN.out]; exact hlt), mkd_len m (k + 1) l (by rw [HN.out]; exact hlt), HN.out] at hs
      have HS := hide hs
      have HC2 : Hid (Chg (fun b => (Value.slice (some ⟨g, 0, none⟩) n cap).ownBlock = some b) w (wr.setCell ⟨g, k, none⟩ (byV m))) := hide (HC.out.trans ⟨rfl, rfl, rfl, by simp [World.setCell], fun b _ hu => Go.heap_setCell_other _ _ _ _ (fun e => hu (by subst e; rfl))⟩)
      generalize (mkd m k l).getD k 0 = y at *
      clear HR HC ho hs hml
      unfold byV at HS HC2
      go_wp2_with fail
      go_roundw
      case rel => exact ⟨k + 1, by omega, by go_num, HS, HC2⟩
      case measure => simp [intOf]; omega
    · have ek : k = n := by omega
      subst ek
      have HE : Hid (wr.ownsRow 0 5 1 (.slice a k cap) k ((List.replicate k m).map byV)) := hide (by
        have := HR.out
        rwa [mkd, List.drop_of_length_le (by rw [HN.out]; exact Nat.le_refl _), List.append_nil] at this)
      go_wp2_with fail
      go_end0
      exact ⟨rfl, HE.out, HC.out⟩
set_option maxHeartbeats 1000000 in
theorem all_any {w : World} {v : Value} {n : Nat} (m : Nat) (hm : m < 256) (h : CSl w v (List.replicate n m)) :
    Calls Tryd.prog 21 #[v, .int .u8 (m : Int)] w fun e w' => e = .returned (.bool true) ∧ Below w.heap.size w w' := by
  obtain ⟨a, cap, rfl, h1, h2, h3, h4⟩ := h
  rw [List.length_replicate] at h1 h4
  rw [List.length_replicate]
  unfold maxLen at h2
  have HC : Hid (∀ k, k < n → ∃ b off, a = some ⟨b, off, none⟩ ∧ w.cell? ⟨b, off + k, none⟩ = some (.int .u8 (m : Int))) := hide fun k hk => by
    obtain ⟨b, off, rfl, hc⟩ := h4 (by omega)
    refine ⟨b, off, rfl, ?_⟩
    rw [hc k hk]
    simp [List.getD, hk]
  clear h3 h4
  have hne : ((m : Int) != (m : Int)) = false := by simp
  go_enter Tryd.func21, Tryd.ntmps21
  go_wp2_with fail
  go_loopw [5] (fun i wr => ∃ k : Nat, k ≤ n ∧ i = .int .i64 (k : Int) ∧ wr = w) (fun i _ => n - (intOf i).toNat)
  case atStart => exact ⟨0, Nat.zero_le _, rfl, rfl⟩
  case round =>
    obtain ⟨k, hk, rfl, hw⟩ := hrel
    have hw2 := hw.symm
    clear hw
    subst hw2
    by_cases hlt : k < n
    · obtain ⟨b, off, rfl, hck⟩ := HC.out k hlt
      go_wp2_with fail
      go_roundw
      case rel => exact ⟨k + 1, by omega, by go_num, trivial⟩
      case measure => simp [intOf]; omega
    · have ek : k = n := by omega
      subst ek
      go_wp2_with fail
      go_ret
      exact ⟨rfl, Below.refl _ _⟩
end Go.Proofs.YtglajdmkbckjjabDoor
namespace Go.Proofs.YtglajdmkbckjjabDoor
open Go.RowKit Go.Shelf
set_option linter.unusedVariables false
set_option linter.unusedSimpArgs false
set_option maxRecDepth 20000

theorem CSl.keptIf {w w' : World} {v : Value} {l : List Nat} (h : CSl w v l) (hk : ∀ g, blockOf v = some g → g < w.heap.size → w'.heap[g]? = w.heap[g]?) : CSl w' v l := by
  obtain ⟨a, cap, rfl, h1, h2, h3, h4⟩ := h
  refine ⟨a, cap, rfl, h1, h2, h3, fun h0 => ?_⟩
  obtain ⟨b, off, rfl, hc⟩ := h4 h0
  refine ⟨b, off, rfl, fun i hi => ?_⟩
  have hb : b < w.heap.size := World.block_lt_of_cell? w _ (hc i hi)
  rw [World.cell?_of_block (hk b rfl hb)]
  exact hc i hi
/-- a law's run: what was handed in, the document's answer, the program's answers, the newest first -/
structure St (w0 w : World) (vin bv : Value) (lw lb : List Nat) (rows : List (Value × List Nat)) : Prop where
  bel : Below w0.heap.size w0 w
  cin : Cp w0.heap.size w vin lw
  cb : CSl w bv lb
  cbz : ∀ b, blockOf bv = some b → w0.heap.size ≤ b ∧ b < w.heap.size
  own : ∀ r ∈ rows, w.ownsRow 0 5 1 r.1 r.2.length (r.2.map byV)
  loc : ∀ r ∈ rows, ∀ b, r.1.ownBlock = some b → w0.heap.size ≤ b ∧ blockOf vin ≠ some b ∧ blockOf bv ≠ some b
  ap : rows.Pairwise fun r s => ∀ b, r.1.ownBlock = some b → s.1.ownBlock ≠ some b
theorem St.calm {w0 w w' : World} {vin bv : Value} {lw lb : List Nat} {rows : List (Value × List Nat)} (h : St w0 w vin bv lw lb rows) (hb : Below w.heap.size w w') : St w0 w' vin bv lw lb rows := by
  refine ⟨h.bel.trans (hb.mono h.bel.size), h.cin.below hb, h.cb.keptIf fun g _ hg => hb.block g hg, fun b e => ⟨(h.cbz b e).1, Nat.lt_of_lt_of_le (h.cbz b e).2 hb.size⟩, fun r hr => rowK8 (h.own r hr) fun b e => hb.block b ((h.own r hr).lt b e).2, h.loc, h.ap⟩
/-- one answer more -/
theorem St.new {w0 w w' : World} {vin bv v : Value} {lw lb l : List Nat} {rows : List (Value × List Nat)} (h : St w0 w vin bv lw lb rows) (hb : Below w.heap.size w w') (ho : w'.ownsRow 0 5 1 v l.length (l.map byV)) (hl : ∀ b, v.ownBlock = some b → w.heap.size ≤ b) : St w0 w' vin bv lw lb ((v, l) :: rows) := by
  have h' := h.calm hb
  have hs := h.bel.size
  refine ⟨h'.bel, h'.cin, h'.cb, h'.cbz, fun r hr => ?_, fun r hr b e => ?_, List.pairwise_cons.2 ⟨fun r hr b e e2 => ?_, h'.ap⟩⟩
  · rcases List.mem_cons.1 hr with rfl | hr
    · exact ho
    · exact h'.own r hr
  · rcases List.mem_cons.1 hr with rfl | hr
    · have h1 := hl b e
      refine ⟨by omega, fun e2 => ?_, fun e2 => ?_⟩
      · have := (h.cin.new b e2).2
        omega
      · have := (h.cbz b e2).2
        omega
    · exact h'.loc r hr b e
  · have h1 := hl b e
    have h2 := ((h.own r hr).lt b e2).2
    omega
/-- the newest answer is turned -/
theorem St.turn {w0 w w' : World} {vin bv v v' : Value} {lw lb l l' : List Nat} {rows : List (Value × List Nat)} (h : St w0 w vin bv lw lb ((v, l) :: rows)) (hc : Chg (fun b => v.ownBlock = some b) w w') (ho : w'.ownsRow 0 5 1 v' l'.length (l'.map byV)) (hl : ∀ b, v'.ownBlock = some b → v.ownBlock = some b ∨ w.heap.size ≤ b) : St w0 w' vin bv lw lb ((v', l') :: rows) := by
  have hs := h.bel.size
  have hz := h.loc (v, l) List.mem_cons_self
  have hap := List.pairwise_cons.1 h.ap
  have hmem : ∀ r ∈ rows, r ∈ (v, l) :: rows := fun r hr => List.mem_cons_of_mem _ hr
  refine ⟨⟨hc.os.trans h.bel.os, hc.tape.trans h.bel.tape, hc.output.trans h.bel.output, Nat.le_trans hs hc.size, fun b hb => (hc.keep b (by omega) fun e => by have := (hz b e).1; omega).trans (h.bel.block b hb)⟩,
    h.cin.keptIf fun g e => hc.keep g (h.cin.new g e).2 fun e2 => (hz g e2).2.1 e, h.cb.keptIf fun g e hg => hc.keep g hg fun e2 => (hz g e2).2.2 e, fun b e => ⟨(h.cbz b e).1, Nat.lt_of_lt_of_le (h.cbz b e).2 hc.size⟩, fun r hr => ?_, fun r hr b e => ?_, List.pairwise_cons.2 ⟨fun r hr b e e2 => ?_, hap.2⟩⟩
  · rcases List.mem_cons.1 hr with rfl | hr
    · exact ho
    · exact rowK8 (h.own r (hmem r hr)) fun b e => hc.keep b ((h.own r (hmem r hr)).lt b e).2 fun e2 => hap.1 r hr b e2 e
  · rcases List.mem_cons.1 hr with rfl | hr
    · rcases hl b e with e1 | e1
      · exact hz b e1
      · refine ⟨by omega, fun e2 => ?_, fun e2 => ?_⟩
        · have := (h.cin.new b e2).2
          omega
        · have := (h.cbz b e2).2
          omega
    · exact h.loc r (hmem r hr) b e
  · rcases hl b e with e1 | e1
    · exact hap.1 r hr b e1 e2
    · have h2 := ((h.own r (hmem r hr)).lt b e2).2
      omega
theorem St.csl {w0 w : World} {vin bv v : Value} {lw lb l : List Nat} {rows : List (Value × List Nat)} (h : St w0 w vin bv lw lb rows) (hr : (v, l) ∈ rows) (hb : ∀ x ∈ l, x < 256) : CSl w v l := own_csl (h.own _ hr) hb
end Go.Proofs.YtglajdmkbckjjabDoor
namespace Go.Proofs.YtglajdmkbckjjabDoor
open Go.RowKit
set_option linter.unusedVariables false
set_option linter.unusedSimpArgs false
set_option maxRecDepth 20000

/-- the document's reader: T digits are taken -/
def RdQ (w : World) (p : Nat) (cv : Value) (T : Nat) : Prop := w.heap[p]? = some (.cells #[cv, .int .i64 (T : Int)] 116 (0, 0))
theorem CSl.apart {w : World} {p T : Nat} {cv cv' : Value} {c : List Nat} (h : CSl w cv c) (hr : RdQ w p cv' T) (hcv : ∃ a n k, cv' = .slice a n k) {b off i : Nat} (hc : w.cell? ⟨b, off + i, none⟩ = some (.int .u8 (c.getD i 0 : Nat))) : b ≠ p := fun e => by
  subst e
  rw [cell_of_row _ _ _ _ _ _ hr] at hc
  obtain ⟨a, n, k, rfl⟩ := hcv
  cases hx : off + i with
  | zero => rw [hx] at hc; simp at hc
  | succ j =>
    cases j with
    | zero => rw [hx] at hc; simp at hc
    | succ j => rw [hx] at hc; simp at hc
theorem CSl.stepQ {w w' : World} {p T : Nat} {cv cv' : Value} {c : List Nat} (h : CSl w cv c) (hr : RdQ w p cv' T) (hcv : ∃ a n k, cv' = .slice a n k) (hk : Chg (fun b => b = p) w w') : CSl w' cv c := by
  have h' := h
  obtain ⟨a, cap, rfl, h1, h2, h3, h4⟩ := h
  refine ⟨a, cap, rfl, h1, h2, h3, fun h0 => ?_⟩
  obtain ⟨b, off, rfl, hc⟩ := h4 h0
  refine ⟨b, off, rfl, fun i hi => ?_⟩
  have hb : b < w.heap.size := World.block_lt_of_cell? w _ (hc i hi)
  rw [World.cell?_of_block (hk.keep b hb (h'.apart hr hcv (hc i hi)))]
  exact hc i hi
theorem and_8 (n : Nat) (h : n < 256) : bits .and .u8 (n : Int) 1 = ((n % 2 : Nat) : Int) := by
  have h1 : (BitVec.ofInt 8 1).toNat = 2 ^ 1 - 1 := by decide
  have key : (BitVec.ofInt 8 (n : Int) &&& BitVec.ofInt 8 1).toNat = n % 2 := by
    rw [BitVec.toNat_and, BitVec.toNat_ofInt, h1, Nat.and_two_pow_sub_one_eq_mod]
    omega
  show IntKind.u8.wrap ((BitVec.ofInt 8 (n : Int) &&& BitVec.ofInt 8 1).toNat : Nat) = _
  rw [key]
  simp [IntKind.wrap, IntKind.bits, IntKind.signed]
  omega
theorem bit_8 {x k : Nat} (hx : x < 256) : (bits .and .u8 ((x : Int) / 2 ^ k) 1 == 1) = x.testBit k := by
  have e : ((x : Int) / 2 ^ k) = ((x / 2 ^ k : Nat) : Int) := by simp
  have hl : x / 2 ^ k ≤ x := Nat.div_le_self _ _
  rw [e, and_8 _ (by omega), ← Nat.toNat_testBit]
  cases x.testBit k <;> rfl
set_option maxHeartbeats 1000000 in
theorem rdigit_any {w : World} {p T : Nat} {cv : Value} {c : List Nat} (hr : RdQ w p cv T) (hc : CSl w cv c) (hT : T < 4611686018427387904) (hin : T / 8 < c.length) :
    Calls Tryd.prog 74 #[.pointer (some ⟨p, 0, none⟩)] w fun e w' => e = .returned (.bool (dgV c T)) ∧ RdQ w' p cv (T + 1) ∧ Chg (fun b => b = p) w w' := by
  have hc' := hc
  obtain ⟨a, cap, rfl, h1, h2, h3, h4⟩ := hc
  obtain ⟨b, off, rfl, hcell⟩ := h4 (by omega)
  have c0 : w.cell? ⟨p, 0, none⟩ = some (.slice (some ⟨b, off, none⟩) c.length cap) := cell_of_row _ _ _ _ _ _ hr
  have c1 : w.cell? ⟨p, 1, none⟩ = some (.int .i64 (T : Int)) := cell_of_row _ _ _ _ _ _ hr
  have f1 : w.frozen? ⟨p, 1, none⟩ = false := frozen_of_row _ _ _ _ _ hr
  have k1 := hcell (T / 8) hin
  have hx : c.getD (T / 8) 0 < 256 := by
    have : c.getD (T / 8) 0 = c[T / 8] := by simp [List.getD, hin]
    rw [this]
    exact h3 _ (List.getElem_mem hin)
  obtain ⟨K, hK⟩ : ∃ K, T / 8 = K := ⟨_, rfl⟩
  obtain ⟨U, hU⟩ : ∃ U, 7 - T % 8 = U := ⟨_, rfl⟩
  have hd1 : (T : Int) / 8 = (K : Int) := by omega
  have hd2 : (T : Int).tdiv 8 = (K : Int) := by rw [Int.tdiv_eq_ediv_of_nonneg (by omega)]; exact hd1
  have hd3 : IntKind.i64.wrap (K : Int) = (K : Int) := by simp [IntKind.wrap, IntKind.bits, IntKind.signed]; omega
  have hd4 : IntKind.i64.wrap ((T : Int) / 8) = (K : Int) := by rw [hd1]; exact hd3
  obtain ⟨J, hJ⟩ : ∃ J, T % 8 = J := ⟨_, rfl⟩
  have hrm : (T : Int) % 8 = (J : Int) := by omega
  have hrm1 : (T : Int).tmod 8 = (J : Int) := by rw [Int.tmod_eq_emod_of_nonneg (by omega)]; exact hrm
  have hrm2 : IntKind.i64.wrap (J : Int) = (J : Int) := by simp [IntKind.wrap, IntKind.bits, IntKind.signed]; omega
  have hrm3 : IntKind.i64.wrap ((T : Int) % 8) = (J : Int) := by rw [hrm]; exact hrm2
  have hsb : (7 : Int) - (J : Int) = (U : Int) := by omega
  have hsb1 : IntKind.i64.wrap (U : Int) = (U : Int) := by simp [IntKind.wrap, IntKind.bits, IntKind.signed]; omega
  have hsb2 : IntKind.i64.wrap ((7 : Int) - (J : Int)) = (U : Int) := by rw [hsb]; exact hsb1
  have hsb3 : IntKind.u64.wrap (U : Int) = (U : Int) := by simp [IntKind.wrap, IntKind.bits, IntKind.signed]; omega
  have hsh : ∀ y : Nat, y < 256 → Op.shift .shr .u8 (y : Int) .u64 (U : Int) = (pure (.int .u8 ((y / 2 ^ U : Nat) : Int)) : Sem Value) := fun y hy => by
    rw [shift_shr .u8 .u64 (y : Int) (U : Int) (by omega) (by simp [IntKind.bits]; omega), Int.toNat_natCast]
    congr 2
  have hK0 : (0 : Int) ≤ (K : Int) := by omega
  have hK1 : (K : Int) < (c.length : Int) := by omega
  have HR : Hid (∀ W : World, W.heap = w.heap → RdQ (W.setCell ⟨p, 1, none⟩ (.int .i64 ((T : Int) + 1))) p (.slice (some ⟨b, off, none⟩) c.length cap) (T + 1)) := hide fun W hW => by
    unfold RdQ
    rw [Go.heap_setCell_same _ _ 1 _ 116 _ (show W.heap[p]? = _ by rw [hW]; exact hr)]
    rfl
  have HC : Hid (∀ W : World, Below w.heap.size w W → W.heap = w.heap → Chg (fun b => b = p) w (W.setCell ⟨p, 1, none⟩ (.int .i64 ((T : Int) + 1)))) := hide fun W hB hW => ⟨hB.os, hB.tape, hB.output, by simp [World.setCell, hW], fun b _ hb => (Go.heap_setCell_other _ _ _ _ hb).trans (by rw [hW])⟩
  have hsh2 := hsh _ hx
  have hbt : (bits .and .u8 ((c.getD (T / 8) 0 / 2 ^ U : Nat) : Int) 1 == 1) = (c.getD (T / 8) 0).testBit U := by
    have := bit_8 (k := U) hx
    simpa using this
  unfold dgV
  rw [hK] at k1 hx hbt hsh2 ⊢
  rw [hU]
  clear hK hU hJ hsh
  generalize c.getD K 0 = x at *
  generalize x / 2 ^ U = z at *
  clear hcell h4 hr h3 hc'
  go_enter Tryd.func74, Tryd.ntmps74
  go_wp2_with fail
  refine wp_region_still_tail 20 (by kernel_rfl) (by kernel_rfl) ?_
  simp only [List.take_succ_cons, List.take_zero, List.drop_succ_cons, List.drop_zero]
  repeat still_step
  refine wpStill_nil ?_
  go_wp2_with fail
  rw [bit_8 hx]
  go_ret
  exact ⟨rfl, HR.out w.drew rfl, HC.out w.drew ((Below.refl _ _).drew) rfl⟩
end Go.Proofs.YtglajdmkbckjjabDoor
namespace Go.Proofs.YtglajdmkbckjjabDoor
open Go.RowKit
set_option linter.unusedVariables false
set_option linter.unusedSimpArgs false
set_option maxRecDepth 20000

/-- the document's reader between two digits -/
structure QS (w w' : World) (p : Nat) (cv : Value) (c : List Nat) (T : Nat) : Prop where
  rd : RdQ w' p cv T
  sl : CSl w' cv c
  chg : Chg (fun b => b = p) w w'
theorem QS.step {w w' w'' : World} {p T : Nat} {cv : Value} {c : List Nat} (h : QS w w' p cv c T) (h1 : RdQ w'' p cv (T + 1)) (h2 : Chg (fun b => b = p) w' w'') : QS w w'' p cv c (T + 1) :=
  ⟨h1, h.sl.stepQ h.rd (by obtain ⟨a, cap, rfl, _⟩ := h.sl; exact ⟨_, _, _, rfl⟩) h2, h.chg.trans h2⟩
theorem QS.digit {w w' : World} {p T : Nat} {cv : Value} {c : List Nat} (h : QS w w' p cv c T) (hT : T < 4611686018427387904) {d : Bool} {l : List Bool} (hd : (digs c).drop T = d :: l) :
    Calls Tryd.prog 74 #[.pointer (some ⟨p, 0, none⟩)] w' fun e w'' => e = .returned (.bool d) ∧ QS w w'' p cv c (T + 1) := by
  have hin : T / 8 < c.length := Nat.lt_of_not_le fun hle => by
    rw [digs_drop_end (by omega)] at hd
    cases hd
  have e : d = dgV c T := by
    rw [digs_drop_get hin] at hd
    injection hd with h1
    exact h1.symm
  rw [e]
  exact (rdigit_any h.rd h.sl hT hin).mono fun e w'' ⟨h1, h2, h3⟩ => ⟨h1, h.step h2 h3⟩
theorem QS.end {w w' : World} {p T : Nat} {cv : Value} {c : List Nat} (h : QS w w' p cv c T) (hT : T < 4611686018427387904) (hc : c.length ≤ 150000000000000) :
    Calls Tryd.prog 86 #[.pointer (some ⟨p, 0, none⟩)] w' fun e w'' => e = .returned (.bool (decide (8 * c.length ≤ T))) ∧ QS w w'' p cv c T := by
  have c0 : w'.cell? ⟨p, 0, none⟩ = some cv := cell_of_row _ _ _ _ _ _ h.rd
  have c1 : w'.cell? ⟨p, 1, none⟩ = some (.int .i64 (T : Int)) := cell_of_row _ _ _ _ _ _ h.rd
  have H := hide fun (W : World) (hB : Below w'.heap.size w' W) (hW : W.heap = w'.heap) => (⟨show W.heap[p]? = _ by rw [hW]; exact h.rd, h.sl.stepQ h.rd (by obtain ⟨a, cap, rfl, _⟩ := h.sl; exact ⟨_, _, _, rfl⟩) ⟨hB.os, hB.tape, hB.output, by rw [hW]; exact Nat.le_refl _, fun b _ _ => by rw [hW]⟩, h.chg.trans ⟨hB.os, hB.tape, hB.output, by rw [hW]; exact Nat.le_refl _, fun b _ _ => by rw [hW]⟩⟩ : QS w W p cv c T)
  obtain ⟨a, cap, rfl, -⟩ := h.sl
  clear h
  generalize hcl : c.length = L at *
  clear hcl
  have hmul : IntKind.i64.wrap (8 * (L : Int)) = 8 * (L : Int) := by simp [IntKind.wrap, IntKind.bits, IntKind.signed]; omega
  go_enter Tryd.func86, Tryd.ntmps86
  go_wp2_with fail
  refine wp_region_still_tail 10 (by kernel_rfl) (by kernel_rfl) ?_
  simp only [List.take_succ_cons, List.take_zero, List.drop_succ_cons, List.drop_zero]
  repeat still_step
  refine wpStill_nil ?_
  go_wp2_with fail
  go_ret
  refine ⟨?_, H.out w'.drew ((Below.refl _ _).drew) rfl⟩
  have : decide (8 * (L : Int) ≤ (T : Int)) = decide (8 * L ≤ T) := by rw [decide_eq_decide]; omega
  rw [this]
  rfl
theorem drop_nil_iff {c : List Nat} {T : Nat} : (digs c).drop T = [] ↔ 8 * c.length ≤ T := by
  rw [List.drop_eq_nil_iff, digs_len]
/-- what the document's number says -/
def NuP (w0 : World) (p : Nat) (cv : Value) (c : List Nat) (T : Nat) (R : Nat × Option Nat) (e : Ending) (w' : World) : Prop :=
  e = .returned (.tuple #[.int .i64 ((R.2.getD 0 : Nat) : Int), .bool (R.2.isNone && decide (T + R.1 ≤ 8 * c.length))]) ∧ ∃ T', QS w0 w' p cv c T' ∧ (T + R.1 ≤ 8 * c.length → T' = T + R.1)
theorem lft_go {R : Nat × Option Nat} {n most j x y : Nat} {d : Bool} {l : List Bool} (h : Lft R n (loR most (j + 1) x (d :: l))) (hb : ¬ most < x + d.toNat * 2 ^ j) (hx : x + d.toNat * 2 ^ j = y) : Lft R (n + 1) (loR most j y l) := by
  unfold Lft at h ⊢
  rw [lo_go _ hb, hx] at h
  rw [h]
  show (n + (1 + _), _) = (n + 1 + _, _)
  rw [Nat.add_assoc]
set_option maxHeartbeats 2000000 in
theorem rnumber_any {w0 w : World} {p T : Nat} {cv : Value} {c : List Nat} (h : QS w0 w p cv c T) (hc : c.length ≤ 150000000000000) (hT : T ≤ 8 * c.length) (most : Nat) (h1 : 1 ≤ most) (h2 : most ≤ 65536) :
    Calls Tryd.prog 75 #[.pointer (some ⟨p, 0, none⟩), .int .i64 (most : Int)] w (NuP w0 p cv c T (stR most ((digs c).drop T))) := by
  obtain ⟨R, hR⟩ : ∃ R, stR most ((digs c).drop T) = R := ⟨_, rfl⟩
  rw [hR]
  have HR := hide hR
  have HS := hide h
  have HC := hide hc
  have HTL := hide hT
  have HT : Hid (T < 2000000000000000) := hide (by omega)
  clear hR h hc hT
  go_enter Tryd.func75, Tryd.ntmps75
  go_wp2_with fail
  go_loopw [6] (fun z wr => ∃ k : Nat, z = .int .i64 (k : Int) ∧ Hid (2 ^ k ≤ most) ∧ Hid (QS w0 wr p cv c (T + k)) ∧ Hid (Lft R k (stK most k ((digs c).drop (T + k))))) (fun z _ => 20 - (intOf z).toNat)
  case atStart => exact ⟨0, rfl, hide h1, hide HS.out, hide (by unfold Lft; rw [stK_zero, Nat.add_zero, ← HR.out]; simp)⟩
  case round =>
    obtain ⟨k, rfl, HTK, HQS, HL⟩ := hrel
    clear HS HR
    have hk : k ≤ 16 := pow_small HTK.out h2
    have hT := HT.out
    have HE := hide (HQS.out.end (by omega) HC.out)
    rcases digs_cases c (T + k) with hnil | ⟨d, hcons⟩
    · have hle := drop_nil_iff.1 hnil
      rw [decide_eq_true hle] at HE
      rw [hnil] at HL
      have HL2 : Hid (R = (k + 1, none)) := hide (by have := HL.out; unfold Lft at this; rw [stK_nil (by omega)] at this; exact this)
      clear HL HQS hnil
      go_wp2_with (go_at_call 86; refine HE.out.mono ?_; clear HE; rintro e w' ⟨rfl, h8⟩; have H8 := hide h8; clear h8)
      refine bodyPost_ret (results_tmp2 rfl _ _ _) rfl ?_
      unfold NuP
      rw [HL2.out]
      refine ⟨?_, _, H8.out, fun hh => by simp only at hh; omega⟩
      rw [decide_eq_false (by simp only; omega)]
      rfl
    · have hlt : ¬ 8 * c.length ≤ T + k := fun hh => by rw [drop_nil_iff.2 hh] at hcons; cases hcons
      rw [decide_eq_false hlt] at HE
      rw [hcons] at HL
      have HD0 := hide fun W (h : QS w0 W p cv c (T + k)) => h.digit (by omega) hcons
      clear HQS
      cases d with
      | true =>
        have HL2 : Hid (Lft R (k + 1) (loR most k (1 * 2 ^ k) ((digs c).drop (T + k + 1)))) := hide (by have := HL.out; unfold Lft at this ⊢; rw [this, stK_one (by omega), Nat.one_mul]; exact Prod.ext (by show k + (1 + _) = k + 1 + _; omega) rfl)
        clear hcons HL
        go_wp2_with (first
          | (go_at_call 86; refine HE.out.mono ?_; clear HE; rintro e w' ⟨rfl, h8⟩; have HD := hide (HD0.out _ h8); clear h8 HD0)
          | (go_at_call 74; refine HD.out.mono ?_; clear HD; rintro e w' ⟨rfl, h8⟩; have H8 := hide h8; clear h8))
        have hq1 : Hid (1 * 2 ^ k ≤ most) := hide (by rw [Nat.one_mul]; exact HTK.out)
        go_loopw [8, 9] (fun nv y wr => ∃ j q n : Nat, y = .int .i64 ((j : Int) - 1) ∧ nv = .int .i64 (q : Int) ∧ 1 ≤ q ∧ Hid (q * 2 ^ j ≤ most) ∧ j ≤ 16 ∧ n + j ≤ 33 ∧ Hid (QS w0 wr p cv c (T + n)) ∧ Hid (Lft R n (loR most j (q * 2 ^ j) ((digs c).drop (T + n))))) (fun _ y _ => (intOf y + 1).toNat)
        case atStart => exact ⟨k, 1, k + 1, rfl, rfl, Nat.le_refl _, hq1, hk, by omega, hide (by rw [← Nat.add_assoc]; exact H8.out), hide (by rw [← Nat.add_assoc]; exact HL2.out)⟩
        case round =>
          clear HL2 H8 hq1 HTK hk hlt
          obtain ⟨j, q, n, rfl, rfl, hq0, HQL, hj, hn, HQS, HL⟩ := hrel
          have hqm : q ≤ 65536 := by
            have h5 := HQL.out
            have h6 : q * 1 ≤ q * 2 ^ j := Nat.mul_le_mul_left _ (Nat.two_pow_pos _)
            omega
          cases j with
          | zero =>
            have hge : ¬ (0 : Int) ≤ ((0 : Nat) : Int) - 1 := by omega
            have HL2 : Hid (R = (n, some (q * 2 ^ 0))) := hide HL.out
            clear HL
            go_wp2_with fail
            refine bodyPost_ret (results_tmp2 rfl _ _ _) rfl ?_
            unfold NuP
            rw [HL2.out]
            exact ⟨by simp, _, HQS.out, fun _ => rfl⟩
          | succ j =>
            have ej : (((j + 1 : Nat) : Int) - 1) = (j : Int) := by omega
            rw [ej]
            have HE := hide (HQS.out.end (by omega) HC.out)
            rcases digs_cases c (T + n) with hnil | ⟨d, hcons⟩
            · have hle := drop_nil_iff.1 hnil
              rw [decide_eq_true hle] at HE
              rw [hnil] at HL
              have HL2 : Hid (R = (n + 1, none)) := hide HL.out
              clear HL HQS hnil
              go_wp2_with (go_at_call 86; refine HE.out.mono ?_; clear HE; rintro e w' ⟨rfl, h8⟩; have H8 := hide h8; clear h8)
              refine bodyPost_ret (results_tmp2 rfl _ _ _) rfl ?_
              unfold NuP
              rw [HL2.out]
              refine ⟨?_, _, H8.out, fun hh => by simp only at hh; omega⟩
              rw [decide_eq_false (by simp only; omega)]
              rfl
            · have hlt : ¬ 8 * c.length ≤ T + n := fun hh => by rw [drop_nil_iff.2 hh] at hcons; cases hcons
              rw [decide_eq_false hlt] at HE
              rw [hcons] at HL
              have HD0 := hide fun W (h : QS w0 W p cv c (T + n)) => h.digit (by omega) hcons
              have hj16 : 2 ^ j ≤ 65536 := by
                have e : 2 ^ 16 = 65536 := by decide
                rw [← e]
                exact Nat.pow_le_pow_right (by decide) (by omega)
              obtain ⟨q2, hq2⟩ : ∃ q2, q2 = 2 * q + d.toNat := ⟨_, rfl⟩
              have hq20 : 1 ≤ q2 := by omega
              have hwA : wrap64 (2 * (q : Int)) = 2 * (q : Int) := by unfold wrap64; omega
              have hwB : wrap64 (2 * (q : Int) + (d.toNat : Nat)) = (q2 : Int) := by rw [hq2]; unfold wrap64; cases d <;> simp <;> omega
              have hjw : (0 : Int) ≤ (j : Int) ∧ (j : Int) < 64 := ⟨by omega, by omega⟩
              have hx : q * 2 ^ (j + 1) + d.toNat * 2 ^ j = q2 * 2 ^ j := by rw [hq2, Nat.add_mul, Nat.pow_succ]; congr 1; rw [Nat.mul_comm 2 q, Nat.mul_assoc, Nat.mul_comm 2]
              obtain ⟨X, hX⟩ : ∃ X, q2 * 2 ^ j = X := ⟨_, rfl⟩
              have hXb : X ≤ 131073 * 65536 := by
                rw [← hX]
                exact Nat.mul_le_mul (by rw [hq2]; cases d <;> simp <;> omega) hj16
              have hwx : wrap64 ((q2 : Int) * 2 ^ j) = (X : Int) := by
                have e : ((q2 : Int) * 2 ^ j) = ((q2 * 2 ^ j : Nat) : Int) := by simp
                rw [e, hX]
                unfold wrap64
                omega
              have hwx2 : (q2 : Int) * 2 ^ j = (X : Int) := by
                have e : ((q2 : Int) * 2 ^ j) = ((q2 * 2 ^ j : Nat) : Int) := by simp
                rw [e, hX]
              have HGO : Hid (¬ most < X → Lft R (n + 1) (loR most j (q2 * 2 ^ j) ((digs c).drop (T + (n + 1))))) := hide (by
                intro hnb
                have h3 := HL.out
                rw [show T + n + 1 = T + (n + 1) from rfl] at h3
                generalize (digs c).drop (T + (n + 1)) = l at h3 ⊢
                exact lft_go h3 (by rw [hx, hX]; exact hnb) hx)
              have HNO : Hid (most < X → R = (n + 1, none)) := hide fun hnb => by
                have := HL.out
                unfold Lft at this
                rw [this, lo_bad _ (by rw [hx, hX]; exact hnb)]
              have HQX : Hid (¬ most < X → q2 * 2 ^ j ≤ most) := hide fun hnb => by rw [hX]; exact Nat.le_of_not_lt hnb
              clear hcons HL hx hX HQL
              have HQ0 : Hid (1 ≤ q2) := hide hq20
              have HN := hide hn
              have HJ := hide hj
              have HLT0 : Hid (T + n + 1 ≤ 8 * c.length) := hide (Nat.lt_of_not_le hlt)
              clear hwx2 hXb hj16 hq20 hqm hlt HQS hn hj
              have HLE : Hid (T + n + 1 ≤ 8 * c.length) := hide HLT0.out
              by_cases hb : most < X
              · have HL2 := hide (HNO.out hb)
                have hbi : (most : Int) < (X : Int) := by exact_mod_cast hb
                clear HNO HGO HQX hb
                cases d with
                | true =>
                  have hwC : wrap64 (2 * (q : Int) + 1) = (q2 : Int) := hwB
                  clear hq2 hwB
                  go_wp2_with (first
                    | (go_at_call 86; refine HE.out.mono ?_; clear HE; rintro e w' ⟨rfl, h8⟩; have HD := hide (HD0.out _ h8); clear h8 HD0)
                    | (go_at_call 74; refine HD.out.mono ?_; clear HD; rintro e w' ⟨rfl, h8⟩; have H8 := hide h8; clear h8))
                  refine bodyPost_ret (results_tmp2 rfl _ _ _) rfl ?_
                  unfold NuP
                  rw [HL2.out]
                  refine ⟨?_, _, H8.out, fun _ => by rw [Nat.add_assoc]⟩
                  rw [decide_eq_true (show T + (n + 1, (none : Option Nat)).1 ≤ 8 * c.length by show T + (n + 1) ≤ _; have := HLE.out; omega)]
                  rfl
                | false =>
                  have hwC : wrap64 (2 * (q : Int)) = (q2 : Int) := by have := hwB; simpa using this
                  clear hq2 hwB hwA
                  go_wp2_with (first
                    | (go_at_call 86; refine HE.out.mono ?_; clear HE; rintro e w' ⟨rfl, h8⟩; have HD := hide (HD0.out _ h8); clear h8 HD0)
                    | (go_at_call 74; refine HD.out.mono ?_; clear HD; rintro e w' ⟨rfl, h8⟩; have H8 := hide h8; clear h8))
                  refine bodyPost_ret (results_tmp2 rfl _ _ _) rfl ?_
                  unfold NuP
                  rw [HL2.out]
                  refine ⟨?_, _, H8.out, fun _ => by rw [Nat.add_assoc]⟩
                  rw [decide_eq_true (show T + (n + 1, (none : Option Nat)).1 ≤ 8 * c.length by show T + (n + 1) ≤ _; have := HLE.out; omega)]
                  rfl
              · have HL2 := hide (HGO.out hb)
                have HQ2 := hide (HQX.out hb)
                have hbi : ¬ (most : Int) < (X : Int) := by exact_mod_cast hb
                clear HNO HGO HQX hb HLE
                cases d with
                | true =>
                  have hwC : wrap64 (2 * (q : Int) + 1) = (q2 : Int) := hwB
                  clear hq2 hwB
                  go_wp2_with (first
                    | (go_at_call 86; refine HE.out.mono ?_; clear HE; rintro e w' ⟨rfl, h8⟩; have HD := hide (HD0.out _ h8); clear h8 HD0)
                    | (go_at_call 74; refine HD.out.mono ?_; clear HD; rintro e w' ⟨rfl, h8⟩; have H8 := hide h8; clear h8))
                  go_roundw
                  case rel => exact ⟨j, q2, n + 1, rfl, by first | rfl | rw [hwC] | rw [hwA, hwC], HQ0.out, hide HQ2.out, by have := HJ.out; omega, by have := HN.out; omega, hide (by rw [← Nat.add_assoc]; exact H8.out), HL2⟩
                  case measure => simp [intOf] <;> omega
                | false =>
                  have hwC : wrap64 (2 * (q : Int)) = (q2 : Int) := by have := hwB; simpa using this
                  clear hq2 hwB hwA
                  go_wp2_with (first
                    | (go_at_call 86; refine HE.out.mono ?_; clear HE; rintro e w' ⟨rfl, h8⟩; have HD := hide (HD0.out _ h8); clear h8 HD0)
                    | (go_at_call 74; refine HD.out.mono ?_; clear HD; rintro e w' ⟨rfl, h8⟩; have H8 := hide h8; clear h8))
                  go_roundw
                  case rel => exact ⟨j, q2, n + 1, rfl, by first | rfl | rw [hwC] | rw [hwA, hwC], HQ0.out, hide HQ2.out, by have := HJ.out; omega, by have := HN.out; omega, hide (by rw [← Nat.add_assoc]; exact H8.out), HL2⟩
                  case measure => simp [intOf] <;> omega
      | false =>
        have HLE : Hid (T + k + 1 ≤ 8 * c.length) := hide (Nat.lt_of_not_le hlt)
        obtain ⟨Y, hY⟩ : ∃ Y, 2 ^ (k + 1) = Y := ⟨_, rfl⟩
        have hYb : Y ≤ 131072 := by
          have e : 2 ^ 17 = 131072 := by decide
          rw [← hY, ← e]
          exact Nat.pow_le_pow_right (by decide) (by omega)
        have hYi : ((2 : Int) ^ (k + 1)) = (Y : Int) := by rw [← hY]; simp
        have hYw : wrap64 ((2 : Int) ^ (k + 1)) = (Y : Int) := by
          rw [hYi]
          clear hYi hY
          unfold wrap64
          omega
        have hYw2 : wrap64 (Y : Int) = (Y : Int) := by rw [← hYi]; exact hYw.trans hYi.symm
        have hkw : wrap64 ((k : Int) + 1) = (k : Int) + 1 := by clear hYi hYw; unfold wrap64; omega
        have htn : ((k : Int) + 1).toNat = k + 1 := by clear hYi hYw; omega
        have hk0 : (0 : Int) ≤ (k : Int) + 1 := by clear hYi hYw; omega
        have HK : Hid (k ≤ 16) := hide hk
        by_cases hb : most < 2 ^ (k + 1)
        · have HL2 : Hid (R = (k + 1, none)) := hide (by have := HL.out; unfold Lft at this; rw [stK_bad (by omega) _ hb] at this; exact this)
          have hbi : (most : Int) < (Y : Int) := by rw [hY] at hb; exact_mod_cast hb
          clear hcons HL hb hY hYb hlt
          go_wp2_with (first
            | (go_at_call 86; refine HE.out.mono ?_; clear HE; rintro e w' ⟨rfl, h8⟩; have HD := hide (HD0.out _ h8); clear h8 HD0)
            | (go_at_call 74; refine HD.out.mono ?_; clear HD; rintro e w' ⟨rfl, h8⟩; have H8 := hide h8; clear h8))
          refine bodyPost_ret (results_tmp2 rfl _ _ _) rfl ?_
          unfold NuP
          rw [HL2.out]
          refine ⟨?_, _, H8.out, fun _ => by rw [Nat.add_assoc]⟩
          rw [decide_eq_true (show T + (k + 1, (none : Option Nat)).1 ≤ 8 * c.length by show T + (k + 1) ≤ _; have := HLE.out; omega)]
          rfl
        · have HL2 : Hid (Lft R (k + 1) (stK most (k + 1) ((digs c).drop (T + (k + 1))))) := hide (by have := HL.out; unfold Lft at this ⊢; rw [this, stK_go (by omega) _ hb]; exact Prod.ext (by show k + (1 + _) = k + 1 + _; rw [← Nat.add_assoc, ← Nat.add_assoc]) rfl)
          have HPW : Hid (2 ^ (k + 1) ≤ most) := hide (Nat.le_of_not_lt hb)
          have hbi : ¬ (most : Int) < (Y : Int) := by rw [hY] at hb; exact_mod_cast hb
          clear hcons HL hb hY hYb hlt HLE
          go_wp2_with (first
            | (go_at_call 86; refine HE.out.mono ?_; clear HE; rintro e w' ⟨rfl, h8⟩; have HD := hide (HD0.out _ h8); clear h8 HD0)
            | (go_at_call 74; refine HD.out.mono ?_; clear HD; rintro e w' ⟨rfl, h8⟩; have H8 := hide h8; clear h8))
          go_roundw
          case rel => exact ⟨k + 1, by first | rfl | go_num, HPW, hide (by rw [← Nat.add_assoc]; exact H8.out), HL2⟩
          case measure => clear hYi hYw; simp [intOf] <;> omega
end Go.Proofs.YtglajdmkbckjjabDoor
namespace Go.Proofs.YtglajdmkbckjjabDoor
open Go.RowKit Go.Shelf
set_option linter.unusedVariables false
set_option linter.unusedSimpArgs false
set_option maxRecDepth 20000

theorem good_read2 (n : Nat) : Good (readR n) := good_bnd good_dg fun d _ => good_rd n (n + 1) 0 d 0
/-- the document's bitmap that is read, and its reader -/
structure QB (w wr : World) (p : Nat) (cv : Value) (c : List Nat) (T : Nat) (R : RL) (n B : Nat) : Prop where
  rd : RdQ wr p cv T
  sl : CSl w cv c
  bm : RRep wr R n B
  bel : Below w.heap.size w wr
  pN : w.heap.size ≤ p
  lN : ∀ b, R.U b → w.heap.size ≤ b ∧ b ≠ p
theorem QB.qs {w wr : World} {p T n B : Nat} {cv : Value} {c : List Nat} {R : RL} (h : QB w wr p cv c T R n B) : QS wr wr p cv c T := ⟨h.rd, h.sl.blk h.bel, Chg.refl _ _⟩
theorem QB.took {w wr w' : World} {p T T' n B : Nat} {cv : Value} {c : List Nat} {R : RL} (h : QB w wr p cv c T R n B) (hs : QS wr w' p cv c T') : QB w w' p cv c T' R n B :=
  ⟨hs.rd, h.sl, h.bm.chg hs.chg fun b hb => (h.lN b hb).2, h.bel.trans (hs.chg.below h.bel.size fun b e => by rw [e]; exact h.pN), h.pN, h.lN⟩
theorem QB.set {w wr w' : World} {p T n B B' : Nat} {cv : Value} {c : List Nat} {R : RL} (h : QB w wr p cv c T R n B) (hb : RRep w' R n B') (hc : Chg R.U wr w') : QB w w' p cv c T R n B' := by
  refine ⟨?_, h.sl, hb, h.bel.trans (hc.below h.bel.size fun b hU => (h.lN b hU).1), h.pN, h.lN⟩
  exact (hc.keep p (Array.getElem?_eq_some_iff.1 h.rd).1 fun hU => (h.lN p hU).2 rfl).trans h.rd
theorem QB.c1 {w wr : World} {p T n B : Nat} {cv : Value} {c : List Nat} {R : RL} (h : QB w wr p cv c T R n B) : wr.cell? ⟨p, 1, none⟩ = some (.int .i64 (T : Int)) := cell_of_row _ _ _ _ _ _ h.rd
theorem put_as {s : Bool} {B pl x : Nat} (hB : B < 2 ^ pl) : putR s B pl (pl + x) = (if s then setR B pl (pl + x) else B) ∧ (if s then setR B pl (pl + x) else B) < 2 ^ (pl + x) := by
  have h1 : putR s B pl (pl + x) = (if s then setR B pl (pl + x) else B) := by
    cases s
    · refine Nat.eq_of_testBit_eq fun i => ?_
      rw [testBit_putR]
      split
      · rename_i h
        rw [if_neg (by simp), Nat.testBit_lt_two_pow (Nat.lt_of_lt_of_le hB (Nat.pow_le_pow_right (by decide) h.1))]
      · rw [if_neg (by simp)]
    · rfl
  refine ⟨h1, ?_⟩
  rw [← h1]
  exact putR_lt (Nat.lt_of_lt_of_le hB (Nat.pow_le_pow_right (by decide) (by omega))) (Nat.le_refl _)
/-- what the document's Decode hands back -/
def DcR (w : World) (n : Nat) (q : Option Nat × Nat) (e : Ending) (w' : World) : Prop := match q.1 with
  | some B => ∃ v', e = .returned (.tuple #[v', .int .i64 0, .int .i64 0]) ∧ WSl w' v' (wds B (nW n)) ∧ Below w.heap.size w w' ∧ (∀ b, blockOf v' = some b → w.heap.size ≤ b)
  | none => e = .returned (.tuple #[.slice none 0 0, .int .i64 (q.2 : Nat), .int .i64 31]) ∧ Below w.heap.size w w'
theorem rdecode_no {w : World} (n : Int) (cv : Value) (hcv : ∃ a m k, cv = .slice a m k) (h : ¬ (1 ≤ n ∧ n ≤ 65536)) : Calls Tryd.prog 51 #[.int .i64 n, cv] w fun e w' => e = .returned (.tuple #[.slice none 0 0, .int .i64 0, .int .i64 1]) ∧ w' = w := by
  have HN := hide (rNew_no w n h)
  obtain ⟨a, m, k, rfl⟩ := hcv
  go_enter Tryd.func51, Tryd.ntmps51
  go_wp2_with (go_at_call 36; refine HN.out.mono ?_; rintro e w' ⟨rfl, hw⟩; have hw2 := hw.symm; clear hw; subst hw2)
  refine bodyPost_ret (results_tmp3 rfl _ _ _) rfl ?_
  exact ⟨rfl, rfl⟩
theorem pl_w {T : Nat} (h1 : 1 ≤ T) (h : T < 4611686018427387904) : IntKind.i64.wrap ((IntKind.i64.wrap ((T : Int) - 1)).tdiv 8) = (((T - 1) / 8 : Nat) : Int) := by
  have e : IntKind.i64.wrap ((T : Int) - 1) = ((T - 1 : Nat) : Int) := by rw [IntKind.wrap_i64]; omega
  rw [e, Int.tdiv_eq_ediv_of_nonneg (by omega), IntKind.wrap_i64]
  omega
theorem pl_w0 {T : Nat} (h : T < 4611686018427387904) : IntKind.i64.wrap ((T : Int).tdiv 8) = ((T / 8 : Nat) : Int) := by
  rw [Int.tdiv_eq_ediv_of_nonneg (by omega), IntKind.wrap_i64]
  omega
theorem pl_w1 {T : Nat} (h : T < 4611686018427387904) : IntKind.i64.wrap ((IntKind.i64.wrap (T : Int)).tdiv 8) = ((T / 8 : Nat) : Int) := by
  have e : IntKind.i64.wrap (T : Int) = (T : Int) := by rw [IntKind.wrap_i64]; omega
  rw [e]
  exact pl_w0 h
theorem pl_w2 {T : Nat} (h : T < 4611686018427387904) : IntKind.i64.wrap ((T : Int) / 8) = ((T / 8 : Nat) : Int) := by
  rw [IntKind.wrap_i64]
  omega
set_option maxHeartbeats 2000000 in
theorem rdecode_any {w : World} {n : Nat} {cv : Value} {c : List Nat} (h1 : 1 ≤ n) (h2 : n ≤ 65536) (hc : CSl w cv c) (hl : c.length ≤ 150000000000000) :
    Calls Tryd.prog 51 #[.int .i64 (n : Int), cv] w (DcR w n (dOut n c)) := by
  have HN := hide (rNew_any w n h1 h2)
  have HST : Hid (∀ w1 R, RNewAt w w1 R n 0 → QB w (w1.alloc (.cells #[cv, .int .i64 0] 116)) w1.heap.size cv c 0 R n 0) := hide fun w1 R hN => by
    obtain ⟨hb, hbl, hu⟩ := hN
    refine ⟨Go.heap_alloc_new w1 _, hc, hb.below ((Below.refl _ _).alloc (Nat.le_refl _) _), hbl.alloc hbl.size _, hbl.size, fun b hU => ⟨hu b hU, fun e => ?_⟩⟩
    have := hb.uLt b hU
    omega
  cases hcc : c with
  | nil =>
    subst hcc
    have HQ : Hid (dOut n [] = (none, 0)) := hide (dOut_no (n := n) (c := []) (k := 1) rfl)
    obtain ⟨a, cap, rfl, -⟩ := hc
    go_enter Tryd.func51, Tryd.ntmps51
    go_wp2_with (go_at_call 36; refine HN.out.mono ?_; clear HN; rintro e w1 ⟨R, rfl, hN⟩; have HS := hide (HST.out w1 R hN); clear hN HST; unfold PR)
    refine bodyPost_ret (results_tmp3 rfl _ _ _) rfl ?_
    rw [HQ.out]
    exact ⟨rfl, HS.out.bel⟩
  | cons c0 cr =>
    rw [← hcc]
    have hpos : 0 < c.length := by rw [hcc]; simp
    clear hcc
    have hst := stt_start (n := n) c
    obtain ⟨d0, hd0⟩ : ∃ d, digs c = d :: (digs c).drop 1 := by
      rcases digs_cases c 0 with h | ⟨d, h⟩
      · rw [List.drop_zero] at h
        have := digs_len c
        rw [h] at this
        simp at this
        omega
      · rw [List.drop_zero] at h
        exact ⟨d, h⟩
    have hds : (dgR (digs c)).2 = some d0 := by rw [hd0]; rfl
    rw [hds] at hst
    simp only [Option.isSome, Option.getD] at hst
    obtain ⟨R, hR⟩ : ∃ R, readR n (digs c) = R := ⟨_, rfl⟩
    have HNO : Hid (∀ k, R = (k, none) → dOut n c = (none, (k - 1) / 8)) := hide fun k h => dOut_no (hR.trans h)
    have HSO : Hid (∀ k B, R = (k, some B) → k ≤ 8 * c.length → dOut n c = if endB c k = true then (some B, 0) else (none, (endT c k - 1) / 8)) := hide fun k B h hk => dOut_some (hR.trans h) hk
    rw [hR] at hst
    have HSTT := hide hst
    have HDG := hide fun (W : World) (p : Nat) (RR : RL) (h : QB w W p cv c 0 RR n 0) => h.qs.digit (by decide) (show (digs c).drop 0 = _ by rw [List.drop_zero]; exact hd0)
    have HLEN := hide hl
    have hci : ((c.length : Int) == 0) = false := beq_eq_false_iff_ne.2 (by omega)
    obtain ⟨Q, hQ⟩ : ∃ Q, dOut n c = Q := ⟨_, rfl⟩
    rw [hQ] at HNO HSO ⊢
    have HPOS := hide hpos
    obtain ⟨a, cap, rfl, -⟩ := hc
    clear hst hds hd0 hR hQ hl hpos
    go_enter Tryd.func51, Tryd.ntmps51
    go_wp2_with (first
      | (go_at_call 36; refine HN.out.mono ?_; clear HN; rintro e w1 ⟨RR, rfl, hN⟩; have HS := hide (HST.out w1 RR hN); clear hN HST; unfold PR; have HD := hide (HDG.out _ _ _ HS.out); clear HDG)
      | (go_at_call 74; refine HD.out.mono ?_; clear HD; rintro e w2 ⟨rfl, h8⟩; have H8 := hide (HS.out.took h8); clear h8 HS))
    go_loopw [10, 11] (fun z y wr => ∃ (s : Bool) (pl T B : Nat), z = .bool s ∧ y = .int .i64 (pl : Int) ∧ pl ≤ n ∧ Hid (T ≤ 8 * c.length ∧ 1 ≤ T) ∧ Hid (B < 2 ^ pl) ∧ Hid (QB w wr w1.heap.size (.slice a c.length cap) c T RR n B) ∧ Hid (Stt R n true s pl T B c)) (fun _ y _ => n - (intOf y).toNat)
    case atStart => exact ⟨d0, 0, 1, 0, rfl, rfl, by omega, hide ⟨by have := HPOS.out; omega, Nat.le_refl _⟩, hide (by decide), H8, HSTT⟩
    case round =>
      clear HSTT H8
      obtain ⟨s, pl, T, B, rfl, rfl, hpl, HT, HBL, HB, HS⟩ := hrel
      by_cases hlt : pl < n
      · have hli : (pl : Int) < (n : Int) := by omega
        have hsub : (n : Int) - (pl : Int) = ((n - pl : Nat) : Int) := by omega
        have HNU := hide (rnumber_any HB.out.qs HLEN.out HT.out.1 (n - pl) (by omega) (by omega))
        obtain ⟨hgo1, hgo2⟩ := stt_go HS.out hlt
        have HG1 := hide hgo1
        have HG2 := hide hgo2
        have hle : ∀ k x, stR (n - pl) ((digs c).drop T) = (k, some x) → 1 ≤ x ∧ pl + x ≤ n ∧ T + k ≤ 8 * c.length := fun k x hk => by
          have h1 := st_le (by omega) hk
          have h2 := (good_st (n - pl)).sle _ _ _ hk
          rw [List.length_drop, digs_len] at h2
          have := HT.out.1
          omega
        have hle2 : T + (stR (n - pl) ((digs c).drop T)).1 ≤ 8 * c.length + 1 := by
          have := HT.out.1
          have h2 := (good_st (n - pl)).le ((digs c).drop T)
          rw [List.length_drop, digs_len] at h2
          omega
        have HLE := hide hle
        have HLE2 := hide hle2
        clear hgo1 hgo2 hle hle2 HS
        generalize stR (n - pl) ((digs c).drop T) = q at *
        obtain ⟨k, o⟩ := q
        cases o with
        | none =>
          unfold NuP at HNU
          simp only [Option.getD, Option.isNone, Bool.true_and] at HNU
          have HQN : Hid (Q = (none, (T + k - 1) / 8)) := hide (HNO.out _ (by have := HG1.out k rfl; unfold Stt at this; rw [if_neg (by simp)] at this; exact this))
          clear HG1 HG2 HLE HNO HSO
          obtain ⟨V, hV⟩ : ∃ V, T + k = V := ⟨_, rfl⟩
          rw [hV] at HQN HNU
          have hV1 : 1 ≤ V := by have := HT.out.2; omega
          have HVL : Hid (V ≤ 8 * c.length + 1) := hide (by have := HLE2.out; simp only at this; omega)
          clear hV HLE2
          by_cases hbad : V ≤ 8 * c.length
          · rw [decide_eq_true hbad] at HNU
            have HBD := hide hbad
            have hVb : V < 4611686018427387904 := by have := HLEN.out; omega
            have hdv : ((V : Int) - 1) / 8 = (((V - 1) / 8 : Nat) : Int) := by omega
            clear hbad
            go_wp2_with (go_at_call 75; refine HNU.out.mono ?_; clear HNU; rintro e w3 ⟨rfl, T', h8, hT'⟩; obtain rfl := hT' HBD.out; have H8 := hide (HB.out.took h8); have k1 := H8.out.c1; clear h8 hT')
            go_region_held3 (fun w' => w'.cell? ⟨w1.heap.size, 1, none⟩ = some (.int .i64 (T' : Int))) (first | assumption | go_keep) (fail)
            go_wp2_with fail
            rw [pl_w hV1 hVb]
            refine bodyPost_ret (results_tmp3 rfl _ _ _) rfl ?_
            rw [HQN.out]
            exact ⟨rfl, H8.out.bel.drew⟩
          · rw [decide_eq_false hbad] at HNU
            have HLL : Hid ((V - 1) / 8 = c.length) := hide (by have := HVL.out; omega)
            clear hbad
            go_wp2_with (go_at_call 75; refine HNU.out.mono ?_; clear HNU; rintro e w3 ⟨rfl, T', h8, hT'⟩; have H8 := hide (HB.out.took h8); clear h8 hT')
            refine bodyPost_ret (results_tmp3 rfl _ _ _) rfl ?_
            rw [HQN.out, HLL.out]
            exact ⟨rfl, H8.out.bel⟩
        | some x =>
          unfold NuP at HNU
          simp only [Option.getD, Option.isNone, Bool.false_and] at HNU
          have HS2 := hide (HG2.out k x rfl)
          obtain ⟨x1, x2, x3⟩ := HLE.out k x rfl
          have HX3 := hide x3
          have hx0 : ((x : Int) == 0) = false := beq_eq_false_iff_ne.2 (by omega)
          have HPA := hide (put_as (s := s) (x := x) HBL.out)
          clear HG1 HG2 HLE HLE2 x3
          go_wp2_with (first
            | (go_at_call 75; refine HNU.out.mono ?_; clear HNU; rintro e w3 ⟨rfl, T', h8, hT'⟩; obtain rfl := hT' HX3.out; have H8 := hide (HB.out.took h8); have HPR := hide (rPutRange_any (a := pl) (c := x) H8.out.bm s x2); unfold PR at HPR; clear h8 hT')
            | (go_at_call 76; refine HPR.out.mono ?_; clear HPR; rintro e w9 ⟨rfl, hb9, hc9⟩; have H9 := hide (H8.out.set (hb9.bits HPA.out.1) hc9); clear hb9 hc9))
          go_roundw
          case rel => exact ⟨!s, pl + x, T + k, _, rfl, by go_num, x2, hide ⟨HX3.out, by have := HT.out.2; omega⟩, hide HPA.out.2, H9, HS2⟩
          case measure => simp [intOf]; omega
      · have hli : ¬ (pl : Int) < (n : Int) := by omega
        have HR2 := hide (stt_end HS.out hlt)
        have HQ2 := hide (HSO.out T B HR2.out HT.out.1)
        clear HS HNO HSO HR2
        go_wp2_with fail
        go_loopw [] (fun wr => ∃ T' : Nat, Hid (T' ≤ 8 * c.length ∧ 1 ≤ T') ∧ Hid (QB w wr w1.heap.size (.slice a c.length cap) c T' RR n B) ∧ Hid (endB c T = endB c T' ∧ endT c T = endT c T')) (fun wr => match wr.cell? ⟨w1.heap.size, 1, none⟩ with | some (.int _ x) => (8 * c.length - x.toNat) | _ => 0)
        case atStart => exact ⟨T, HT, HB, hide ⟨rfl, rfl⟩⟩
        case round =>
          clear HT HB hlt hli
          obtain ⟨T', HT, HB, HE⟩ := hrel
          have k1 := HB.out.c1
          have hTb : T' < 4611686018427387904 := by have := HT.out.1; have := HLEN.out; omega
          by_cases h8 : T' % 8 = 0
          · obtain ⟨e1, e2⟩ := end_zero (c := c) h8
            have h8i : (T' : Int) % 8 = 0 := by omega
            by_cases hin : T' / 8 < c.length
            · have HQN : Hid (Q = (none, T' / 8)) := hide (by
                rw [HQ2.out, HE.out.1, HE.out.2, e1, e2, if_neg (by simp [hin])]
                rfl)
              have hini : (T' : Int) / 8 < (c.length : Int) := by omega
              clear e1 e2 HE hin h8 HQ2
              go_wp2_with fail
              go_region_held3 (fun w' => w'.cell? ⟨w1.heap.size, 1, none⟩ = some (.int .i64 (T' : Int))) (first | assumption | go_keep) (fail)
              go_wp2_with fail
              rw [pl_w2 hTb]
              refine bodyPost_ret (results_tmp3 rfl _ _ _) rfl ?_
              rw [HQN.out]
              exact ⟨rfl, HB.out.bel.drew⟩
            · have HQN : Hid (Q = (some B, 0)) := hide (by
                rw [HQ2.out, HE.out.1, e1, if_pos (by simp [hin])])
              have hini : ¬ (T' : Int) / 8 < (c.length : Int) := by omega
              have HWD := hide (rWords_any HB.out.bm)
              unfold PR at HWD
              have HNW : Hid (nW n ≤ 1000000) := hide (by unfold nW; omega)
              clear e1 e2 HE hin h8 HQ2
              go_wp2_with (go_at_call 47; refine HWD.out.mono ?_; clear HWD; rintro e w4 ⟨v4, rfl, hw4⟩; have HS4 := hide (hw4.wsl HNW.out); have HB4 := hide (HB.out.bel.trans (hw4.2.2.mono HB.out.bel.size)); have HBO : Hid (∀ b, blockOf v4 = some b → w.heap.size ≤ b) := hide (by rw [hw4.1]; intro b e; simp [blockOf] at e; subst e; exact HB.out.bel.size); clear hw4)
              refine bodyPost_ret (results_tmp3 rfl _ _ _) rfl ?_
              rw [HQN.out]
              exact ⟨_, rfl, HS4.out, HB4.out, HBO.out⟩
          · have hin : T' / 8 < c.length := by have := HT.out.1; omega
            have h8i : ((T' : Int) % 8 == 0) = false := by simp; omega
            have hdrop := digs_drop_get hin
            have HT2 : Hid (T' + 1 ≤ 8 * c.length) := hide (by have := HT.out.1; omega)
            cases hd : (c.getD (T' / 8) 0).testBit (7 - T' % 8) with
            | true =>
              rw [hd] at hdrop
              obtain ⟨e1, e2⟩ := end_one h8 _ hdrop
              have HQN : Hid (Q = (none, T' / 8)) := hide (by
                rw [HQ2.out, HE.out.1, HE.out.2, e1, e2, if_neg (by simp)]
                rfl)
              have HD := hide (HB.out.qs.digit hTb hdrop)
              have hV1 : 1 ≤ T' + 1 := by omega
              have hVb : T' + 1 < 4611686018427387904 := by have := HT2.out; have := HLEN.out; omega
              clear e1 e2 HE hd hdrop h8 HQ2 hin
              go_wp2_with (go_at_call 74; refine HD.out.mono ?_; clear HD; rintro e w5 ⟨rfl, h9⟩; have H9 := hide (HB.out.took h9); have k2 := H9.out.c1; clear h9)
              go_region_held3 (fun w' => w'.cell? ⟨w1.heap.size, 1, none⟩ = some (.int .i64 ((T' + 1 : Nat) : Int))) (first | assumption | go_keep) (fail)
              go_wp2_with fail
              rw [pl_w1 hTb]
              refine bodyPost_ret (results_tmp3 rfl _ _ _) rfl ?_
              rw [HQN.out]
              exact ⟨rfl, H9.out.bel.drew⟩
            | false =>
              rw [hd] at hdrop
              obtain ⟨e1, e2⟩ := end_go h8 hdrop
              have HE2 : Hid (endB c T = endB c (T' + 1) ∧ endT c T = endT c (T' + 1)) := hide ⟨HE.out.1.trans e1, HE.out.2.trans e2⟩
              have HD := hide (HB.out.qs.digit hTb hdrop)
              clear e1 e2 HE hd hdrop h8 HQ2 hin
              go_wp2_with (go_at_call 74; refine HD.out.mono ?_; clear HD; rintro e w' ⟨rfl, h9⟩; have H9 := hide (HB.out.took h9); clear h9)
              go_roundw
              case rel => exact ⟨T' + 1, hide ⟨HT2.out, by omega⟩, H9, HE2⟩
              case measure =>
                have c2 := H9.out.c1
                rw [k1, c2]
                have := HT2.out
                show 8 * c.length - (((T' + 1 : Nat) : Int)).toNat < 8 * c.length - ((T' : Int)).toNat
                omega
end Go.Proofs.YtglajdmkbckjjabDoor
namespace Go.Proofs.YtglajdmkbckjjabDoor
open Go.RowKit Go.Shelf
set_option linter.unusedVariables false
set_option linter.unusedSimpArgs false
set_option maxRecDepth 20000

/-- the book in memory: its lists, and what it keeps as it came -/
structure BkS (w : World) (k : Nat) (late : Bool) (bv raw was : Value) (ys vs us : List Value) : Prop where
  row : w.heap[k]? = some (.cells #[bv, .bool late, raw, was] 43 (0, 0))
  bo : w.ownsRow 0 22 1 bv ys.length ys
  ro : w.ownsRow 0 22 1 raw vs.length vs
  wo : w.ownsRow 0 22 1 was us.length us
  len : us.length = vs.length
  re : ∀ (j : Nat) (u v : Value), vs[j]? = some v → us[j]? = some u → ∃ l1 l2, WSl w v l1 ∧ WSl w u l2 ∧ (late = true → l1 = l2)
  le : ∀ (j : Nat) (v : Value), ys[j]? = some v → ∃ m, WSl w v (List.replicate m (mk (j - j % 2)))
theorem BkS.heap {w w' : World} {k : Nat} {late : Bool} {bv raw was : Value} {ys vs us : List Value} (h : BkS w k late bv raw was ys vs us) (e : w'.heap = w.heap) : BkS w' k late bv raw was ys vs us := by
  have hk : ∀ b : Nat, w'.heap[b]? = w.heap[b]? := fun b => by rw [e]
  refine ⟨(hk _).trans h.row, rowKept h.bo fun g _ => hk g, rowKept h.ro fun g _ => hk g, rowKept h.wo fun g _ => hk g, h.len, fun j u v h1 h2 => ?_, fun j v h1 => ?_⟩
  · obtain ⟨l1, l2, a, b, c⟩ := h.re j u v h1 h2
    exact ⟨l1, l2, a.keptIf fun g _ _ => hk g, b.keptIf fun g _ _ => hk g, c⟩
  · obtain ⟨m, a⟩ := h.le j v h1
    exact ⟨m, a.keptIf fun g _ _ => hk g⟩
theorem BkS.c {w : World} {k : Nat} {late : Bool} {bv raw was : Value} {ys vs us : List Value} (h : BkS w k late bv raw was ys vs us) (i : Nat) : w.cell? ⟨k, i, none⟩ = (#[bv, .bool late, raw, was] : Array Value)[i]? := cell_of_row _ _ _ _ _ _ h.row
theorem rowCell {w : World} {e : TypeId} {v : Value} {xs : List Value} (h : w.ownsRow 0 e 1 v xs.length xs) {j : Nat} {x : Value} (hj : xs[j]? = some x) : ∃ g cap, v = .slice (some ⟨g, 0, none⟩) xs.length cap ∧ w.cell? ⟨g, j, none⟩ = some x := by
  have hl : j < xs.length := (List.getElem?_eq_some_iff.1 hj).1
  have h' := h
  rcases h.2 with ⟨_, e⟩ | ⟨g, cap, cur, rfl, _, hg, _⟩
  · omega
  · exact ⟨g, cap, rfl, by rw [h'.cellAt j (by omega)]; exact hj⟩
theorem Qt.trans {a b c : World} (h : Qt a b) (k : Qt b c) : Qt a c := ⟨k.1.trans h.1, h.2.trans (k.2.mono h.2.size)⟩
theorem Qt.drew {w w1 : World} (h : Qt w w1) : Qt w w1.drew := ⟨h.1, h.2.drew⟩

set_option maxHeartbeats 2000000 in
theorem kept_any {w : World} {k : Nat} {late : Bool} {bv raw was : Value} {ys vs us : List Value} (h : BkS w k late bv raw was ys vs us) (hy : ys.length ≤ 9000000000000) :
    Calls Tryd.prog 78 #[.pointer (some ⟨k, 0, none⟩)] w fun e w' => e = .returned (.bool true) ∧ Qt w w' := by
  obtain ⟨ab, cb, eb, hb1, hb2⟩ := rowForm h.bo
  obtain ⟨ar, cr, er, hr1, hr2⟩ := rowForm h.ro
  obtain ⟨aw, cw, ew, hw1, hw2⟩ := rowForm h.wo
  subst eb er ew
  unfold maxLen at hb2 hr2 hw2
  have HS : Hid (∀ x, Qt w x → BkS x k late (.slice ab ys.length cb) (.slice ar vs.length cr) (.slice aw us.length cw) ys vs us) := hide fun x hx => h.heap hx.1
  have HLEN := hide h.len
  have HVG : Hid (∀ j, j < vs.length → ∃ v, vs[j]? = some v) := hide fun j hj => ⟨_, List.getElem?_eq_getElem hj⟩
  have HUG : Hid (∀ j, j < us.length → ∃ v, us[j]? = some v) := hide fun j hj => ⟨_, List.getElem?_eq_getElem hj⟩
  have HYG : Hid (∀ j, j < ys.length → ∃ v, ys[j]? = some v) := hide fun j hj => ⟨_, List.getElem?_eq_getElem hj⟩
  have c2 : w.cell? ⟨k, 2, none⟩ = some (.slice ar vs.length cr) := h.c 2
  clear h
  generalize hnv : vs.length = nv at *
  generalize hnu : us.length = nu at *
  generalize hny : ys.length = ny at *
  have HNV := hide hnv
  have HNU := hide hnu
  have HNY := hide hny
  clear hnv hnu hny
  go_enter Tryd.func78, Tryd.ntmps78
  go_wp2_with fail
  go_loopw [3] (fun x wr => ∃ i : Nat, i ≤ nv ∧ x = .int .i64 (i : Int) ∧ Qt w wr) (fun x _ => nv - (intOf x).toNat)
  case atStart => exact ⟨0, Nat.zero_le _, rfl, Qt.refl _⟩
  case round =>
    obtain ⟨i, hin, rfl, hq⟩ := hrel
    have HQ := hide hq
    have HB := hide (HS.out _ hq)
    have b2 : wr.cell? ⟨k, 2, none⟩ = some (.slice ar nv cr) := HB.out.c 2
    clear hq c2
    by_cases hlt : i < nv
    · obtain ⟨v, hv⟩ := HVG.out i hlt
      obtain ⟨u, hu⟩ := HUG.out i (by have := HLEN.out; omega)
      obtain ⟨l1, l2, hw1', hw2', hll⟩ := HB.out.re i u v hv hu
      have r1 := HB.out.ro
      have r2 := HB.out.wo
      rw [← HNV.out] at r1
      rw [← HNU.out] at r2
      obtain ⟨g, cg, eg, hcg⟩ := rowCell r1 hv
      obtain ⟨g', cg', eg', hcg'⟩ := rowCell r2 hu
      simp only [Value.slice.injEq] at eg eg'
      obtain ⟨rfl, -, -⟩ := eg
      obtain ⟨rfl, -, -⟩ := eg'
      have b1 : wr.cell? ⟨k, 1, none⟩ = some (.bool late) := HB.out.c 1
      have b3 : wr.cell? ⟨k, 3, none⟩ = some (.slice (some ⟨g', 0, none⟩) nu cw) := HB.out.c 3
      have HSW := hide (sameWords_any (w := wr.drew) (hw1'.keptIf fun _ _ _ => rfl) (hw2'.keptIf fun _ _ _ => rfl))
      have HLL : Hid (late = true → decide (l1 = l2) = true) := hide fun e => by simp [hll e]
      obtain ⟨a1, d1, e1, -⟩ := hw1'
      obtain ⟨a2, d2, e2, -⟩ := hw2'
      subst e1 e2
      have hiu : (i : Int) < (nu : Int) := by have := HLEN.out; omega
      clear hv hu hll r1 r2
      generalize decide (l1 = l2) = dd at *
      generalize l1.length = x1 at *
      generalize l2.length = x2 at *
      go_wp2_with fail
      go_region_held3 (fun w' => w'.cell? ⟨k, 2, none⟩ = some (.slice (some ⟨g, 0, none⟩) nv cr) ∧ w'.cell? ⟨k, 3, none⟩ = some (.slice (some ⟨g', 0, none⟩) nu cw) ∧ w'.cell? ⟨g, i, none⟩ = some (.slice a1 x1 d1) ∧ w'.cell? ⟨g', i, none⟩ = some (.slice a2 x2 d2))
        (first | exact ⟨b2, b3, hcg, hcg'⟩ | exact ⟨z2, z3, zg, zg'⟩)
        ((go_at_call 13; refine HSW.out.mono ?_; rintro e w2 ⟨rfl, hq2⟩; have HQ2 := hide (HQ.out.drew.trans hq2); have hcc : ∀ a, w2.cell? a = wr.cell? a := (fun a => World.cell?_of_block (by rw [hq2.1]; rfl)); have z1 := (hcc _).trans b1; have z2 := (hcc _).trans b2; have z3 := (hcc _).trans b3; have zg := (hcc _).trans hcg; have zg' := (hcc _).trans hcg'; clear hq2 hcc))
      all_goals
        cases late with
        | false =>
          go_wp2_with fail
          go_roundw
          case rel => exact ⟨i + 1, by omega, by go_num, HQ2.out⟩
          case measure => simp [intOf]; omega
        | true =>
          have hdd := HLL.out rfl
          subst hdd
          go_wp2_with fail
          go_roundw
          case rel => exact ⟨i + 1, by omega, by go_num, HQ2.out⟩
          case measure => simp [intOf]; omega
    · have b0 : wr.cell? ⟨k, 0, none⟩ = some (.slice ab ny cb) := HB.out.c 0
      go_wp2_with fail
      go_loopw [5] (fun x wr => ∃ i : Nat, i ≤ ny ∧ x = .int .i64 (i : Int) ∧ Qt w wr) (fun x _ => ny - (intOf x).toNat)
      case atStart => exact ⟨0, Nat.zero_le _, rfl, HQ.out⟩
      case round =>
        clear HQ HB b2 b0 hlt
        obtain ⟨i2, hin2, rfl, hq⟩ := hrel
        have HQ := hide hq
        have HB := hide (HS.out _ hq)
        have b0 : wr.cell? ⟨k, 0, none⟩ = some (.slice ab ny cb) := HB.out.c 0
        clear hq
        by_cases hlt : i2 < ny
        · obtain ⟨v, hv⟩ := HYG.out i2 hlt
          obtain ⟨m, hwm⟩ := HB.out.le i2 v hv
          have r1 := HB.out.bo
          rw [← HNY.out] at r1
          obtain ⟨g, cg, eg, hcg⟩ := rowCell r1 hv
          simp only [Value.slice.injEq] at eg
          obtain ⟨rfl, -, -⟩ := eg
          have hmod : Int.tmod (i2 : Int) 2 = ((i2 % 2 : Nat) : Int) := rfl
          have hsub : (i2 : Int) - ((i2 % 2 : Nat) : Int) = ((i2 - i2 % 2 : Nat) : Int) := by omega
          have hmk1 : IntKind.u64.wrap (11529215046068469761 + ((i2 - i2 % 2 : Nat) : Int)) = ((mk (i2 - i2 % 2) : Nat) : Int) := by unfold mk; simp [IntKind.wrap, IntKind.bits, IntKind.signed]; omega
          have hmk2 : 11529215046068469761 + ((i2 - i2 % 2 : Nat) : Int) = ((mk (i2 - i2 % 2) : Nat) : Int) := by unfold mk; omega
          have hmk3 : mk (i2 - i2 % 2) < 18446744073709551616 := by unfold mk; omega
          have hsl : i2 - i2 % 2 ≤ 9000000000000 := by omega
          have hwr : IntKind.i64.wrap ((i2 : Int) - ((i2 % 2 : Nat) : Int)) = ((i2 - i2 % 2 : Nat) : Int) := by simp [IntKind.wrap, IntKind.bits, IntKind.signed]; omega
          obtain ⟨av, cv, ev, e1, e2, -, -, e5⟩ := hwm
          rw [List.length_replicate] at ev e1 e5
          unfold maxLen at e2
          subst ev
          generalize hMM : mk (i2 - i2 % 2) = M at *
          have HE : Hid (∀ j, j < m → ∃ b off, av = some ⟨b, off, none⟩ ∧ wr.cell? ⟨b, off + j, none⟩ = some (.int .u64 (M : Int))) := hide fun j hj => by
            obtain ⟨b, off, e, hc⟩ := e5 (by omega)
            refine ⟨b, off, e, ?_⟩
            rw [hc j hj]
            simp [List.getD, hj]
          clear e5 hMM hv r1
          generalize i2 - i2 % 2 = q at *
          generalize ((i2 % 2 : Nat) : Int) = t at *
          obtain ⟨wo, ewo⟩ : ∃ wo, wr = wo := ⟨wr, rfl⟩
          subst ewo
          go_wp2_with fail
          obtain ⟨wo, ewo⟩ : ∃ wo, wr = wo := ⟨wr, rfl⟩
          rw [ewo] at HQ HB b0 hcg HE
          go_loopw [7] (fun x wr => ∃ j : Nat, j ≤ m ∧ x = .int .i64 (j : Int) ∧ wr = wo) (fun x _ => m - (intOf x).toNat)
          case atStart => exact ⟨0, Nat.zero_le _, rfl, ewo⟩
          case round =>
            clear ewo
            obtain ⟨j, hjm, rfl, rfl⟩ := hrel
            by_cases hlj : j < m
            · obtain ⟨b, off, rfl, hcell⟩ := HE.out j hlj
              clear hmk1 hmk2 hmod hsub hwr
              go_wp2_with fail
              go_roundw
              case rel => exact ⟨j + 1, by omega, by go_num, trivial⟩
              case measure => simp [intOf]; omega
            · clear hmk1 hmk2 hmod hsub hwr
              go_wp2_with fail
              go_roundw
              case rel => exact ⟨i2 + 1, by omega, by go_num, HQ.out⟩
              case measure => simp [intOf]; omega
        · go_wp2_with fail
          go_ret
          exact ⟨rfl, HQ.out⟩
end Go.Proofs.YtglajdmkbckjjabDoor
namespace Go.Proofs.YtglajdmkbckjjabDoor
open Go.RowKit Go.Shelf
set_option linter.unusedVariables false
set_option linter.unusedSimpArgs false
set_option maxRecDepth 20000

/-- a whole list behind an empty one of one's own -/
theorem run_appAll {P : Program} (w : World) (t ty e : TypeId) (i : TypeInfo) (z : Value) (bytes : Nat) (ht : P.underlying t = some (.slice e)) (hi : P.info? e = some i) (hz : i.zero = some z) (hsize : i.size = 1) (hby : i.bytes = bytes) (hzs : z.cells.size = 1)
    (g : Nat) (hg : w.heap[g]? = some (.cells #[] e (0, 0))) (v : Value) (n : Nat) (xs : List Value) (hown : w.ownsRow 0 e 1 v n xs) (h1 : ∀ u ∈ xs, u.oneCell' = true) (h63 : n ≤ maxLen) (hbytes : (n + n / 4 + 192) * bytes ≤ 281474976710656) :
    ∃ ad c w', (Builtin.append_ #[t, t] ty #[.slice (some ⟨g, 0, none⟩) 0 0, v]).run P w = .ok (.slice (some ad) n c) w' ∧ w'.ownsRow 0 e 1 (.slice (some ad) n c) n xs ∧ w.grownBy w' (some g) ∧ (ad.block = g ∨ ad.block = w.heap.size) := by
  have h63' : n ≤ 9223372036854775807 := by simp only [maxLen] at h63; omega
  have own0 : w.ownsRow 0 e 1 (.slice (some ⟨g, 0, none⟩) 0 0) 0 [] := ⟨rfl, .inr ⟨g, 0, #[], rfl, Nat.zero_le _, hg, Nat.le_refl _, by unfold maxLen; omega, rfl, rfl⟩⟩
  rcases hown.2 with ⟨rfl, rfl⟩ | ⟨gv, cap, cur, rfl, hbg, hgc, hnc, hcm, hcs, htake⟩
  · have hx : xs = [] := List.eq_nil_of_length_eq_zero (by simpa using hown.1)
    subst hx
    exact ⟨⟨g, 0, none⟩, 0, w, run_append_owned_none (P := P) (w := w) 0 t ty e i 1 ht hi _ 0 [] own0, own0, ⟨rfl, rfl, rfl, Nat.le_refl _, fun _ _ _ => rfl⟩, .inl rfl⟩
  · have hnews : ∀ j u, xs[j]? = some u → w.cell? ((⟨gv, 0, none⟩ : Addr).add j) = some u := hown.cells (g := gv) rfl
    obtain ⟨v', w', hr, ho, hgr, -⟩ := run_append_own_wide (P := P) w 0 t ty e i z 1 bytes ht hi hz hsize hby hzs (by decide) _ 0 [] own0 ⟨gv, 0, none⟩ n cap xs hown.1 hnews h1 (by rw [Nat.zero_add]; exact h63) (by rw [Nat.zero_add]; exact hbytes) (Nat.zero_le _)
    rw [Nat.zero_add, List.nil_append] at ho
    by_cases h0 : n = 0
    · subst h0
      have hr2 := run_append_room (P := P) w t ty e i ht hi g 0 0 #[] hg ⟨gv, 0, none⟩ 0 cap xs (by rw [hsize]; exact hown.1) hnews h1 (Nat.le_refl _) (by have h9 := hown.1; rw [Nat.zero_mul] at h9; rw [Nat.zero_mul, Nat.zero_add, h9]; exact Nat.zero_le _)
      rw [hr] at hr2
      injection hr2 with e1 e2
      subst e1
      exact ⟨⟨g, 0, none⟩, 0, w', hr, ho, hgr, .inl rfl⟩
    · have hr2 := run_append_grow (P := P) w t ty e i z ht hi hz ⟨g, 0, none⟩ 0 0 [] (by simp) (by simp) ⟨gv, 0, none⟩ n cap xs (by rw [hsize]; exact hown.1) hnews (by omega) (by omega) (by rw [hby]; exact growslice_fits_wide (by omega) (by rw [Nat.zero_add]; exact hbytes))
      rw [hr] at hr2
      injection hr2 with e1 e2
      rw [Nat.zero_add] at e1
      subst e1
      exact ⟨⟨w.heap.size, 0, none⟩, _, w', hr, ho, hgr, .inr rfl⟩
theorem step_appAll {P : Program} (w : World) {ops : Array Oper} {o : Oper} {a : Act} {K : Act → World → Prop} {Q : Exit → Act → World → Prop} {E : Prop} (hgd : o.guard = none) (s x : Operand) (t : TypeId)
    (ho : o.op = .call { callee := .builtin .append, args := #[s, x], argTypes := #[t, t] })
    (e : TypeId) (i : TypeInfo) (z : Value) (bytes : Nat) (ht : P.underlying t = some (.slice e)) (hi : P.info? e = some i) (hz : i.zero = some z) (hsize : i.size = 1) (hby : i.bytes = bytes) (hzs : z.cells.size = 1)
    (g : Nat) (hs : a.eval s = .slice (some ⟨g, 0, none⟩) 0 0) (hg : w.heap[g]? = some (.cells #[] e (0, 0))) (v : Value) (n : Nat) (xs : List Value) (hx : a.eval x = v) (hown : w.ownsRow 0 e 1 v n xs) (h1 : ∀ u ∈ xs, u.oneCell' = true) (h63 : n ≤ maxLen) (hbytes : (n + n / 4 + 192) * bytes ≤ 281474976710656)
    (h : ∀ ad c w', w'.ownsRow 0 e 1 (.slice (some ad) n c) n xs → w.grownBy w' (some g) → (ad.block = g ∨ ad.block = w.heap.size) → K (a.put o.dst (.slice (some ad) n c)) w') :
    if Region.wanted o (yielded ops a.tmps) = true then Oper.wp P o a w K Q else E := by
  have hw : Region.wanted o (yielded ops a.tmps) = true := by simp [Region.wanted, hgd]
  rw [if_pos hw]
  obtain ⟨ad, c, w', hr, h2, h3, h4⟩ := run_appAll (P := P) w t o.type e i z bytes ht hi hz hsize hby hzs g hg v n xs hown h1 h63 hbytes
  unfold Oper.wp execOp
  simp only [ho, resolve, invoke, builtin, Sem.run_bind, Sem.run_pure, Result.andThen_ok, List.map_toArray, List.map_cons, List.map_nil, hs, hx, hr]
  exact h ad c w' h2 h3 h4
theorem step_append1 {P : Program} (w : World) {ops : Array Oper} {o : Oper} {a : Act} {K : Act → World → Prop} {Q : Exit → Act → World → Prop} {E : Prop} (hgd : o.guard = none) (s x : Operand) (t : TypeId)
    (ho : o.op = .call { callee := .builtin .append, args := #[s, x], argTypes := #[t, t] })
    (e : TypeId) (i : TypeInfo) (z : Value) (bytes : Nat) (ht : P.underlying t = some (.slice e)) (hi : P.info? e = some i) (hz : i.zero = some z) (hsize : i.size = 1) (hby : i.bytes = bytes) (hzs : z.cells.size = 1)
    (v : Value) (n : Nat) (xs : List Value) (hs : a.eval s = v) (hown : w.ownsRow 0 e 1 v n xs) (ad : Addr) (c : Nat) (y : Value) (hx : a.eval x = .slice (some ad) 1 c) (hnews : ∀ j u, [y][j]? = some u → w.cell? (ad.add j) = some u) (h1 : y.oneCell' = true) (h63 : n + 1 ≤ maxLen) (hbytes : ((n + 1) + (n + 1) / 4 + 192) * bytes ≤ 281474976710656)
    (h : ∀ v' w', w'.ownsRow 0 e 1 v' (n + 1) (xs ++ [y]) → Upon w w' v v' → K (a.put o.dst v') w') :
    if Region.wanted o (yielded ops a.tmps) = true then Oper.wp P o a w K Q else E := by
  have hw : Region.wanted o (yielded ops a.tmps) = true := by simp [Region.wanted, hgd]
  rw [if_pos hw]
  obtain ⟨v', w', hr, h2, h3⟩ := run_append1 (P := P) w t o.type e i z bytes ht hi hz hsize hby hzs v n xs hown ad c y hnews h1 h63 hbytes
  unfold Oper.wp execOp
  simp only [ho, resolve, invoke, builtin, Sem.run_bind, Sem.run_pure, Result.andThen_ok, List.map_toArray, List.map_cons, List.map_nil, hs, hx, hr]
  exact h v' w' h2 h3
theorem row_words {w : World} {v : Value} {l : List Nat} {xs : List Value} (h : w.ownsRow 0 62 1 v l.length xs) (hw : WSl w v l) : xs = l.map u64V := by
  apply List.ext_getElem?
  intro j
  have hl := h.1
  by_cases hj : j < l.length
  · obtain ⟨a, cap, e, q1, q2, q3, q4, q5⟩ := hw
    obtain ⟨b, off, e2, hc⟩ := q5 (by omega)
    have h' := h
    rcases h.2 with ⟨_, e0⟩ | ⟨g, cap', cur, e', _⟩
    · omega
    · rw [e'] at e
      simp only [Value.slice.injEq, e2, Option.some.injEq, Addr.mk.injEq] at e
      obtain ⟨⟨rfl, rfl, -⟩, -, rfl⟩ := e
      rw [e'] at h'
      rw [← h'.cellAt j (by omega), map_u64V_getD hj, ← hc j hj, Nat.zero_add]
  · rw [List.getElem?_eq_none (by omega), List.getElem?_eq_none (by simp; omega)]
end Go.Proofs.YtglajdmkbckjjabDoor
namespace Go.Proofs.YtglajdmkbckjjabDoor
open Go.RowKit Go.Shelf
set_option linter.unusedVariables false
set_option linter.unusedSimpArgs false
set_option maxRecDepth 20000

/-- what keep leaves of a late book -/
structure Lt (w w' : World) (k : Nat) (bv raw was raw' was' v u : Value) (vs us : List Value) (l : List Nat) : Prop where
  row : w'.heap[k]? = some (.cells #[bv, .bool true, raw', was'] 43 (0, 0))
  ro : w'.ownsRow 0 22 1 raw' (vs.length + 1) (vs ++ [v])
  wo : w'.ownsRow 0 22 1 was' (us.length + 1) (us ++ [u])
  ws : WSl w' u l
  chg : Chg (fun b => b = k ∨ raw.ownBlock = some b ∨ was.ownBlock = some b) w w'
  rl : ∀ b, raw'.ownBlock = some b → raw.ownBlock = some b ∨ w.heap.size ≤ b
  wl : ∀ b, was'.ownBlock = some b → was.ownBlock = some b ∨ w.heap.size ≤ b
  ul : ∀ b, u.ownBlock = some b → w.heap.size ≤ b
  ne : ∀ b, raw'.ownBlock = some b → was'.ownBlock ≠ some b
  ub : ∀ b, u.ownBlock = some b → raw'.ownBlock ≠ some b ∧ was'.ownBlock ≠ some b ∧ b ≠ k ∧ b < w'.heap.size

set_option maxHeartbeats 2000000 in
theorem keepLate_any {w : World} {k : Nat} {bv raw was v : Value} {vs us : List Value} {l : List Nat} (hrow : w.heap[k]? = some (.cells #[bv, .bool true, raw, was] 43 (0, 0)))
    (hro : w.ownsRow 0 22 1 raw vs.length vs) (hwo : w.ownsRow 0 22 1 was us.length us) (hne : ∀ b, raw.ownBlock = some b → was.ownBlock ≠ some b) (hv : w.ownsRow 0 62 1 v l.length (l.map u64V)) (hw : WSl w v l)
    (hl : l.length ≤ 17592186044416) (hn1 : vs.length ≤ 9000000000000) (hn2 : us.length ≤ 9000000000000) :
    Calls Tryd.prog 35 #[.pointer (some ⟨k, 0, none⟩), v] w fun e w' => e = .returned (.tuple #[]) ∧ ∃ raw' was' u, Lt w w' k bv raw was raw' was' v u vs us l := by
  obtain ⟨i0, hi, hz0, hz1, hz2⟩ := info_parts info_u64
  obtain ⟨i1, hj, hy0, hy1, hy2⟩ := info_parts info_words
  obtain ⟨a, cap, rfl, hc1, hc2⟩ := rowForm hv
  obtain ⟨ar, cr, rfl, hr1, hr2⟩ := rowForm hro
  obtain ⟨aw, cw, rfl, hw1, hw2⟩ := rowForm hwo
  unfold maxLen at hc2 hr2 hw2
  have HROW := hide hrow
  have HRO := hide hro
  have HWO := hide hwo
  have HNE := hide hne
  have HV := hide hv
  have HW := hide hw.lt
  have hkl := (Array.getElem?_eq_some_iff.1 hrow).1
  have c1 : w.cell? ⟨k, 1, none⟩ = some (.bool true) := by rw [cell_of_row _ _ _ _ _ _ hrow]; rfl
  have c2 : w.cell? ⟨k, 2, none⟩ = some (.slice ar vs.length cr) := by rw [cell_of_row _ _ _ _ _ _ hrow]; rfl
  have c3 : w.cell? ⟨k, 3, none⟩ = some (.slice aw us.length cw) := by rw [cell_of_row _ _ _ _ _ _ hrow]; rfl
  have hbl0 := (Below.refl w.heap.size w).alloc (Nat.le_refl _) (.cells #[.slice a l.length cap] 22)
  have r1 := hro.alloc (.cells #[.slice a l.length cap] 22)
  have HB1 : Hid (vs.length + 1 ≤ maxLen ∧ us.length + 1 ≤ maxLen) := hide (by unfold maxLen; omega)
  have HB2 : Hid (((vs.length + 1) + (vs.length + 1) / 4 + 192) * 24 ≤ 281474976710656 ∧ ((us.length + 1) + (us.length + 1) / 4 + 192) * 24 ≤ 281474976710656) := hide (by omega)
  have HB3 : Hid (l.length ≤ maxLen ∧ (l.length + l.length / 4 + 192) * 8 ≤ 281474976710656) := hide (by unfold maxLen; omega)
  have HKV : Hid (k < w.heap.size ∧ (Value.slice ar vs.length cr).ownBlock ≠ some k ∧ (Value.slice aw us.length cw).ownBlock ≠ some k) := hide
    ⟨hkl, fun e => by obtain ⟨cs, hcs⟩ := rowCells hro e; exact neType hcs hrow (by decide) rfl, fun e => by obtain ⟨cs, hcs⟩ := rowCells hwo e; exact neType hcs hrow (by decide) rfl⟩
  have k1 : (w.alloc (.cells #[.slice a l.length cap] 22)).cell? ⟨k, 2, none⟩ = some (.slice ar vs.length cr) := (hbl0.cell (p := ⟨k, 2, none⟩) hkl).trans c2
  clear hrow hro hwo hne hv hw hl hbl0
  go_enter Tryd.func35, Tryd.ntmps35
  go_wp2_with (at_builtin; refine wpList_append1 _ rfl (.tmp 16) (.tmp 18) 41 rfl 22 i1 (.slice none 0 0) 24 Tryd.underlying41 hj hy0 hy1 hy2 rfl _ _ _ rfl r1 ⟨w.heap.size, 0, none⟩ 1 (.slice a l.length cap) rfl (cell_one_new _ _ _) rfl HB1.out.1 HB2.out.1 ?_)
  intro raw1 w5 ho5 hup5
  obtain ⟨ar1, cr1, e1, hf1, hf2⟩ := rowForm ho5
  subst e1
  obtain ⟨g1, e1⟩ : ∃ g, ar1 = some ⟨g, 0, none⟩ := by
    rcases ho5.2 with ⟨_, e⟩ | ⟨g, _, _, e, _⟩
    · omega
    · simp only [Value.slice.injEq] at e; exact ⟨g, e.1⟩
  subst e1
  have HUP5 : Hid (Upon (w.alloc (.cells #[.slice a l.length cap] 22)) w5 (.slice ar vs.length cr) (.slice (some ⟨g1, 0, none⟩) (vs.length + 1) cr1)) := hide (by unfold Upon; rw [World.size_alloc]; exact hup5)
  have old : ∀ b, b < w.heap.size → (Value.slice ar vs.length cr).ownBlock ≠ some b → w5.heap[b]? = w.heap[b]? := fun b hb hn => (HUP5.out.block b (by simp; omega) hn).trans (Below.heap_alloc _ _ b hb)
  have hr5 : w5.heap[k]? = some (.cells #[bv, .bool true, .slice ar vs.length cr, .slice aw us.length cw] 43 (0, 0)) := (old k hkl HKV.out.2.1).trans HROW.out
  have k5 : w5.cell? ⟨k, 2, none⟩ = some (.slice ar vs.length cr) := by rw [cell_of_row _ _ _ _ _ _ hr5]; rfl
  have f5 : w5.frozen? ⟨k, 2, none⟩ = false := frozen_of_row _ _ _ _ 43 hr5
  have hr6 : (w5.setCell ⟨k, 2, none⟩ (.slice (some ⟨g1, 0, none⟩) (vs.length + 1) cr1)).heap[k]? = some (.cells #[bv, .bool true, .slice (some ⟨g1, 0, none⟩) (vs.length + 1) cr1, .slice aw us.length cw] 43 (0, 0)) := by
    rw [Go.heap_setCell_same w5 k 2 _ 43 _ hr5]; rfl
  have HR6 := hide hr6
  have HO6 : Hid ((w5.setCell ⟨k, 2, none⟩ (.slice (some ⟨g1, 0, none⟩) (vs.length + 1) cr1)).ownsRow 0 22 1 (.slice (some ⟨g1, 0, none⟩) (vs.length + 1) cr1) (vs.length + 1) (vs ++ [.slice a l.length cap])) := hide (rowKept ho5 fun b hb => Go.heap_setCell_other _ _ _ _ (by
    obtain ⟨cs, hcs⟩ := rowCells ho5 hb
    exact neType hcs hr5 (by decide)))
  have HOLD : Hid (∀ b, b < w.heap.size → b ≠ k → (Value.slice ar vs.length cr).ownBlock ≠ some b → (w5.setCell ⟨k, 2, none⟩ (.slice (some ⟨g1, 0, none⟩) (vs.length + 1) cr1)).heap[b]? = w.heap[b]?) := hide fun b h1 h2 h3 => by
    rw [Go.heap_setCell_other _ _ _ _ h2]; exact old b h1 h3
  have HSZ : Hid (w.heap.size + 1 ≤ (w5.setCell ⟨k, 2, none⟩ (.slice (some ⟨g1, 0, none⟩) (vs.length + 1) cr1)).heap.size) := hide (by
    have := HUP5.out.size
    simp [World.setCell] at *
    omega)
  have HL1 : Hid (∀ b, (Value.slice (some ⟨g1, 0, none⟩) (vs.length + 1) cr1).ownBlock = some b → (Value.slice ar vs.length cr).ownBlock = some b ∨ w.heap.size ≤ b) := hide fun b hb => by
    rcases HUP5.out.loc b hb with h | h
    · exact .inl h
    · rw [h]; exact .inr (by simp)
  have HSAME : Hid ((w5.setCell ⟨k, 2, none⟩ (.slice (some ⟨g1, 0, none⟩) (vs.length + 1) cr1)).os = w.os ∧ (w5.setCell ⟨k, 2, none⟩ (.slice (some ⟨g1, 0, none⟩) (vs.length + 1) cr1)).tape = w.tape ∧ (w5.setCell ⟨k, 2, none⟩ (.slice (some ⟨g1, 0, none⟩) (vs.length + 1) cr1)).output = w.output) := hide HUP5.out.same
  clear ho5 hup5 old hr5 hr6 r1 k1 c1 c2 c3 HUP5
  go_wp2_with fail
  generalize hW6 : w5.setCell ⟨k, 2, none⟩ (.slice (some ⟨g1, 0, none⟩) (vs.length + 1) cr1) = w6 at *
  clear hW6 k5 f5
  have HWB : Hid (∀ b, (Value.slice aw us.length cw).ownBlock = some b → b < w.heap.size ∧ b ≠ k ∧ (Value.slice ar vs.length cr).ownBlock ≠ some b) := hide fun b e => ⟨(HWO.out.lt b e).2, fun h => HKV.out.2.2 (h ▸ e), fun h => HNE.out b h e⟩
  have HVB : Hid (∀ b, (Value.slice a l.length cap).ownBlock = some b → b < w.heap.size ∧ b ≠ k ∧ (Value.slice ar vs.length cr).ownBlock ≠ some b) := hide fun b e => by
    obtain ⟨cs, hcs⟩ := rowCells HV.out e
    exact ⟨(HV.out.lt b e).2, neType hcs HROW.out (by decide), fun h => by obtain ⟨ds, hds⟩ := rowCells HRO.out h; exact neType hcs hds (by decide) rfl⟩
  have HWO6 := hide (rowKept (w' := w6) HWO.out fun b e => HOLD.out b (HWB.out b e).1 (HWB.out b e).2.1 (HWB.out b e).2.2)
  have HV7 : Hid ((w6.alloc (.cells #[] 62)).drew.ownsRow 0 62 1 (.slice a l.length cap) l.length (l.map u64V)) := hide (rowKept HV.out fun b e => by
    have h1 := HVB.out b e
    have hs := HSZ.out
    show (w6.alloc (.cells #[] 62)).heap[b]? = _
    rw [Below.heap_alloc _ _ b (by omega)]
    exact HOLD.out b h1.1 h1.2.1 h1.2.2)
  have HG0 : Hid ((w6.alloc (.cells #[] 62)).drew.heap[w6.heap.size]? = some (.cells #[] 62 (0, 0))) := hide (Go.heap_alloc_new w6 _)
  have d6 : w6.cell? ⟨k, 3, none⟩ = some (.slice aw us.length cw) := by rw [cell_of_row _ _ _ _ _ _ HR6.out]; rfl
  have d7 : (w6.alloc (.cells #[] 62)).cell? ⟨k, 3, none⟩ = some (.slice aw us.length cw) := (World.cell?_of_block (Below.heap_alloc _ _ k (by have := HSZ.out; omega))).trans d6
  have HKEEP : Hid (∀ w8, (w6.alloc (.cells #[] 62)).drew.grownBy w8 (some w6.heap.size) → ∀ b, b < w6.heap.size → w8.heap[b]? = w6.heap[b]?) := hide fun w8 hg b hb => (hg.block b (by simp; omega) (fun e => by injection e with e; omega)).trans (Below.heap_alloc _ _ b hb)
  have hks : k < w6.heap.size := by have := HSZ.out; omega
  have hwa := HSZ.out
  go_region_law (first
    | (refine step_appAll _ rfl (.tmp 27) (.tmp 28) 22 rfl 62 i0 (.int .u64 0) 8 Tryd.underlying22 hi hz0 hz1 hz2 rfl w6.heap.size rfl HG0.out (.slice a l.length cap) l.length (l.map u64V) rfl HV7.out (u64V_oneCell l) HB3.out.1 HB3.out.2 ?_; intro ad c w8 ho8 hg8 hloc8; have HO8 := hide ho8; have HK8 := hide (HKEEP.out w8 hg8); have HG8 := hide hg8; have HLOC8 := hide hloc8; have d8 : w8.cell? ⟨k, 3, none⟩ = some (.slice aw us.length cw) := (World.cell?_of_block (HK8.out k hks)).trans d6; have d9 : (w8.alloc (.cells #[.slice (some ad) l.length c] 22)).cell? ⟨k, 3, none⟩ = some (.slice aw us.length cw) := (World.cell?_of_block (Below.heap_alloc _ _ k (by have := hg8.size; simp at this; omega))).trans d8; have HWO9 := hide ((rowKept (w' := w8) HWO6.out (fun b e => HK8.out b (HWO6.out.lt b e).2)).alloc (.cells #[.slice (some ad) l.length c] 22)); clear ho8 hg8 hloc8)
    | (refine step_append1 _ rfl (.tmp 26) (.tmp 30) 41 rfl 22 i1 (.slice none 0 0) 24 Tryd.underlying41 hj hy0 hy1 hy2 rfl (.slice aw us.length cw) us.length us rfl HWO9.out ⟨w8.heap.size, 0, none⟩ 1 (.slice (some ad) l.length c) rfl (cell_one_new _ _ _) rfl HB1.out.2 HB2.out.2 ?_; intro was2 w9 ho9 hup9; obtain ⟨aw2, cw2, e2, hx1, hx2⟩ := rowForm ho9; subst e2; obtain ⟨g2, e2⟩ : ∃ g, aw2 = some ⟨g, 0, none⟩ := (by rcases ho9.2 with ⟨_, e⟩ | ⟨g, _, _, e, _⟩; (· omega); (· simp only [Value.slice.injEq] at e; exact ⟨g, e.1⟩)); subst e2; have HO9 := hide ho9; have HUP9 := hide hup9; have hr9 : w9.heap[k]? = some (.cells #[bv, .bool true, .slice (some ⟨g1, 0, none⟩) (vs.length + 1) cr1, .slice aw us.length cw] 43 (0, 0)) := (HUP9.out.block k (by have := HG8.out.size; simp at this ⊢; omega) HKV.out.2.2).trans ((Below.heap_alloc _ _ k (by have := HG8.out.size; simp at this; omega)).trans ((HK8.out k hks).trans HR6.out)); have k9 : w9.cell? ⟨k, 3, none⟩ = some (.slice aw us.length cw) := (by rw [cell_of_row _ _ _ _ _ _ hr9]; rfl); have f9 : w9.frozen? ⟨k, 3, none⟩ = false := frozen_of_row _ _ _ _ 43 hr9; have HR9 := hide hr9; clear ho9 hup9 hr9))
  all_goals
    have HFIN : Hid (Lt w (w9.setCell ⟨k, 3, none⟩ (.slice (some ⟨g2, 0, none⟩) (us.length + 1) cw2)) k bv (.slice ar vs.length cr) (.slice aw us.length cw) (.slice (some ⟨g1, 0, none⟩) (vs.length + 1) cr1) (.slice (some ⟨g2, 0, none⟩) (us.length + 1) cw2) (.slice a l.length cap) (.slice (some ad) l.length c) vs us l) := hide (by
      have hs8 := HG8.out.size
      have hs9 := HUP9.out.size
      have e6 : (w6.alloc (.cells #[] 62)).drew.heap.size = w6.heap.size + 1 := by simp
      rw [e6] at hs8
      rw [World.size_alloc] at hs9
      have F : ∀ b, b < w8.heap.size → b ≠ k → (Value.slice aw us.length cw).ownBlock ≠ some b → (w9.setCell ⟨k, 3, none⟩ (.slice (some ⟨g2, 0, none⟩) (us.length + 1) cw2)).heap[b]? = w8.heap[b]? := fun b h1 h2 h3 => by
        rw [Go.heap_setCell_other _ _ _ _ h2, HUP9.out.block b (by simp; omega) h3, Below.heap_alloc _ _ b h1]
      have hwb : ∀ b, (Value.slice aw us.length cw).ownBlock = some b → b < w.heap.size := fun b e => (HWB.out b e).1
      have hra : ∀ b, (Value.slice (some ⟨g1, 0, none⟩) (vs.length + 1) cr1).ownBlock = some b → b < w6.heap.size ∧ b ≠ k ∧ (Value.slice aw us.length cw).ownBlock ≠ some b := fun b e => by
        obtain ⟨cs, hcs⟩ := rowCells HO6.out e
        refine ⟨(HO6.out.lt b e).2, neType hcs HR6.out (by decide), fun h => ?_⟩
        rcases HL1.out b e with h2 | h2
        · exact HNE.out b h2 h
        · have := hwb b h; omega
      have hub : ∀ b, (Value.slice (some ad) l.length c).ownBlock = some b → w6.heap.size ≤ b ∧ b < w8.heap.size := fun b e => by
        have h1 := (HO8.out.lt b e).2
        simp only [Value.ownBlock, Option.some.injEq] at e
        rcases HLOC8.out with h | h
        · exact ⟨by omega, h1⟩
        · rw [e6] at h; exact ⟨by omega, h1⟩
      refine ⟨?_, ?_, ?_, ?_, ?_, HL1.out, fun b e => ?_, fun b e => ?_, fun b e e2 => ?_, fun b e => ?_⟩
      · rw [Go.heap_setCell_same w9 k 3 _ 43 _ HR9.out]; rfl
      · exact rowKept HO6.out fun b e => (F b (by have := (hra b e).1; omega) (hra b e).2.1 (hra b e).2.2).trans (HK8.out b (hra b e).1)
      · exact rowKept HO9.out fun b e => Go.heap_setCell_other _ _ _ _ (by
          obtain ⟨cs, hcs⟩ := rowCells HO9.out e
          exact neType hcs HR9.out (by decide))
      · exact wsl_of_row (rowKept HO8.out fun b e => F b (hub b e).2 (by have := (hub b e).1; omega) (fun h => by have := hwb b h; have := (hub b e).1; omega)) HW.out
      · obtain ⟨s1, s2, s3⟩ := HUP9.out.same
        refine ⟨(s1.trans HG8.out.os).trans HSAME.out.1, (s2.trans HG8.out.tape).trans HSAME.out.2.1, (s3.trans HG8.out.output).trans HSAME.out.2.2, by simp [World.setCell]; omega, fun b hb hn => ?_⟩
        exact (F b (by omega) (fun e => hn (.inl e)) (fun e => hn (.inr (.inr e)))).trans ((HK8.out b (by omega)).trans (HOLD.out b hb (fun e => hn (.inl e)) (fun e => hn (.inr (.inl e)))))
      · rcases HUP9.out.loc b e with h | h
        · exact .inl h
        · rw [h]; exact .inr (by simp; omega)
      · have := (hub b e).1; omega
      · rcases HUP9.out.loc b e2 with h | h
        · exact (hra b e).2.2 h
        · have := (hra b e).1; rw [h] at this; simp at this; omega
      · obtain ⟨u1, u2⟩ := hub b e
        have hz : (w9.setCell ⟨k, 3, none⟩ (.slice (some ⟨g2, 0, none⟩) (us.length + 1) cw2)).heap.size = w9.heap.size := by simp [World.setCell]
        refine ⟨fun e2 => ?_, fun e2 => ?_, by omega, by omega⟩
        · have := (hra b e2).1; omega
        · rcases HUP9.out.loc b e2 with h | h
          · have := hwb b h; omega
          · rw [World.size_alloc] at h; omega)
    go_wp2_with fail
    refine bodyPost_ret (results_none rfl _ _ _) rfl ?_
    exact ⟨rfl, _, _, _, HFIN.out⟩
end Go.Proofs.YtglajdmkbckjjabDoor
namespace Go.Proofs.YtglajdmkbckjjabDoor
open Go.RowKit Go.Shelf
set_option linter.unusedVariables false
set_option linter.unusedSimpArgs false
set_option maxRecDepth 20000

/-- the blocks that the book's entries lie in -/
def Ent (raw was : Value) (ys vs us : List Value) (b : Nat) : Prop := raw.ownBlock = some b ∨ was.ownBlock = some b ∨ ∃ x, (x ∈ ys ∨ x ∈ vs ∨ x ∈ us) ∧ x.ownBlock = some b
theorem blockOf_own {v : Value} {b : Nat} (h : blockOf v = some b) : v.ownBlock = some b := by
  cases v <;> simp_all [blockOf, Value.ownBlock]
  rename_i a n c
  cases a with
  | none => simp [blockOf] at h
  | some ad => simpa [blockOf, Value.ownBlock] using h
theorem BkS.kept {w w' : World} {k : Nat} {late : Bool} {bv raw was : Value} {ys vs us : List Value} (h : BkS w k late bv raw was ys vs us) (hk : ∀ b, b < w.heap.size → (b = k ∨ bv.ownBlock = some b ∨ Ent raw was ys vs us b) → w'.heap[b]? = w.heap[b]?) : BkS w' k late bv raw was ys vs us := by
  have hkl := (Array.getElem?_eq_some_iff.1 h.row).1
  refine ⟨(hk _ hkl (.inl rfl)).trans h.row, rowKept h.bo fun g e => hk g (h.bo.lt g e).2 (.inr (.inl e)), rowKept h.ro fun g e => hk g (h.ro.lt g e).2 (.inr (.inr (.inl e))), rowKept h.wo fun g e => hk g (h.wo.lt g e).2 (.inr (.inr (.inr (.inl e)))), h.len, fun j u v h1 h2 => ?_, fun j v h1 => ?_⟩
  · obtain ⟨l1, l2, a, b, c⟩ := h.re j u v h1 h2
    exact ⟨l1, l2, a.keptIf fun g e hg => hk g hg (.inr (.inr (.inr (.inr ⟨v, .inr (.inl (List.mem_of_getElem? h1)), blockOf_own e⟩)))), b.keptIf fun g e hg => hk g hg (.inr (.inr (.inr (.inr ⟨u, .inr (.inr (List.mem_of_getElem? h2)), blockOf_own e⟩)))), c⟩
  · obtain ⟨m, a⟩ := h.le j v h1
    exact ⟨m, a.keptIf fun g e hg => hk g hg (.inr (.inr (.inr (.inr ⟨v, .inl (List.mem_of_getElem? h1), blockOf_own e⟩))))⟩
/-- keep, of a book that is not late -/
theorem keepS_any {w : World} {k n : Nat} {bv raw was v : Value} {ys vs us xs : List Value} (h : BkS w k false bv raw was ys vs us) (hev : ys.length % 2 = 0) (hv : w.ownsRow 0 62 1 v n xs) (hn : n ≤ 17592186044416) (hnl : ys.length ≤ 9000000000000)
    (hap : ∀ b, Ent raw was ys vs us b → b ≠ k ∧ bv.ownBlock ≠ some b ∧ v.ownBlock ≠ some b) :
    Calls Tryd.prog 35 #[.pointer (some ⟨k, 0, none⟩), v] w fun e w' => e = .returned (.tuple #[]) ∧ ∃ bv' gv, BkS w' k false bv' raw was (ys ++ [v, gv]) vs us ∧ Kp w w' k ys.length n bv v raw was ys bv' gv := by
  refine (keep_any ⟨h.row, h.bo⟩ hv hn hnl).mono ?_
  rintro e w' ⟨rfl, bv', gv, hK⟩
  have hk : ∀ b, b < w.heap.size → Ent raw was ys vs us b → w'.heap[b]? = w.heap[b]? := fun b hb he => hK.chg.keep b hb (by
    obtain ⟨h1, h2, h3⟩ := hap b he
    rintro (e | e | e)
    · exact h1 e
    · exact h2 e
    · exact h3 e)
  have hll : (ys ++ [v, gv]).length = ys.length + 2 := by simp
  refine ⟨rfl, bv', gv, ⟨hK.bk.row, by rw [hll]; exact hK.bk.bo, rowKept h.ro fun g e => hk g (h.ro.lt g e).2 (.inl e), rowKept h.wo fun g e => hk g (h.wo.lt g e).2 (.inr (.inl e)), h.len, fun j u x h1 h2 => ?_, fun j x h1 => ?_⟩, hK⟩
  · obtain ⟨l1, l2, a, b, c⟩ := h.re j u x h1 h2
    exact ⟨l1, l2, a.keptIf fun g e hg => hk g hg (.inr (.inr ⟨x, .inr (.inl (List.mem_of_getElem? h1)), blockOf_own e⟩)), b.keptIf fun g e hg => hk g hg (.inr (.inr ⟨u, .inr (.inr (List.mem_of_getElem? h2)), blockOf_own e⟩)), c⟩
  · by_cases hj : j < ys.length
    · rw [List.getElem?_append_left hj] at h1
      obtain ⟨m, a⟩ := h.le j x h1
      exact ⟨m, a.keptIf fun g e hg => hk g hg (.inr (.inr ⟨x, .inl (List.mem_of_getElem? h1), blockOf_own e⟩))⟩
    · rw [List.getElem?_append_right (by omega)] at h1
      have hc : j - ys.length = 0 ∨ j - ys.length = 1 ∨ 2 ≤ j - ys.length := by omega
      rcases hc with hc | hc | hc
      · rw [hc] at h1
        have e1 : v = x := by simpa using h1
        subst e1
        have e2 : j - j % 2 = ys.length := by omega
        exact ⟨n, by rw [e2]; exact hK.one⟩
      · rw [hc] at h1
        have e1 : gv = x := by simpa using h1
        subst e1
        have e2 : j - j % 2 = ys.length := by omega
        exact ⟨n + 80, by rw [e2]; exact hK.two⟩
      · rw [List.getElem?_eq_none (by simpa using hc)] at h1
        cases h1
/-- keep, of a late book -/
theorem keepLateS_any {w : World} {k : Nat} {bv raw was v : Value} {ys vs us : List Value} {l : List Nat} (h : BkS w k true bv raw was ys vs us) (hne : ∀ b, raw.ownBlock = some b → was.ownBlock ≠ some b) (hv : w.ownsRow 0 62 1 v l.length (l.map u64V)) (hw : WSl w v l)
    (hl : l.length ≤ 17592186044416) (hn : vs.length ≤ 9000000000000)
    (hap : ∀ b, (bv.ownBlock = some b ∨ ∃ x, (x ∈ ys ∨ x ∈ vs ∨ x ∈ us) ∧ x.ownBlock = some b) → b ≠ k ∧ raw.ownBlock ≠ some b ∧ was.ownBlock ≠ some b) :
    Calls Tryd.prog 35 #[.pointer (some ⟨k, 0, none⟩), v] w fun e w' => e = .returned (.tuple #[]) ∧ ∃ raw' was' u, BkS w' k true bv raw' was' ys (vs ++ [v]) (us ++ [u]) ∧ Lt w w' k bv raw was raw' was' v u vs us l := by
  have hlen := h.len
  refine (keepLate_any h.row h.ro h.wo hne hv hw hl hn (by omega)).mono ?_
  rintro e w' ⟨rfl, raw', was', u, hL⟩
  have hk : ∀ b, b < w.heap.size → (bv.ownBlock = some b ∨ ∃ x, (x ∈ ys ∨ x ∈ vs ∨ x ∈ us) ∧ x.ownBlock = some b) → w'.heap[b]? = w.heap[b]? := fun b hb he => hL.chg.keep b hb (by
    obtain ⟨h1, h2, h3⟩ := hap b he
    rintro (e | e | e)
    · exact h1 e
    · exact h2 e
    · exact h3 e)
  have hvk : ∀ b, v.ownBlock = some b → w'.heap[b]? = w.heap[b]? := fun b e => hL.chg.keep b (hv.lt b e).2 (by
    obtain ⟨cs, hcs⟩ := rowCells hv e
    rintro (e2 | e2 | e2)
    · exact neType hcs h.row (by decide) e2
    · obtain ⟨ds, hds⟩ := rowCells h.ro e2; exact neType hcs hds (by decide) rfl
    · obtain ⟨ds, hds⟩ := rowCells h.wo e2; exact neType hcs hds (by decide) rfl)
  refine ⟨rfl, raw', was', u, ⟨hL.row, rowKept h.bo fun g e => hk g (h.bo.lt g e).2 (.inl e), by rw [List.length_append]; exact hL.ro, by rw [List.length_append]; exact hL.wo, by simp [hlen], fun j y x h1 h2 => ?_, fun j x h1 => ?_⟩, hL⟩
  · by_cases hj : j < vs.length
    · rw [List.getElem?_append_left hj] at h1
      rw [List.getElem?_append_left (by omega)] at h2
      obtain ⟨l1, l2, a, b, c⟩ := h.re j y x h1 h2
      exact ⟨l1, l2, a.keptIf fun g e hg => hk g hg (.inr ⟨x, .inr (.inl (List.mem_of_getElem? h1)), blockOf_own e⟩), b.keptIf fun g e hg => hk g hg (.inr ⟨y, .inr (.inr (List.mem_of_getElem? h2)), blockOf_own e⟩), c⟩
    · rw [List.getElem?_append_right (by omega)] at h1 h2
      by_cases hc : j - vs.length = 0
      · rw [hc] at h1
        rw [hlen, hc] at h2
        have e1 : v = x := by simpa using h1
        have e2 : u = y := by simpa using h2
        subst e1 e2
        exact ⟨l, l, wsl_keep hw hvk, hL.ws, fun _ => rfl⟩
      · rw [List.getElem?_eq_none (by simp; omega)] at h1
        cases h1
  · obtain ⟨m, a⟩ := h.le j x h1
    exact ⟨m, a.keptIf fun g e hg => hk g hg (.inr ⟨x, .inl (List.mem_of_getElem? h1), blockOf_own e⟩)⟩
end Go.Proofs.YtglajdmkbckjjabDoor
namespace Go.Proofs.YtglajdmkbckjjabDoor
open Go.RowKit Go.Shelf
set_option linter.unusedVariables false
set_option linter.unusedSimpArgs false
set_option maxRecDepth 20000

/-- the book, and the blocks U that it lies in; of a late one each list is a row of its own, apart from the others -/
structure Bs (late : Bool) (w : World) (k : Nat) (U : Nat → Prop) (bv raw was : Value) (ys vs us : List Value) : Prop where
  s : BkS w k late bv raw was ys vs us
  ev : ys.length % 2 = 0
  uk : U k
  ub : ∀ b, bv.ownBlock = some b → U b
  ue : ∀ b, Ent raw was ys vs us b → U b
  lt : ∀ b, U b → b < w.heap.size
  rw : ∀ b, raw.ownBlock = some b → was.ownBlock ≠ some b
  br : ∀ b, bv.ownBlock = some b → raw.ownBlock ≠ some b ∧ was.ownBlock ≠ some b
  rk : ∀ b, (raw.ownBlock = some b ∨ was.ownBlock = some b) → b ≠ k
  en : ∀ x, (x ∈ ys ∨ x ∈ vs ∨ x ∈ us) → ∀ b, x.ownBlock = some b → b ≠ k ∧ bv.ownBlock ≠ some b ∧ raw.ownBlock ≠ some b ∧ was.ownBlock ≠ some b
  own : late = true → ∀ x ∈ vs, ∃ l : List Nat, w.ownsRow 0 62 1 x l.length (l.map u64V) ∧ l.length ≤ 17592186044416
  dis : late = true → ∀ (i j : Nat) (x y : Value), vs[i]? = some x → vs[j]? = some y → i ≠ j → ∀ b, x.ownBlock = some b → y.ownBlock ≠ some b
  dus : late = true → ∀ x ∈ vs, ∀ y ∈ us, ∀ b, x.ownBlock = some b → y.ownBlock ≠ some b
theorem Bs.kept {late : Bool} {w w' : World} {k : Nat} {U : Nat → Prop} {bv raw was : Value} {ys vs us : List Value} (h : Bs late w k U bv raw was ys vs us) (hs : w.heap.size ≤ w'.heap.size) (hk : ∀ b, U b → w'.heap[b]? = w.heap[b]?) : Bs late w' k U bv raw was ys vs us := by
  refine ⟨h.s.kept fun b _ hb => hk b ?_, h.ev, h.uk, h.ub, h.ue, fun b hb => Nat.lt_of_lt_of_le (h.lt b hb) hs, h.rw, h.br, h.rk, h.en, fun e x hx => ?_, h.dis, h.dus⟩
  · rcases hb with rfl | e | e
    · exact h.uk
    · exact h.ub b e
    · exact h.ue b e
  · obtain ⟨l, h1, h2⟩ := h.own e x hx
    exact ⟨l, rowKept h1 fun g hg => hk g (h.ue g (.inr (.inr ⟨x, .inr (.inl hx), hg⟩))), h2⟩
theorem Bs.chg {late : Bool} {V : Nat → Prop} {w w' : World} {k : Nat} {U : Nat → Prop} {bv raw was : Value} {ys vs us : List Value} (h : Bs late w k U bv raw was ys vs us) (hc : Chg V w w') (hV : ∀ b, U b → ¬ V b) : Bs late w' k U bv raw was ys vs us :=
  h.kept hc.size fun b hb => hc.keep b (h.lt b hb) (hV b hb)
/-- what keep has turned, and where the book lies now -/
def KpU (w w' : World) (U U' : Nat → Prop) (v : Value) : Prop := Chg (fun b => U b ∨ v.ownBlock = some b) w w' ∧ ∀ b, U' b → U b ∨ v.ownBlock = some b ∨ w.heap.size ≤ b
theorem keepB {w : World} {k n : Nat} {U : Nat → Prop} {bv raw was v : Value} {ys vs us xs : List Value} (h : Bs false w k U bv raw was ys vs us) (hv : w.ownsRow 0 62 1 v n xs) (hn : n ≤ 17592186044416) (hnl : ys.length ≤ 9000000000000) (hap : ∀ b, v.ownBlock = some b → ¬ U b) :
    Calls Tryd.prog 35 #[.pointer (some ⟨k, 0, none⟩), v] w fun e w' => e = .returned (.tuple #[]) ∧ ∃ U' bv' gv, Bs false w' k U' bv' raw was (ys ++ [v, gv]) vs us ∧ KpU w w' U U' v := by
  refine (keepS_any h.s h.ev hv hn hnl fun b he => ?_).mono ?_
  · refine ⟨?_, ?_, fun e => hap b e (h.ue b he)⟩
    · rcases he with e | e | ⟨x, hx, e⟩
      · exact h.rk b (.inl e)
      · exact h.rk b (.inr e)
      · exact (h.en x hx b e).1
    · intro e2
      rcases he with e | e | ⟨x, hx, e⟩
      · exact (h.br b e2).1 e
      · exact (h.br b e2).2 e
      · exact (h.en x hx b e).2.1 e2
  · rintro e w' ⟨rfl, bv', gv, hS, hK⟩
    have hsz := hK.chg.size
    have hnew : ∀ b, gv.ownBlock = some b ∨ bv'.ownBlock = some b → U b ∨ v.ownBlock = some b ∨ w.heap.size ≤ b := fun b hb => by
      rcases hb with e | e
      · rcases hK.gloc b e with h | h
        · exact .inr (.inl h)
        · exact .inr (.inr h)
      · rcases hK.bloc b e with h2 | h2
        · exact .inl (h.ub b h2)
        · exact .inr (.inr h2)
    have hold : ∀ b, U b → bv'.ownBlock = some b → bv.ownBlock = some b := fun b hu e => by
      rcases hK.bloc b e with h2 | h2
      · exact h2
      · have := h.lt b hu; omega
    refine ⟨rfl, fun b => U b ∨ v.ownBlock = some b ∨ gv.ownBlock = some b ∨ bv'.ownBlock = some b, bv', gv, ⟨hS, by simp [h.ev], .inl h.uk, fun b e => .inr (.inr (.inr e)), fun b e => ?_, fun b e => ?_, h.rw, fun b e => ⟨fun e2 => ?_, fun e2 => ?_⟩, h.rk, fun x hx b e => ?_, (fun e => by cases e), (fun e => by cases e), (fun e => by cases e)⟩, ?_, ?_⟩
    · rcases e with e | e | ⟨x, hx, e⟩
      · exact .inl (h.ue b (.inl e))
      · exact .inl (h.ue b (.inr (.inl e)))
      · rcases hx with hx | hx
        · rcases List.mem_append.1 hx with hx | hx
          · exact .inl (h.ue b (.inr (.inr ⟨x, .inl hx, e⟩)))
          · simp only [List.mem_cons, List.not_mem_nil, or_false] at hx
            rcases hx with rfl | rfl
            · exact .inr (.inl e)
            · exact .inr (.inr (.inl e))
        · exact .inl (h.ue b (.inr (.inr ⟨x, .inr hx, e⟩)))
    · rcases e with e | e | e | e
      · exact Nat.lt_of_lt_of_le (h.lt b e) hsz
      · exact (hK.gb b (.inl e)).2.2
      · exact (hK.gb b (.inr e)).2.2
      · exact (hK.bk.bo.lt b e).2
    · have hu := h.ue b (.inl e2)
      exact (h.br b (hold b hu e)).1 e2
    · have hu := h.ue b (.inr (.inl e2))
      exact (h.br b (hold b hu e)).2 e2
    · have hraw : ∀ b, (v.ownBlock = some b ∨ gv.ownBlock = some b) → raw.ownBlock ≠ some b ∧ was.ownBlock ≠ some b := fun b hb => by
        have key : U b → False := fun hu => by
          rcases hb with hb | hb
          · exact hap b hb hu
          · rcases hK.gloc b hb with h2 | h2
            · exact hap b h2 hu
            · have := h.lt b hu; omega
        exact ⟨fun e => key (h.ue b (.inl e)), fun e => key (h.ue b (.inr (.inl e)))⟩
      have hmem : (x ∈ ys ∨ x ∈ vs ∨ x ∈ us) ∨ x = v ∨ x = gv := by
        rcases hx with hx | hx
        · rcases List.mem_append.1 hx with hx | hx
          · exact .inl (.inl hx)
          · simp only [List.mem_cons, List.not_mem_nil, or_false] at hx
            exact .inr hx
        · exact .inl (.inr hx)
      rcases hmem with hx | rfl | rfl
      · obtain ⟨h1, h2, h3, h4⟩ := h.en x hx b e
        have hu := h.ue b (.inr (.inr ⟨x, hx, e⟩))
        exact ⟨h1, fun e2 => h2 (hold b hu e2), h3, h4⟩
      · exact ⟨(hK.gb b (.inl e)).2.1, (hK.gb b (.inl e)).1, (hraw b (.inl e)).1, (hraw b (.inl e)).2⟩
      · exact ⟨(hK.gb b (.inr e)).2.1, (hK.gb b (.inr e)).1, (hraw b (.inr e)).1, (hraw b (.inr e)).2⟩
    · exact hK.chg.mono fun b _ hb => by
        rcases hb with e | e | e
        · exact .inl (e ▸ h.uk)
        · exact .inl (h.ub b e)
        · exact .inr e
    · rintro b (e | e | e | e)
      · exact .inl e
      · exact .inr (.inl e)
      · exact hnew b (.inl e)
      · exact hnew b (.inr e)
theorem mem_snoc {x v : Value} {l : List Value} (h : x ∈ l ++ [v]) : x ∈ l ∨ x = v := by
  rcases List.mem_append.1 h with h | h
  · exact .inl h
  · exact .inr (by simpa using h)
theorem get_snoc {x v : Value} {l : List Value} {i : Nat} (h : (l ++ [v])[i]? = some x) : (i < l.length ∧ l[i]? = some x) ∨ (i = l.length ∧ x = v) := by
  by_cases hi : i < l.length
  · rw [List.getElem?_append_left hi] at h; exact .inl ⟨hi, h⟩
  · rw [List.getElem?_append_right (by omega)] at h
    by_cases hc : i - l.length = 0
    · rw [hc] at h
      exact .inr ⟨by omega, by simpa using h.symm⟩
    · rw [List.getElem?_eq_none (by simp; omega)] at h
      cases h
theorem keepLB {w : World} {k : Nat} {U : Nat → Prop} {bv raw was v : Value} {ys vs us : List Value} {l : List Nat} (h : Bs true w k U bv raw was ys vs us) (hv : w.ownsRow 0 62 1 v l.length (l.map u64V)) (hw : WSl w v l) (hl : l.length ≤ 17592186044416) (hn : vs.length ≤ 9000000000000) (hap : ∀ b, v.ownBlock = some b → ¬ U b) :
    Calls Tryd.prog 35 #[.pointer (some ⟨k, 0, none⟩), v] w fun e w' => e = .returned (.tuple #[]) ∧ ∃ U' raw' was' u, Bs true w' k U' bv raw' was' ys (vs ++ [v]) (us ++ [u]) ∧ KpU w w' U U' v := by
  have hbk : ∀ b, bv.ownBlock = some b → b ≠ k := fun b e => by
    obtain ⟨cs, hcs⟩ := rowCells h.s.bo e
    exact neType hcs h.s.row (by decide)
  refine (keepLateS_any h.s h.rw hv hw hl hn fun b he => ?_).mono ?_
  · rcases he with e | ⟨x, hx, e⟩
    · exact ⟨hbk b e, (h.br b e).1, (h.br b e).2⟩
    · exact ⟨(h.en x hx b e).1, (h.en x hx b e).2.2.1, (h.en x hx b e).2.2.2⟩
  · rintro e w' ⟨rfl, raw', was', u, hS, hL⟩
    have hsz := hL.chg.size
    have hkl := h.lt k h.uk
    have hro : ∀ b, U b → raw'.ownBlock = some b → raw.ownBlock = some b := fun b hu e => by
      rcases hL.rl b e with h2 | h2
      · exact h2
      · have := h.lt b hu; omega
    have hwo : ∀ b, U b → was'.ownBlock = some b → was.ownBlock = some b := fun b hu e => by
      rcases hL.wl b e with h2 | h2
      · exact h2
      · have := h.lt b hu; omega
    have hvl : ∀ b, v.ownBlock = some b → b < w.heap.size := fun b e => (hv.lt b e).2
    have hun : ∀ b, u.ownBlock = some b → ¬ U b := fun b e hu => by have := hL.ul b e; have := h.lt b hu; omega
    have hent : ∀ x, (x ∈ ys ∨ x ∈ vs ∨ x ∈ us) → ∀ b, x.ownBlock = some b → U b := fun x hx b e => h.ue b (.inr (.inr ⟨x, hx, e⟩))
    refine ⟨rfl, fun b => U b ∨ v.ownBlock = some b ∨ u.ownBlock = some b ∨ raw'.ownBlock = some b ∨ was'.ownBlock = some b, raw', was', u, ⟨hS, h.ev, .inl h.uk, fun b e => .inl (h.ub b e), fun b e => ?_, fun b e => ?_, hL.ne, fun b e => ⟨fun e2 => (h.br b e).1 (hro b (h.ub b e) e2), fun e2 => (h.br b e).2 (hwo b (h.ub b e) e2)⟩, fun b e => ?_, fun x hx b e => ?_, fun _ x hx => ?_, fun _ i j x y h1 h2 hij b e e2 => ?_, fun _ x hx y hy b e e2 => ?_⟩, ?_, ?_⟩
    · rcases e with e | e | ⟨x, hx, e⟩
      · exact .inr (.inr (.inr (.inl e)))
      · exact .inr (.inr (.inr (.inr e)))
      · rcases hx with hx | hx | hx
        · exact .inl (hent x (.inl hx) b e)
        · rcases mem_snoc hx with hx | rfl
          · exact .inl (hent x (.inr (.inl hx)) b e)
          · exact .inr (.inl e)
        · rcases mem_snoc hx with hx | rfl
          · exact .inl (hent x (.inr (.inr hx)) b e)
          · exact .inr (.inr (.inl e))
    · rcases e with e | e | e | e | e
      · exact Nat.lt_of_lt_of_le (h.lt b e) hsz
      · exact Nat.lt_of_lt_of_le (hvl b e) hsz
      · exact (hL.ub b e).2.2.2
      · exact (hL.ro.lt b e).2
      · exact (hL.wo.lt b e).2
    · rcases e with e | e
      · rcases hL.rl b e with h2 | h2
        · exact h.rk b (.inl h2)
        · omega
      · rcases hL.wl b e with h2 | h2
        · exact h.rk b (.inr h2)
        · omega
    · have old : (x ∈ ys ∨ x ∈ vs ∨ x ∈ us) → b ≠ k ∧ bv.ownBlock ≠ some b ∧ raw'.ownBlock ≠ some b ∧ was'.ownBlock ≠ some b := fun hx => by
        obtain ⟨h1, h2, h3, h4⟩ := h.en x hx b e
        have hu := hent x hx b e
        exact ⟨h1, h2, fun e2 => h3 (hro b hu e2), fun e2 => h4 (hwo b hu e2)⟩
      have newV : v.ownBlock = some b → b ≠ k ∧ bv.ownBlock ≠ some b ∧ raw'.ownBlock ≠ some b ∧ was'.ownBlock ≠ some b := fun ev => by
        have hnu := hap b ev
        have hlt := hvl b ev
        refine ⟨fun e2 => hnu (e2 ▸ h.uk), fun e2 => hnu (h.ub b e2), fun e2 => ?_, fun e2 => ?_⟩
        · rcases hL.rl b e2 with h2 | h2
          · exact hnu (h.ue b (.inl h2))
          · omega
        · rcases hL.wl b e2 with h2 | h2
          · exact hnu (h.ue b (.inr (.inl h2)))
          · omega
      rcases hx with hx | hx | hx
      · exact old (.inl hx)
      · rcases mem_snoc hx with hx | rfl
        · exact old (.inr (.inl hx))
        · exact newV e
      · rcases mem_snoc hx with hx | rfl
        · exact old (.inr (.inr hx))
        · obtain ⟨h1, h2, h3, h4⟩ := hL.ub b e
          exact ⟨h3, fun e2 => hun b e (h.ub b e2), h1, h2⟩
    · rcases mem_snoc hx with hx | rfl
      · obtain ⟨l', h1, h2⟩ := h.own rfl x hx
        refine ⟨l', rowKept h1 fun g hg => hL.chg.keep g (h1.lt g hg).2 ?_, h2⟩
        obtain ⟨n1, n2, n3, n4⟩ := h.en x (.inr (.inl hx)) g hg
        rintro (e | e | e)
        · exact n1 e
        · exact n3 e
        · exact n4 e
      · refine ⟨l, rowKept hv fun g hg => hL.chg.keep g (hvl g hg) ?_, hl⟩
        have hnu := hap g hg
        rintro (e | e | e)
        · exact hnu (e ▸ h.uk)
        · exact hnu (h.ue g (.inl e))
        · exact hnu (h.ue g (.inr (.inl e)))
    · rcases get_snoc h1 with ⟨i1, h3⟩ | ⟨i1, h3⟩
      · rcases get_snoc h2 with ⟨i2, h4⟩ | ⟨i2, h4⟩
        · exact h.dis rfl i j x y h3 h4 hij b e e2
        · exact hap b (h4 ▸ e2) (hent x (.inr (.inl (List.mem_of_getElem? h3))) b e)
      · rcases get_snoc h2 with ⟨i2, h4⟩ | ⟨i2, h4⟩
        · exact hap b (h3 ▸ e) (hent y (.inr (.inl (List.mem_of_getElem? h4))) b e2)
        · omega
    · rcases mem_snoc hx with hx | rfl
      · rcases mem_snoc hy with hy | rfl
        · exact h.dus rfl x hx y hy b e e2
        · exact hun b e2 (hent x (.inr (.inl hx)) b e)
      · rcases mem_snoc hy with hy | rfl
        · exact hap b e (hent y (.inr (.inr hy)) b e2)
        · have := hvl b e; have := hL.ul b e2; omega
    · exact hL.chg.mono fun b _ hb => by
        rcases hb with e | e | e
        · exact .inl (e ▸ h.uk)
        · exact .inl (h.ue b (.inl e))
        · exact .inl (h.ue b (.inr (.inl e)))
    · rintro b (e | e | e | e | e)
      · exact .inl e
      · exact .inr (.inl e)
      · exact .inr (.inr (hL.ul b e))
      · rcases hL.rl b e with h2 | h2
        · exact .inl (h.ue b (.inl h2))
        · exact .inr (.inr h2)
      · rcases hL.wl b e with h2 | h2
        · exact .inl (h.ue b (.inr (.inl h2)))
        · exact .inr (.inr h2)
end Go.Proofs.YtglajdmkbckjjabDoor
namespace Go.Proofs.YtglajdmkbckjjabDoor
open Go.RowKit Go.Shelf
set_option linter.unusedVariables false
set_option linter.unusedSimpArgs false
set_option maxRecDepth 20000

theorem Cp.rowL {N : Nat} {w : World} {v : Value} {l : List Nat} (h : Cp N w v l) (hm : l.length + 3 ≤ maxLen) : w.ownsRow 0 62 1 v l.length (l.map u64V) := by
  rcases h with ⟨rfl, rfl⟩ | ⟨g, rfl, hN, hg⟩
  · exact ⟨rfl, .inl ⟨rfl, rfl⟩⟩
  · refine ⟨by simp, .inr ⟨g, l.length + 3, _, rfl, Nat.zero_le _, hg, by omega, hm, by rw [cpRow_size]; omega, ?_⟩⟩
    have e := (Array.length_toList (xs := cpRow (l.length + 3) fun i => if i < l.length then l.getD i 0 else behindN)).trans (cpRow_size _ _)
    refine List.ext_getElem? fun i => ?_
    by_cases hi : i < l.length
    · have h1 := cpRow_get (len := l.length + 3) (i := i) (fun i => if i < l.length then l.getD i 0 else behindN) (by omega)
      rw [if_pos hi] at h1
      rw [List.getElem?_take_of_lt (by omega), Array.getElem?_toList, h1]
      simp [List.getD, hi, u64V]
    · rw [List.getElem?_eq_none (l := List.take _ _) (by rw [List.length_take, e]; omega), List.getElem?_eq_none (by simp; omega)]
/-- the book of either mode, in the blocks U; c lists were kept at most -/
def BkB (late : Bool) (w : World) (k : Nat) (U : Nat → Prop) (c : Nat) : Prop := ∃ bv raw was ys vs us, Bs late w k U bv raw was ys vs us ∧ ys.length + 2 * vs.length ≤ 2 * c ∧ (late = true → ys = [])
theorem BkB.lt {late : Bool} {w : World} {k c : Nat} {U : Nat → Prop} (h : BkB late w k U c) : ∀ b, U b → b < w.heap.size := by
  obtain ⟨_, _, _, _, _, _, h, _⟩ := h
  exact h.lt
theorem BkB.uk {late : Bool} {w : World} {k c : Nat} {U : Nat → Prop} (h : BkB late w k U c) : U k := by
  obtain ⟨_, _, _, _, _, _, h, _⟩ := h
  exact h.uk
theorem BkB.chg {late : Bool} {V : Nat → Prop} {w w' : World} {k c : Nat} {U : Nat → Prop} (h : BkB late w k U c) (hc : Chg V w w') (hV : ∀ b, U b → ¬ V b) : BkB late w' k U c := by
  obtain ⟨bv, raw, was, ys, vs, us, h, hl⟩ := h
  exact ⟨bv, raw, was, ys, vs, us, h.chg hc hV, hl⟩
theorem BkB.below {late : Bool} {w w' : World} {k c : Nat} {U : Nat → Prop} (h : BkB late w k U c) (hc : Below w.heap.size w w') : BkB late w' k U c := h.chg (V := fun _ => False) (Chg.ofBelow hc) fun _ _ e => e
theorem BkB.more {late : Bool} {w : World} {k c d : Nat} {U : Nat → Prop} (h : BkB late w k U c) (hd : c ≤ d) : BkB late w k U d := by
  obtain ⟨bv, raw, was, ys, vs, us, h, hl⟩ := h
  exact ⟨bv, raw, was, ys, vs, us, h, by omega, hl.2⟩
/-- what keep of either mode leaves -/
def KPB (late : Bool) (k c : Nat) (U : Nat → Prop) (x : World) (v : Value) (w' : World) : Prop := ∃ U', BkB late w' k U' (c + 1) ∧ KpU x w' U U' v
theorem keepAny {late : Bool} {w : World} {k c : Nat} {U : Nat → Prop} {v : Value} {l : List Nat} (h : BkB late w k U c) (hv : w.ownsRow 0 62 1 v l.length (l.map u64V)) (hw : WSl w v l) (hl : l.length ≤ 17592186044416) (hc : c ≤ 4000000000000) (hap : ∀ b, v.ownBlock = some b → ¬ U b) :
    Calls Tryd.prog 35 #[.pointer (some ⟨k, 0, none⟩), v] w fun e w' => e = .returned (.tuple #[]) ∧ KPB late k c U w v w' := by
  obtain ⟨bv, raw, was, ys, vs, us, h, hh, hy⟩ := h
  cases late with
  | false =>
    refine (keepB h hv hl (by omega) hap).mono ?_
    rintro e w' ⟨rfl, U', bv', gv, hB, hK⟩
    exact ⟨rfl, U', ⟨_, _, _, _, _, _, hB, by simp; omega, fun e => by cases e⟩, hK⟩
  | true =>
    refine (keepLB h hv hw hl (by omega) hap).mono ?_
    rintro e w' ⟨rfl, U', raw', was', u, hB, hK⟩
    exact ⟨rfl, U', ⟨_, _, _, _, _, _, hB, by simp; omega, hy⟩, hK⟩
end Go.Proofs.YtglajdmkbckjjabDoor
namespace Go.Proofs.YtglajdmkbckjjabDoor
open Go.RowKit Go.Shelf
set_option linter.unusedVariables false
set_option linter.unusedSimpArgs false
set_option maxRecDepth 20000

/-- what Decode says: the words, the place, the error -/
def dAn (n : Int) (c : List Nat) : List Nat × Nat × Nat := if 1 ≤ n ∧ n ≤ 65536 then (match dOut n.toNat c with | (some B, _) => (wds B (nW n.toNat), 0, 0) | (none, p) => ([], p, 31)) else ([], 0, 1)
/-- an answer of the program's: own words in new memory -/
def PAns (x : World) (q : List Nat × Nat × Nat) (e : Ending) (w' : World) : Prop := ∃ av, e = .returned (.tuple #[av, .int .i64 ((q.2.1 : Nat) : Int), .int .i64 ((q.2.2 : Nat) : Int)]) ∧ w'.ownsRow 0 62 1 av q.1.length (q.1.map u64V) ∧ WSl w' av q.1 ∧ Below x.heap.size x w' ∧ ∀ b, av.ownBlock = some b → x.heap.size ≤ b
/-- an answer of the document's: words in new memory -/
def DAns (x : World) (q : List Nat × Nat × Nat) (e : Ending) (w' : World) : Prop := ∃ bv, e = .returned (.tuple #[bv, .int .i64 ((q.2.1 : Nat) : Int), .int .i64 ((q.2.2 : Nat) : Int)]) ∧ WSl w' bv q.1 ∧ Below x.heap.size x w' ∧ ∀ b, blockOf bv = some b → x.heap.size ≤ b ∧ b < w'.heap.size
theorem wsl_lt {w : World} {v : Value} {l : List Nat} (h : WSl w v l) (h0 : 0 < l.length) : ∀ b, blockOf v = some b → b < w.heap.size := fun b e => by
  obtain ⟨a, cap, rfl, _, _, _, _, h5⟩ := h
  obtain ⟨g, off, rfl, hc⟩ := h5 h0
  simp [blockOf] at e
  subst e
  exact World.block_lt_of_cell? w _ (hc 0 h0)
theorem wsl_nil (w : World) : WSl w (.slice none 0 0) [] := ⟨none, 0, rfl, Nat.le_refl _, by unfold maxLen; omega, fun _ => rfl, by simp, by simp⟩
theorem own_nil (w : World) : w.ownsRow 0 62 1 (.slice none 0 0) ([] : List Nat).length (([] : List Nat).map u64V) := ⟨rfl, .inl ⟨rfl, rfl⟩⟩
theorem dAn_len (n : Int) (c : List Nat) : (dAn n c).1.length ≤ 1024 := by
  unfold dAn
  split
  · rename_i h
    split
    · show (wds _ _).length ≤ 1024
      rw [wds_len]
      unfold nW
      omega
    · simp
  · simp
theorem decode_all {x : World} {cv : Value} {c : List Nat} (n : Int) (hc : CSl x cv c) (hl : c.length ≤ 140737488351232) : Calls Tryd.prog 12 #[.int .i64 n, cv] x (PAns x (dAn n c)) := by
  unfold dAn
  by_cases h : 1 ≤ n ∧ n ≤ 65536
  · rw [if_pos h]
    obtain ⟨m, rfl⟩ : ∃ m : Nat, n = (m : Int) := ⟨n.toNat, by omega⟩
    rw [Int.toNat_natCast]
    refine (decode_any (by omega) (by omega) hc (by omega)).mono fun e w' hq => ?_
    cases hd : dOut m c with
    | mk o p =>
      rw [hd] at hq
      cases o with
      | some B =>
        obtain ⟨v', rfl, h1, h2, -, h4⟩ := hq
        refine ⟨v', rfl, ?_, h2, h4, fun b e => (h1.lt b e).1⟩
        show w'.ownsRow 0 62 1 v' (wds B (nW m)).length _
        rw [wds_len]
        exact own_low h1 (Nat.zero_le _)
      | none =>
        obtain ⟨rfl, h4⟩ := hq
        exact ⟨_, rfl, own_nil _, wsl_nil _, h4, fun b e => by simp [Value.ownBlock] at e⟩
  · rw [if_neg h]
    refine (decode_no n cv h).mono fun e w' hq => ?_
    obtain ⟨rfl, h4⟩ := hq
    exact ⟨_, rfl, own_nil _, wsl_nil _, h4, fun b e => by simp [Value.ownBlock] at e⟩
theorem rdecode_all {x : World} {cv : Value} {c : List Nat} (n : Int) (hc : CSl x cv c) (hl : c.length ≤ 140737488351232) : Calls Tryd.prog 51 #[.int .i64 n, cv] x (DAns x (dAn n c)) := by
  unfold dAn
  by_cases h : 1 ≤ n ∧ n ≤ 65536
  · rw [if_pos h]
    obtain ⟨m, rfl⟩ : ∃ m : Nat, n = (m : Int) := ⟨n.toNat, by omega⟩
    rw [Int.toNat_natCast]
    refine (rdecode_any (by omega) (by omega) hc (by omega)).mono fun e w' hq => ?_
    cases hd : dOut m c with
    | mk o p =>
      rw [hd] at hq
      cases o with
      | some B =>
        obtain ⟨v', rfl, h1, h2, h3⟩ := hq
        exact ⟨v', rfl, h1, h2, fun b e => ⟨h3 b e, wsl_lt h1 (by rw [wds_len]; unfold nW; omega) b e⟩⟩
      | none =>
        obtain ⟨rfl, h4⟩ := hq
        exact ⟨_, rfl, wsl_nil _, h4, fun b e => by simp [blockOf] at e⟩
  · rw [if_neg h]
    have hcv : ∃ a m k, cv = .slice a m k := by obtain ⟨a, cap, rfl, -⟩ := hc; exact ⟨_, _, _, rfl⟩
    refine (rdecode_no n cv hcv h).mono fun e w' hq => ?_
    obtain ⟨rfl, hw⟩ := hq
    rw [hw]
    exact ⟨_, rfl, wsl_nil _, Below.refl _ _, fun b e => by simp [blockOf] at e⟩
end Go.Proofs.YtglajdmkbckjjabDoor
namespace Go.Proofs.YtglajdmkbckjjabDoor
open Go.RowKit Go.Shelf
set_option linter.unusedVariables false
set_option linter.unusedSimpArgs false
set_option maxRecDepth 20000

/-- a struct's box, read in any world that keeps it -/
def Bx (w : World) (b : Nat) (n m : Int) (wv ov cv hv : Value) : Prop := w.cell? ⟨b, 0, none⟩ = some (.int .i64 n) ∧ w.cell? ⟨b, 1, none⟩ = some (.int .i64 m) ∧ w.cell? ⟨b, 2, none⟩ = some wv ∧ w.cell? ⟨b, 3, none⟩ = some ov ∧ w.cell? ⟨b, 4, none⟩ = some cv ∧ w.cell? ⟨b, 5, none⟩ = some hv
theorem bx_of {w x : World} {n m : Int} {wv ov cv hv : Value} (hx : Below (w.alloc (.cells #[.int .i64 n, .int .i64 m, wv, ov, cv, hv] 54)).heap.size (w.alloc (.cells #[.int .i64 n, .int .i64 m, wv, ov, cv, hv] 54)) x) : Bx x w.heap.size n m wv ov cv hv := by
  have hr := (hx.block w.heap.size (by rw [World.size_alloc]; omega)).trans (Go.heap_alloc_new w (.cells #[.int .i64 n, .int .i64 m, wv, ov, cv, hv] 54))
  refine ⟨?_, ?_, ?_, ?_, ?_, ?_⟩ <;> (rw [cell_of_row _ _ _ _ _ _ hr]; rfl)
/-- the first k of a list are those of its turned-round one -/
def rvd (l : List Nat) (k : Nat) : List Nat := l.reverse.take k ++ l.drop k
theorem rvd_zero (l : List Nat) : rvd l 0 = l := by simp [rvd]
theorem rvd_end (l : List Nat) : rvd l l.length = l.reverse := by
  unfold rvd
  rw [List.drop_length, List.append_nil, List.take_of_length_le (by simp)]
theorem rvd_len (l : List Nat) (k : Nat) (h : k ≤ l.length) : (rvd l k).length = l.length := by simp [rvd]; omega
theorem rvd_set (l : List Nat) (k : Nat) (h : k < l.length) : (rvd l k).set k (l.getD (l.length - 1 - k) 0) = rvd l (k + 1) := by
  unfold rvd
  have h1 : (l.reverse.take k).length = k := by simp; omega
  have hr : l.reverse[k]? = some (l.getD (l.length - 1 - k) 0) := by
    rw [List.getElem?_reverse h]
    simp [List.getD, show l.length - 1 - k < l.length by omega]
  rw [List.set_append_right _ _ (by omega), h1, Nat.sub_self, List.drop_eq_getElem_cons h, List.set_cons_zero, List.take_add_one, hr]
  simp
theorem rvd_mem {l : List Nat} {k x : Nat} (h : x ∈ rvd l k) : x ∈ l := by
  rcases List.mem_append.1 h with h | h
  · exact List.mem_reverse.1 (List.mem_of_mem_take h)
  · exact List.mem_of_mem_drop h
theorem cp_set {N g m k x : Nat} {w : World} {l : List Nat} (h : Cp N w (.slice (some ⟨g, 0, none⟩) l.length (l.length + 3)) l) (hk : k < l.length) : w.frozen? ⟨g, k, none⟩ = false ∧ (∃ y, w.cell? ⟨g, k, none⟩ = some (.int .u64 ((y : Nat) : Int))) ∧ Cp N (w.setCell ⟨g, k, none⟩ (.int .u64 (x : Int))) (.slice (some ⟨g, 0, none⟩) l.length (l.length + 3)) (l.set k x) := by
  rcases h with ⟨h, -⟩ | ⟨g', e, hN, hg⟩
  · simp at h
  · simp at e
    subst e
    refine ⟨frozen_of_row _ _ _ _ _ hg, ⟨_, by rw [cell_of_row _ _ _ _ _ _ hg, cpRow_get _ (by omega)]⟩, .inr ⟨g, by rw [List.length_set], hN, ?_⟩⟩
    rw [List.length_set, Go.heap_setCell_same _ _ k _ 62 _ hg]
    congr 2
    refine cpRow_set (by omega) (by simp [hk, List.getD]) fun i hi hne => ?_
    simp [List.getD, List.getElem?_set_ne (Ne.symm hne)]
theorem bo_set {N g k x : Nat} {w : World} {l : List Nat} (h : Bo N w (.slice (some ⟨g, 0, none⟩) l.length (l.length + 3)) l) (hk : k < l.length) : w.frozen? ⟨g, k, none⟩ = false ∧ (∃ y, w.cell? ⟨g, k, none⟩ = some (.int .u8 ((y : Nat) : Int))) ∧ Bo N (w.setCell ⟨g, k, none⟩ (.int .u8 (x : Int))) (.slice (some ⟨g, 0, none⟩) l.length (l.length + 3)) (l.set k x) := by
  obtain ⟨g', e, hN, hg⟩ := h
  simp at e
  subst e
  refine ⟨frozen_of_row _ _ _ _ _ hg, ⟨_, by rw [cell_of_row _ _ _ _ _ _ hg, bpRow_get _ (by omega)]⟩, ⟨g, by rw [List.length_set], hN, ?_⟩⟩
  rw [List.length_set, Go.heap_setCell_same _ _ k _ 5 _ hg]
  congr 2
  refine bpRow_set (by omega) (by simp [hk, List.getD]) fun i hi hne => ?_
  simp [List.getD, List.getElem?_set_ne (Ne.symm hne)]
theorem Cp.open {N : Nat} {w : World} {v : Value} {l : List Nat} (h : Cp N w v l) (hl : l.length ≤ 17592186044416) : ∃ a c, v = .slice a l.length c ∧ l.length ≤ c ∧ c ≤ 9223372036854775807 ∧ (0 < l.length → ∃ g, a = some ⟨g, 0, none⟩ ∧ c = l.length + 3 ∧ N ≤ g) := by
  rcases h with ⟨rfl, rfl⟩ | ⟨g, rfl, hN, hg⟩
  · exact ⟨none, 0, rfl, Nat.le_refl _, by omega, fun h => by simp at h⟩
  · exact ⟨_, _, rfl, by omega, by omega, fun _ => ⟨g, rfl, rfl, hN⟩⟩
set_option maxHeartbeats 4000000 in
theorem turned_law {w : World} {wv ov cv hv : Value} {lw c : List Nat} (n m : Int) (hT : TabAt w) (hw : WSl w wv lw) (hwl : lw.length ≤ 17592186044416) (hc : CSl w cv c) (hcl : c.length ≤ 140737488351232) :
    Calls Tryd.prog 23 #[.agg #[.int .i64 n, .int .i64 m, wv, ov, cv, hv]] w fun e w' => e = .returned (.bool true) ∧ Below w.heap.size w w' := by
  obtain ⟨w0, hw0⟩ : ∃ w0, w.alloc (.cells #[.int .i64 n, .int .i64 m, wv, ov, cv, hv] 54) = w0 := ⟨_, rfl⟩
  have hbw : Below w.heap.size w w0 := by rw [← hw0]; exact (Below.refl _ _).alloc (Nat.le_refl _) _
  have HX : Hid (∀ x, Below w0.heap.size w0 x → Bx x w.heap.size n m wv ov cv hv) := hide fun x hx => by rw [← hw0] at hx; exact bx_of hx
  have HBW : Hid (∀ x, Below w0.heap.size w0 x → Below w.heap.size w x) := hide fun x hx => hbw.trans (hx.mono hbw.size)
  have HW : Hid (∀ x, Below w0.heap.size w0 x → WSl x wv lw) := hide fun x hx => hw.below (HBW.out x hx)
  have HC : Hid (∀ x, Below w0.heap.size w0 x → CSl x cv c) := hide fun x hx => hc.blk (HBW.out x hx)
  have HT : Hid (∀ x, Below w0.heap.size w0 x → TabAt x) := hide fun x hx => hT.below (HBW.out x hx)
  have HWL := hide hwl
  have HCL := hide hcl
  have HWLT := hide hw.lt
  have HCLT := hide hc.lt
  obtain ⟨q1, hq1⟩ := eans_ex n lw
  obtain ⟨q2, hq2⟩ := eans_ex n lw.reverse
  have HQ1 := hide hq1
  have HQ2 := hide hq2
  obtain ⟨b0, b1, b2, b3, b4, b5⟩ := HX.out _ (Below.refl _ _)
  obtain ⟨wa, wcap, rfl, -⟩ := hw
  obtain ⟨ca, ccap, rfl, -⟩ := hc
  have HB0 := hide (Below.refl w0.heap.size w0)
  clear hq1 hq2 hT hbw hwl hcl
  go_enter Tryd.func23, Tryd.ntmps23
  go_wp2_with (first
    | (go_at_call 10; refine (copied_full (HW.out _ HB0.out) HWL.out).mono ?_; rintro e w1 ⟨v', rfl, -, hcp, -, hb⟩; have HB1 := hide hb; have HCP := hide hcp; have HE1 := hide (encode_all HQ1.out (HT.out _ hb) (hcp.wsl HWLT.out (by have := HWL.out; unfold maxLen; omega))); obtain ⟨c0, c1, c2, c3, c4, c5⟩ := HX.out _ hb; clear hb hcp b0 b1 b2 b3 b4 b5 HB0)
    | (go_at_call 9; refine HE1.out.mono ?_; clear HE1; rintro e w2 ⟨av, rfl, -, hb, -⟩; have HB2 := hide (HB1.out.trans (hb.mono HB1.out.size)); have HCP2 := hide (HCP.out.below hb); obtain ⟨ia, icap, hiv, hi1, hi2, hi3⟩ := HCP.out.open HWL.out; have HI3 := hide hi3; subst hiv; obtain ⟨d0, d1, d2, d3, d4, d5⟩ := HX.out _ HB2.out; clear hb HCP HB1 c0 c1 c2 c3 c4 c5))
  obtain ⟨len, hlen⟩ : ∃ len, lw.length = len := ⟨_, rfl⟩
  have HLEN := hide hlen
  rw [hlen] at HCP2 HI3 hi1 d2 ⊢
  have hwlen : len ≤ 17592186044416 := by rw [← hlen]; exact HWL.out
  clear hlen hi3
  go_loopw [4] (fun y wr => ∃ k : Nat, k ≤ len ∧ y = .int .i64 (k : Int) ∧ Hid (Below w0.heap.size w0 wr) ∧ Hid (Cp w0.heap.size wr (.slice ia len icap) (rvd lw k))) (fun y _ => len - (intOf y).toNat)
  case atStart => exact ⟨0, Nat.zero_le _, rfl, HB2, hide (by rw [rvd_zero]; exact HCP2.out)⟩
  case round =>
    clear HCP2 HB2 d0 d1 d2 d3 d4 d5
    obtain ⟨k, hk, rfl, HB2, HCP2⟩ := hrel
    obtain ⟨d0, d1, d2, d3, d4, d5⟩ := HX.out _ HB2.out
    rw [HLEN.out] at d2
    by_cases hlt : k < len
    · have hli : (k : Int) < (len : Int) := by omega
      obtain ⟨g, rfl, rfl, hg0⟩ := HI3.out (by omega)
      have hrl := rvd_len lw k (by rw [HLEN.out]; exact hk)
      rw [HLEN.out] at hrl
      have hcp := HCP2.out
      rw [← hrl] at hcp
      obtain ⟨J, hJ⟩ : ∃ J, len - 1 - k = J := ⟨_, rfl⟩
      obtain ⟨kf, ⟨y, ky⟩, hcp2⟩ := cp_set (x := lw.getD J 0) (k := k) (m := 0) hcp (by omega)
      have hset := rvd_set lw k (by rw [HLEN.out]; exact hlt)
      rw [HLEN.out, hJ] at hset
      rw [hset, hrl] at hcp2
      have HN := hide hcp2
      obtain ⟨wa', wcap', e, hw1, hw2, -, hw4, hw5⟩ := HW.out _ HB2.out
      injection e with e1 e2 e3
      subst e1 e3
      obtain ⟨b, off, rfl, hcell⟩ := hw5 (by rw [HLEN.out]; omega)
      have hcj := hcell J (by rw [HLEN.out]; omega)
      have hxl := (HW.out _ HB2.out).getLt J
      rw [HLEN.out] at hw1
      unfold maxLen at hw2
      have HB3 := hide (HB2.out.setCell (p := ⟨g, k, none⟩) hg0 (.int .u64 ((lw.getD J 0 : Nat) : Int)))
      have hji : (len : Int) - 1 - (k : Int) = (J : Int) := by omega
      have hj1 : (len : Int) - 1 = ((len - 1 : Nat) : Int) := by omega
      have hjl : (J : Int) < (len : Int) := by omega
      have hj0 : (0 : Int) ≤ (J : Int) := by omega
      clear hcp hcp2 hset HCP2 HB2 hcell hw4 hw5 e2 hJ hrl hj1
      generalize lw.getD J 0 = x at *
      go_wp2_with fail
      go_roundw
      case rel => exact ⟨k + 1, by omega, by go_num, HB3, HN⟩
      case measure => simp [intOf]; omega
    · have ek : k = len := by omega
      subst ek
      have hli : ¬ (k : Int) < (k : Int) := by omega
      have hcp := HCP2.out
      rw [← HLEN.out, rvd_end] at hcp
      have hws : WSl wr (.slice ia lw.length icap) lw.reverse := hcp.wsl (fun b hb => HWLT.out b (List.mem_reverse.1 hb)) (by rw [List.length_reverse, HLEN.out]; unfold maxLen; omega)
      rw [HLEN.out] at hws
      have HWS := hide hws
      have HEN := hide (encode_all HQ2.out (HT.out _ HB2.out) hws)
      clear hcp HCP2 hws HI3 hi1 hi2
      generalize q2 = q at *
      obtain ⟨lq, rq⟩ := q
      unfold PEn at HEN
      dsimp only at HEN
      go_wp2_with (first
        | (go_at_call 9; refine HEN.out.mono ?_; clear HEN; rintro e w4 ⟨av2, rfl, ho, hb, -⟩; have HA4 := hide (own_csl ho HQ2.out.lt); have HB4 := hide (HB2.out.trans (hb.mono HB2.out.size)); obtain ⟨f0, f1, f2, f3, f4, f5⟩ := HX.out _ HB4.out; have HDE := hide (rencode_all HQ2.out (HWS.out.below hb)); clear ho hb d0 d1 d2 d3 d4 d5)
        | (go_at_call 17; refine HDE.out.mono ?_; clear HDE; rintro e w5 ⟨bv, rfl, hs, hb, hz⟩; have HA5 := hide (HA4.out.blk hb); have HD5 := hide hs; have HB5 := hide (HB4.out.trans (hb.mono HB4.out.size)); have HBY := hide (bytesOf_any (HC.out _ HB5.out) HCL.out); obtain ⟨d0, d1, d2, d3, d4, d5⟩ := HX.out _ HB5.out; clear hs hb hz HA4 f0 f1 f2 f3 f4 f5)
        | (go_at_call 14; refine HBY.out.mono ?_; clear HBY; rintro e w6 ⟨v6, rfl, hbo, hb⟩; have HBO6 := hide hbo; have HB6 := hide hb; have HB06 := hide (HB5.out.trans (hb.mono HB5.out.size)); have HDC := hide (decode_all n (hbo.csl HCL.out HCLT.out) HCL.out); obtain ⟨f0, f1, f2, f3, f4, f5⟩ := HX.out _ HB06.out; clear hbo hb d0 d1 d2 d3 d4 d5)
        | (go_at_call 12; refine HDC.out.mono ?_; clear HDC; rintro e w7 ⟨av7, rfl, -, -, hb, -⟩; obtain ⟨g6, hg6, hg60, hg6h⟩ := HBO6.out; have HG6 := hide hg60; have HBO7 : Hid (Bo w5.heap.size w7 v6 c) := hide ⟨g6, hg6, hg60, (hb.block _ (Array.getElem?_eq_some_iff.1 hg6h).1).trans hg6h⟩; have HB57 := hide (HB6.out.trans (hb.mono HB6.out.size)); clear hb hg60 hg6h HBO6 HB6 HB06 f0 f1 f2 f3 f4 f5; subst hg6))
      obtain ⟨lc, hlc⟩ : ∃ lc, c.length = lc := ⟨_, rfl⟩
      have HLC := hide hlc
      rw [hlc] at HBO7 ⊢
      have hclen : lc ≤ 140737488351232 := by rw [← hlc]; exact HCL.out
      clear hlc
      go_loopw [10] (fun y wr => ∃ k : Nat, k ≤ lc ∧ y = .int .i64 (k : Int) ∧ Hid (Below w5.heap.size w5 wr) ∧ Hid (Bo w5.heap.size wr (.slice (some ⟨g6, 0, none⟩) lc (lc + 3)) (rvd c k))) (fun y _ => lc - (intOf y).toNat)
      case atStart => exact ⟨0, Nat.zero_le _, rfl, HB57, hide (by rw [rvd_zero]; exact HBO7.out)⟩
      case round =>
        clear HBO7 HB57
        obtain ⟨j, hj, rfl, HB57, HBO7⟩ := hrel
        have HB07 := hide (HB5.out.trans (HB57.out.mono HB5.out.size))
        obtain ⟨d0, d1, d2, d3, d4, d5⟩ := HX.out _ HB07.out
        rw [HLC.out] at d4
        by_cases hlt : j < lc
        · have hli : (j : Int) < (lc : Int) := by omega
          have hrl := rvd_len c j (by rw [HLC.out]; exact hj)
          rw [HLC.out] at hrl
          have hbo := HBO7.out
          rw [← hrl] at hbo
          obtain ⟨J, hJ⟩ : ∃ J, lc - 1 - j = J := ⟨_, rfl⟩
          obtain ⟨kf, ⟨y, ky⟩, hbo2⟩ := bo_set (x := c.getD J 0) (k := j) hbo (by omega)
          have hset := rvd_set c j (by rw [HLC.out]; exact hlt)
          rw [HLC.out, hJ] at hset
          rw [hset, hrl] at hbo2
          have HN := hide hbo2
          obtain ⟨ca', ccap', e, hc1, hc2, hc3, hc4⟩ := HC.out _ HB07.out
          injection e with e1 e2 e3
          subst e1 e3
          obtain ⟨b, off, rfl, hcell⟩ := hc4 (by rw [HLC.out]; omega)
          have hcj := hcell J (by rw [HLC.out]; omega)
          have hxl := (HC.out _ HB07.out).getLt8 J
          rw [HLC.out] at hc1
          unfold maxLen at hc2
          have HB8 := hide (HB57.out.setCell (p := ⟨g6, j, none⟩) HG6.out (.int .u8 ((c.getD J 0 : Nat) : Int)))
          have hji : (lc : Int) - 1 - (j : Int) = (J : Int) := by omega
          have hjl : (J : Int) < (lc : Int) := by omega
          have hj0 : (0 : Int) ≤ (J : Int) := by omega
          clear hbo hbo2 hset HBO7 HB57 HB07 hcell hc3 hc4 e2 hJ hrl
          generalize c.getD J 0 = x at *
          go_wp2_with fail
          go_roundw
          case rel => exact ⟨j + 1, by omega, by go_num, HB8, HN⟩
          case measure => simp [intOf]; omega
        · have ek : j = lc := by omega
          subst ek
          have hli : ¬ (j : Int) < (j : Int) := by omega
          have hbo := HBO7.out
          rw [← HLC.out, rvd_end, ← List.length_reverse] at hbo
          have hcs : CSl wr (.slice (some ⟨g6, 0, none⟩) c.reverse.length (c.reverse.length + 3)) c.reverse := hbo.csl (by rw [List.length_reverse]; exact HCL.out) (fun b hb => HCLT.out b (List.mem_reverse.1 hb))
          rw [List.length_reverse, HLC.out] at hcs
          have HCS := hide hcs
          have HDC := hide (decode_all n hcs (by rw [List.length_reverse]; exact HCL.out))
          have HA8 := hide (HA5.out.blk HB57.out)
          have HD8 := hide (HD5.out.blk HB57.out)
          clear hbo HBO7 hcs HA5 HD5
          obtain ⟨qd, hqd⟩ : ∃ q, dAn n c.reverse = q := ⟨_, rfl⟩
          have HRD := hide fun (x : World) (hx : CSl x (.slice (some ⟨g6, 0, none⟩) j (j + 3)) c.reverse) => rdecode_all n hx (by rw [List.length_reverse]; exact HCL.out)
          rw [hqd] at HDC
          rw [hqd] at HRD
          clear hqd
          obtain ⟨l1, p1, r1⟩ := qd
          unfold PAns at HDC
          unfold DAns at HRD
          dsimp only at HDC HRD
          go_wp2_with (first
            | (go_at_call 12; refine HDC.out.mono ?_; clear HDC; rintro e w9 ⟨av9, rfl, -, hs, hb, -⟩; have HA9 := hide hs; have HB09 := hide (HB07.out.trans (hb.mono HB07.out.size)); have HAA9 := hide (HA8.out.blk hb); have HDD9 := hide (HD8.out.blk hb); have HR9 := hide (HRD.out _ (HCS.out.blk hb)); obtain ⟨f0, f1, f2, f3, f4, f5⟩ := HX.out _ HB09.out; clear hs hb HRD HCS HA8 HD8 d0 d1 d2 d3 d4 d5)
            | (go_at_call 51; refine HR9.out.mono ?_; clear HR9; rintro e w10 ⟨dv, rfl, hs, hb, -⟩; have HA10 := hide (HA9.out.below hb); have HD10 := hide hs; have HB10 := hide (HB09.out.trans (hb.mono HB09.out.size)); have HSB := hide (sameB_eq (HAA9.out.blk hb) (HDD9.out.blk hb)); clear hs hb HA9 HAA9 HDD9 f0 f1 f2 f3 f4 f5)
            | (go_at_call 19; refine HSB.out.mono ?_; clear HSB; rintro e w11 ⟨rfl, hb⟩; have HB11 := hide (HB10.out.trans (hb.mono HB10.out.size)); have HSW := hide ((sameWords_any (HA10.out.below hb) (HD10.out.below hb)).mono fun e w' h => (⟨h.1.trans (by simp), h.2.2⟩ : e = .returned (.bool true) ∧ Below w11.heap.size w11 w')); clear hb HA10 HD10)
            | (go_at_call 13; refine HSW.out.mono ?_; clear HSW; rintro e w12 ⟨rfl, hb⟩; have HB12 := hide (HBW.out _ (HB11.out.trans (hb.mono HB11.out.size))); clear hb))
          all_goals
            go_ret
            exact ⟨by simp, HB12.out⟩
end Go.Proofs.YtglajdmkbckjjabDoor
namespace Go.Proofs.YtglajdmkbckjjabDoor
open Go.RowKit Go.Shelf
set_option linter.unusedVariables false
set_option linter.unusedSimpArgs false
set_option maxRecDepth 20000

/-- three answers in a list of lists: as they came (V0) and as they have grown (V) -/
structure Gr (w0 w : World) (gl S : Nat) (V0 V : Nat → Value) (n : Nat → Nat) (L : Nat → List Nat) : Prop where
  bel : Below w0.heap.size w0 w
  box : w.heap[gl]? = some (.cells #[V 0, V 1, V 2] 23 (0, 0))
  own : ∀ k, k < 3 → w.ownsRow 0 5 1 (V k) (L k).length ((L k).map byV)
  len : ∀ k, k < 3 → n k ≤ (L k).length ∧ ∀ x ∈ L k, x < 256
  base : ∀ k, k < 3 → CSl w (V0 k) ((L k).take (n k))
  loc : ∀ k, k < 3 → ∀ b, (V k).ownBlock = some b → w0.heap.size ≤ b ∧ b ≠ gl ∧ ((V0 k).ownBlock = some b ∨ S ≤ b)
  ap : ∀ j k, j < 3 → k < 3 → j ≠ k → ∀ b, (V j).ownBlock = some b → (V k).ownBlock ≠ some b
  lt0 : ∀ k, k < 3 → ∀ b, (V0 k).ownBlock = some b → b < S ∧ b ≠ gl
  ap0 : ∀ j k, j < 3 → k < 3 → j ≠ k → ∀ b, (V0 j).ownBlock = some b → (V0 k).ownBlock ≠ some b
  sS : S ≤ w.heap.size
  gl0 : w0.heap.size ≤ gl
  shp : ∀ k, k < 3 → ∃ a c, V0 k = .slice a (n k) c ∧ n k ≤ c ∧ c ≤ maxLen ∧ (∀ p, a = some p → ∃ g, p = ⟨g, 0, none⟩)
theorem Gr.cell {w0 w : World} {gl S : Nat} {V0 V : Nat → Value} {n : Nat → Nat} {L : Nat → List Nat} (h : Gr w0 w gl S V0 V n L) {i : Nat} (hi : i < 3) : w.cell? ⟨gl, i, none⟩ = some (V i) ∧ w.frozen? ⟨gl, i, none⟩ = false := by
  refine ⟨?_, frozen_of_row _ _ _ _ _ h.box⟩
  rw [cell_of_row _ _ _ _ _ _ h.box]
  have : i = 0 ∨ i = 1 ∨ i = 2 := by omega
  rcases this with rfl | rfl | rfl <;> rfl
theorem own_block {v : Value} {b : Nat} (h : blockOf v = some b) : v.ownBlock = some b ∨ ∃ o r k m, v = .slice (some ⟨b, o, r⟩) k m := by
  unfold blockOf at h
  split at h
  · rename_i a k m
    obtain ⟨b', o, r⟩ := a
    simp at h
    subst h
    exact .inr ⟨_, _, _, _, rfl⟩
  · cases h
theorem Gr.blk0 {w0 w : World} {gl S : Nat} {V0 V : Nat → Value} {n : Nat → Nat} {L : Nat → List Nat} (h : Gr w0 w gl S V0 V n L) {k : Nat} (hk : k < 3) {g : Nat} (e : blockOf (V0 k) = some g) : (V0 k).ownBlock = some g := by
  obtain ⟨a, c, hv, -, -, hp⟩ := h.shp k hk
  rw [hv] at e ⊢
  cases a with
  | none => simp [blockOf] at e
  | some p =>
    obtain ⟨g', rfl⟩ := hp p rfl
    simp [blockOf] at e
    subst e
    rfl
/-- a row's first bytes, read off the row -/
theorem own_take {w : World} {g m c n : Nat} {v : Value} {l : List Nat} (ho : w.ownsRow 0 5 1 v l.length (l.map byV)) (hb : v.ownBlock = some g) (hn : n ≤ l.length) (hlt : ∀ x ∈ l, x < 256) (h1 : n ≤ c) (h2 : c ≤ maxLen) : CSl w (.slice (some ⟨g, 0, none⟩) n c) (l.take n) := by
  have hlen : (l.take n).length = n := by simp; omega
  refine ⟨_, c, by rw [hlen], by omega, h2, fun x hx => hlt x (List.mem_of_mem_take hx), fun _ => ⟨g, 0, rfl, fun i hi => ?_⟩⟩
  rw [hlen] at hi
  have := ho.cells (g := g) hb i (byV (l.getD i 0)) (by simp [List.getD, show i < l.length by omega])
  rw [Addr.add_lit] at this
  rw [this]
  simp [byV, List.getD, List.getElem?_take_of_lt hi]
def upd {α : Type} (f : Nat → α) (i : Nat) (x : α) : Nat → α := fun k => if k = i then x else f k
theorem upd_same {α : Type} (f : Nat → α) (i : Nat) (x : α) : upd f i x i = x := if_pos rfl
theorem upd_other {α : Type} (f : Nat → α) {i k : Nat} (x : α) (h : k ≠ i) : upd f i x k = f k := if_neg h
theorem Gr.calm {w0 w w' : World} {gl S : Nat} {V0 V : Nat → Value} {n : Nat → Nat} {L : Nat → List Nat} (h : Gr w0 w gl S V0 V n L) (hb : Below w.heap.size w w') : Gr w0 w' gl S V0 V n L := by
  refine ⟨h.bel.trans (hb.mono h.bel.size), (hb.block _ (Array.getElem?_eq_some_iff.1 h.box).1).trans h.box, fun k hk => rowK8 (h.own k hk) fun b e => hb.block b ((h.own k hk).lt b e).2, h.len, fun k hk => (h.base k hk).keptIf fun g _ hg => hb.block g hg, h.loc, h.ap, h.lt0, h.ap0, Nat.le_trans h.sS hb.size, h.gl0, h.shp⟩
/-- one row is written over, as it came -/
theorem Gr.full {w0 w w' : World} {gl S i : Nat} {V0 V : Nat → Value} {n : Nat → Nat} {L : Nat → List Nat} {l : List Nat} (h : Gr w0 w gl S V0 V n L) (hi : i < 3) (hV : V i = V0 i) (hL : (L i).length = n i) (hc : Chg (fun b => (V i).ownBlock = some b) w w') (ho : w'.ownsRow 0 5 1 (V i) l.length (l.map byV)) (hl : l.length = n i) (hlt : ∀ x ∈ l, x < 256) : Gr w0 w' gl S V0 V n (upd L i l) := by
  have hs := h.bel.size
  have hbx := (Array.getElem?_eq_some_iff.1 h.box).1
  refine ⟨⟨hc.os.trans h.bel.os, hc.tape.trans h.bel.tape, hc.output.trans h.bel.output, Nat.le_trans hs hc.size, fun b hb => (hc.keep b (by omega) fun e => by have := (h.loc i hi b e).1; omega).trans (h.bel.block b hb)⟩, (hc.keep _ hbx fun e => (h.loc i hi _ e).2.1 rfl).trans h.box, fun k hk => ?_, fun k hk => ?_, fun k hk => ?_, h.loc, h.ap, h.lt0, h.ap0, Nat.le_trans h.sS hc.size, h.gl0, h.shp⟩
  · by_cases e : k = i
    · subst e
      rw [upd_same]
      exact ho
    · rw [upd_other _ _ e]
      exact rowK8 (h.own k hk) fun b e1 => hc.keep b ((h.own k hk).lt b e1).2 fun e2 => h.ap k i hk hi e b e1 e2
  · by_cases e : k = i
    · subst e
      rw [upd_same]
      exact ⟨by omega, hlt⟩
    · rw [upd_other _ _ e]
      exact h.len k hk
  · by_cases e : k = i
    · subst e
      rw [upd_same, List.take_of_length_le (by omega), ← hV]
      exact own_csl ho hlt
    · rw [upd_other _ _ e]
      refine (h.base k hk).keptIf fun g e1 hg => hc.keep g hg fun e2 => ?_
      rw [hV] at e2
      exact h.ap0 k i hk hi e g (h.blk0 hk e1) e2
theorem box_upd {V : Nat → Value} {i : Nat} (hi : i < 3) (v : Value) : (#[V 0, V 1, V 2] : Array Value).setIfInBounds i v = #[upd V i v 0, upd V i v 1, upd V i v 2] := by
  have : i = 0 ∨ i = 1 ∨ i = 2 := by omega
  rcases this with rfl | rfl | rfl <;> rfl
/-- one row takes a byte more, and its place in the list is written -/
theorem Gr.app {w0 w w4 : World} {gl S i d : Nat} {V0 V : Nat → Value} {n : Nat → Nat} {L : Nat → List Nat} {v4 : Value} (h : Gr w0 w gl S V0 V n L) (hi : i < 3) (hd : d < 256) (ho : w4.ownsRow 0 5 1 v4 ((L i).length + 1) ((L i).map byV ++ [.int .u8 (d : Int)])) (hu : Upn (w.alloc (.cells #[.int .u8 (d : Int)] 5)) w4 (V i) v4) : Gr w0 (w4.setCell ⟨gl, i, none⟩ v4) gl S V0 (upd V i v4) n (upd L i (L i ++ [d])) := by
  obtain ⟨s1, s2, s3⟩ := hu.same
  have hs := hu.size
  have hsz : (w.alloc (.cells #[.int .u8 (d : Int)] 5)).heap.size = w.heap.size + 1 := World.size_alloc ..
  have hsw := h.bel.size
  have hbx := (Array.getElem?_eq_some_iff.1 h.box).1
  have ho' : w4.ownsRow 0 5 1 v4 (L i ++ [d]).length ((L i ++ [d]).map byV) := by rw [List.length_append, List.map_append]; exact ho
  have hold : ∀ b, b < w.heap.size → (V i).ownBlock ≠ some b → w4.heap[b]? = w.heap[b]? := fun b hb hne => (hu.block b (by omega) hne).trans (Below.heap_alloc _ _ _ (by omega))
  have hb4 : w4.heap[gl]? = some (.cells #[V 0, V 1, V 2] 23 (0, 0)) := (hold gl hbx fun e => (h.loc i hi _ e).2.1 rfl).trans h.box
  have hset : ∀ b, b ≠ gl → (w4.setCell ⟨gl, i, none⟩ v4).heap[b]? = w4.heap[b]? := fun b hne => Go.heap_setCell_other _ _ _ _ hne
  have hssz : (w4.setCell ⟨gl, i, none⟩ v4).heap.size = w4.heap.size := by simp [World.setCell]
  have hv4 : ∀ b, v4.ownBlock = some b → b ≠ gl ∧ ((V i).ownBlock = some b ∨ w.heap.size ≤ b) := fun b e => by
    rcases hu.loc b e with e1 | e1
    · exact ⟨(h.loc i hi b e1).2.1, .inl e1⟩
    · exact ⟨by omega, .inr (by omega)⟩
  refine ⟨⟨s1.trans h.bel.os, s2.trans h.bel.tape, s3.trans h.bel.output, by omega, fun b hb => ?_⟩, ?_, fun k hk => ?_, fun k hk => ?_, fun k hk => ?_, fun k hk b e => ?_, fun j k hj hk hne b e1 e2 => ?_, h.lt0, h.ap0, by rw [hssz]; have := h.sS; omega, h.gl0, h.shp⟩
  · have hg := h.gl0
    refine ((hset b (by omega)).trans (hold b (by omega) fun e => ?_)).trans (h.bel.block b hb)
    have := (h.loc i hi b e).1
    omega
  · rw [Go.heap_setCell_same _ _ i _ 23 _ hb4, box_upd hi]
  · by_cases e : k = i
    · subst e
      rw [upd_same, upd_same]
      exact rowK8 ho' fun b e1 => hset b (hv4 b e1).1
    · rw [upd_other _ _ e, upd_other _ _ e]
      refine rowK8 (h.own k hk) fun b e1 => (hset b (h.loc k hk b e1).2.1).trans (hold b ((h.own k hk).lt b e1).2 fun e2 => h.ap k i hk hi e b e1 e2)
  · by_cases e : k = i
    · subst e
      rw [upd_same]
      have := h.len k hk
      refine ⟨by simp; omega, fun x hx => ?_⟩
      rcases List.mem_append.1 hx with hx | hx
      · exact this.2 x hx
      · rw [List.mem_singleton.1 hx]; exact hd
    · rw [upd_other _ _ e]
      exact h.len k hk
  · by_cases e : k = i
    · subst e
      rw [upd_same]
      have hln := h.len k hk
      rw [List.take_append_of_le_length hln.1]
      rcases hu with ⟨hm, hg⟩ | ⟨g, hg1, hg2, hg⟩
      · refine (h.base k hk).keptIf fun b e1 hb => ?_
        have e2 := h.blk0 hk e1
        refine (hset b (h.lt0 k hk b e2).2).trans ((hg.block b (by omega) (by simp)).trans (Below.heap_alloc _ _ _ (by omega)))
      · by_cases e0 : (V0 k).ownBlock = some g
        · obtain ⟨a, c, hv, hc1, hc2, hp⟩ := h.shp k hk
          rw [hv] at e0 ⊢
          cases a with
          | none => simp [Value.ownBlock] at e0
          | some p =>
            obtain ⟨g', rfl⟩ := hp p rfl
            have e0' : g' = g := by simpa [Value.ownBlock] using e0
            subst e0'
            have hx := own_take (w := w4) (m := 0) (n := n k) (c := c) ho' hg2 (by simp; omega) (fun x hx => by
              rcases List.mem_append.1 hx with hx | hx
              · exact hln.2 x hx
              · rw [List.mem_singleton.1 hx]; exact hd) hc1 hc2
            rw [List.take_append_of_le_length hln.1] at hx
            refine hx.keptIf fun b e1 hb => hset b ?_
            simp [blockOf] at e1
            subst e1
            exact (hv4 _ hg2).1
        · refine (h.base k hk).keptIf fun b e1 hb => ?_
          have e2 := h.blk0 hk e1
          refine (hset b (h.lt0 k hk b e2).2).trans (hold b hb fun e3 => e0 ?_)
          rw [hg1] at e3
          rw [e2, ← e3]
    · rw [upd_other _ _ e]
      refine (h.base k hk).keptIf fun b e1 hb => ?_
      have e2 := h.blk0 hk e1
      refine (hset b (h.lt0 k hk b e2).2).trans (hold b hb fun e3 => ?_)
      rcases (h.loc i hi b e3).2.2 with e4 | e4
      · exact h.ap0 k i hk hi e b e2 e4
      · have := (h.lt0 k hk b e2).1
        omega
  · by_cases e0 : k = i
    · subst e0
      rw [upd_same] at e
      obtain ⟨e1, e2 | e2⟩ := hv4 b e
      · exact h.loc k hk b e2
      · have := h.sS
        exact ⟨by omega, e1, .inr (by omega)⟩
    · rw [upd_other _ _ e0] at e
      exact h.loc k hk b e
  · by_cases ej : j = i
    · subst ej
      have hki : k ≠ j := Ne.symm hne
      rw [upd_same] at e1
      rw [upd_other _ _ hki] at e2
      obtain ⟨-, e3 | e3⟩ := hv4 b e1
      · exact h.ap j k hj hk hne b e3 e2
      · have := ((h.own k hk).lt b e2).2
        omega
    · rw [upd_other _ _ ej] at e1
      by_cases ek : k = i
      · subst ek
        rw [upd_same] at e2
        obtain ⟨-, e3 | e3⟩ := hv4 b e2
        · exact h.ap j k hj hk hne b e1 e3
        · have := ((h.own j hj).lt b e1).2
          omega
      · rw [upd_other _ _ ek] at e2
        exact h.ap j k hj hk hne b e1 e2
end Go.Proofs.YtglajdmkbckjjabDoor
