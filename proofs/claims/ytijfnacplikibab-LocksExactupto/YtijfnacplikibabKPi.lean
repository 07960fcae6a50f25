import Derived.Test.YtijfnacplikibabKPh
import Derived.Test.YtijfnacplikibabKPe
namespace Go.Proofs.Ytijfnacplikibab
open Go.RowKit
set_option linter.unusedVariables false
set_option linter.unusedSimpArgs false
set_option maxRecDepth 20000

/-- a list of places in memory made since w -/
structure NP (w wr : World) (ov : Value) (l : List Pc) : Prop where
  bel : Below w.heap.size w wr
  row : PRow wr ov l
  new : ∀ g, ov.ownBlock = some g → w.heap.size ≤ g
theorem NP.nil (w : World) : NP w w (.slice none 0 0) [] := ⟨Below.refl _ _, ⟨rfl, .inl ⟨rfl, rfl⟩⟩, fun g e => by simp [Value.ownBlock] at e⟩
theorem PRow.lt {w : World} {v : Value} {l : List Pc} (h : PRow w v l) {g : Nat} (e : v.ownBlock = some g) : g < w.heap.size := (World.ownsRow.lt h g e).2
theorem PRow.below {w w' : World} {v : Value} {l : List Pc} (h : PRow w v l) (hb : Below w.heap.size w w') : PRow w' v l := rowKept h fun g e => hb.block g (h.lt e)
theorem NP.calm {w wr z : World} {ov : Value} {l : List Pc} (h : NP w wr ov l) (hb : Below wr.heap.size wr z) : NP w z ov l := ⟨h.bel.trans (hb.mono h.bel.size), h.row.below hb, h.new⟩
theorem NP.app {w wr z : World} {ov ov' : Value} {l l' : List Pc} (h : NP w wr ov l) (ho : PRow z ov' l') (ha : App wr z ov ov') : NP w z ov' l' := by
  refine ⟨h.bel.trans (ha.chg.below h.bel.size h.new), ho, fun g e => ?_⟩
  rcases ha.loc g e with e | e
  · exact h.new g e
  · exact Nat.le_trans h.bel.size e
/-- those that waited come in: behind j of them; w the world at Release's begin -/
structure LI (w wr : World) (q : Nat) (v vr : Value) (n room : Nat) (L1 : LL) (e j : Nat) (iv : Value) (Nn K : Nat) : Prop where
  ex : ∃ P T, RT wr q vr n room P T ∧ Sm n (mvL L1 e j) P T ∧ P.length ≤ Nn ∧ T + wtN P ≤ Nn
  chg : Chg (fun g => g = q ∨ v.ownBlock = some g) w wr
  vn : ∀ g, vr.ownBlock = some g → w.heap.size ≤ g
  row : IRow wr iv (((L1 (e * 2 + 1)).take j).map Prod.fst)
  new : ∀ g, iv.ownBlock = some g → w.heap.size ≤ g
  cnt : j + lin (L1 (e * 2) ++ (L1 (e * 2 + 1)).take j) ((L1 (e * 2 + 1)).drop j) = K
  alike : (∀ c ∈ L1 (e * 2) ++ (L1 (e * 2 + 1)).take j, c.2 = 1) ∨ (L1 (e * 2) ++ (L1 (e * 2 + 1)).take j).length = 1
/-- the first that waits is let in: the worlds on the way -/
theorem let_in {wr w1 : World} {q g cc n room f : Nat} {P : List Pc} {T : Nat} (h : RT wr q (.slice (some ⟨g, 0, none⟩) P.length cc) n room P T) (hf : f < P.length) (hb : Below wr.heap.size wr w1) :
    ((w1.cell? ⟨q, 3, none⟩ = some (.int .i64 (T : Int)) ∧ w1.frozen? ⟨q, 3, none⟩ = false) ∧ ((w1.setCell ⟨q, 3, none⟩ (.int .i64 ((T : Int) + 1))).cell? ⟨q, 2, none⟩ = some (.slice (some ⟨g, 0, none⟩) P.length cc) ∧ (w1.setCell ⟨q, 3, none⟩ (.int .i64 ((T : Int) + 1))).cell? ⟨g, f * 5 + 3, none⟩ = some (.bool P[f].held) ∧ (w1.setCell ⟨q, 3, none⟩ (.int .i64 ((T : Int) + 1))).frozen? ⟨g, f * 5 + 3, none⟩ = false)) ∧
    (((w1.setCell ⟨q, 3, none⟩ (.int .i64 ((T : Int) + 1))).setCell ⟨g, f * 5 + 3, none⟩ (.bool true)).cell? ⟨q, 2, none⟩ = some (.slice (some ⟨g, 0, none⟩) P.length cc) ∧ ((w1.setCell ⟨q, 3, none⟩ (.int .i64 ((T : Int) + 1))).setCell ⟨g, f * 5 + 3, none⟩ (.bool true)).cell? ⟨q, 3, none⟩ = some (.int .i64 ((T : Int) + 1)) ∧ ((w1.setCell ⟨q, 3, none⟩ (.int .i64 ((T : Int) + 1))).setCell ⟨g, f * 5 + 3, none⟩ (.bool true)).cell? ⟨g, f * 5 + 4, none⟩ = some (.int .i64 P[f].turn) ∧ ((w1.setCell ⟨q, 3, none⟩ (.int .i64 ((T : Int) + 1))).setCell ⟨g, f * 5 + 3, none⟩ (.bool true)).frozen? ⟨g, f * 5 + 4, none⟩ = false) ∧
    ((((w1.setCell ⟨q, 3, none⟩ (.int .i64 ((T : Int) + 1))).setCell ⟨g, f * 5 + 3, none⟩ (.bool true)).setCell ⟨g, f * 5 + 4, none⟩ (.int .i64 ((T : Int) + 1))).cell? ⟨q, 2, none⟩ = some (.slice (some ⟨g, 0, none⟩) P.length cc) ∧ (((w1.setCell ⟨q, 3, none⟩ (.int .i64 ((T : Int) + 1))).setCell ⟨g, f * 5 + 3, none⟩ (.bool true)).setCell ⟨g, f * 5 + 4, none⟩ (.int .i64 ((T : Int) + 1))).cell? ⟨g, f * 5 + 2, none⟩ = some (.int .i64 P[f].own)) ∧
    RT (((w1.setCell ⟨q, 3, none⟩ (.int .i64 ((T : Int) + 1))).setCell ⟨g, f * 5 + 3, none⟩ (.bool true)).setCell ⟨g, f * 5 + 4, none⟩ (.int .i64 ((T : Int) + 1))) q (.slice (some ⟨g, 0, none⟩) P.length cc) n room (P.set f { P[f] with held := true, turn := ((T + 1 : Nat) : Int) }) (T + 1) ∧ Chg (fun b => b = q ∨ b = g) wr (((w1.setCell ⟨q, 3, none⟩ (.int .i64 ((T : Int) + 1))).setCell ⟨g, f * 5 + 3, none⟩ (.bool true)).setCell ⟨g, f * 5 + 4, none⟩ (.int .i64 ((T : Int) + 1))) := by
  have hT : ((T + 1 : Nat) : Int) = (T : Int) + 1 := by omega
  have h1 := h.below hb
  have t2 := (h1.setT (T + 1)).t
  rw [hT] at t2
  have hpf : P[f]? = some P[f] := List.getElem?_eq_getElem hf
  have t4 := RT.hold rfl t2 hpf ((T : Int) + 1)
  have hgq : g ≠ q := fun e => h.vq (by rw [← e]; rfl)
  have at2 : pcAt (w1.setCell ⟨q, 3, none⟩ (.int .i64 ((T : Int) + 1))) g f P[f] := by
    obtain ⟨a', c', e', -, -, hq⟩ := t2.own.form
    simp only [Value.slice.injEq, true_and] at e'
    obtain ⟨g', e9, r⟩ := hq f hf
    rw [e9] at e'
    simp only [Option.some.injEq, Addr.mk.injEq, and_true] at e'
    obtain ⟨rfl, -⟩ := e'
    have : P.getD f p0 = P[f] := by simp [List.getD, hf]
    rwa [this] at r
  have hlt : f < (P.set f { P[f] with held := true, turn := (T : Int) + 1 }).length := by rw [List.length_set]; exact hf
  have at4 : pcAt (((w1.setCell ⟨q, 3, none⟩ (.int .i64 ((T : Int) + 1))).setCell ⟨g, f * 5 + 3, none⟩ (.bool true)).setCell ⟨g, f * 5 + 4, none⟩ (.int .i64 ((T : Int) + 1))) g f { P[f] with held := true, turn := (T : Int) + 1 } := by
    obtain ⟨a', c', e', -, -, hq⟩ := t4.own.form
    simp only [Value.slice.injEq] at e'
    obtain ⟨g', e9, r⟩ := hq f hlt
    rw [e9] at e'
    simp only [Option.some.injEq, Addr.mk.injEq, and_true] at e'
    obtain ⟨rfl, -⟩ := e'
    have : (P.set f { P[f] with held := true, turn := (T : Int) + 1 }).getD f p0 = { P[f] with held := true, turn := (T : Int) + 1 } := by
      simp [List.getD, hf]
    rwa [this] at r
  obtain ⟨cs, hcs⟩ := PRow.cellsOf t2.own (g := g) rfl
  have hcs3 := Go.heap_setCell_same _ g (f * 5 + 3) _ 83 (.bool true) hcs
  have q3 : ((w1.setCell ⟨q, 3, none⟩ (.int .i64 ((T : Int) + 1))).setCell ⟨g, f * 5 + 3, none⟩ (.bool true)).heap[q]? = (w1.setCell ⟨q, 3, none⟩ (.int .i64 ((T : Int) + 1))).heap[q]? := Go.heap_setCell_other _ _ _ _ (show q ≠ g from fun e => hgq e.symm)
  have q4 : (((w1.setCell ⟨q, 3, none⟩ (.int .i64 ((T : Int) + 1))).setCell ⟨g, f * 5 + 3, none⟩ (.bool true)).setCell ⟨g, f * 5 + 4, none⟩ (.int .i64 ((T : Int) + 1))).heap[q]? = ((w1.setCell ⟨q, 3, none⟩ (.int .i64 ((T : Int) + 1))).setCell ⟨g, f * 5 + 3, none⟩ (.bool true)).heap[q]? := Go.heap_setCell_other _ _ _ _ (show q ≠ g from fun e => hgq e.symm)
  refine ⟨⟨⟨h1.c3, h1.f 3⟩, t2.c2, at2.2.2.2.1, frozen_of_row _ _ _ _ 83 hcs⟩, ⟨?_, ?_, ?_, frozen_of_row _ _ _ _ 83 hcs3⟩, ⟨t4.c2, at4.2.2.1⟩, ?_, ?_⟩
  · exact (World.cell?_of_block (a := ⟨q, 2, none⟩) q3).trans t2.c2
  · have := t2.c3
    rw [hT] at this
    exact (World.cell?_of_block (a := ⟨q, 3, none⟩) q3).trans this
  · have e1 : ((w1.setCell ⟨q, 3, none⟩ (.int .i64 ((T : Int) + 1))).setCell ⟨g, f * 5 + 3, none⟩ (.bool true)).cell? ⟨g, f * 5 + 4, none⟩ = (w1.setCell ⟨q, 3, none⟩ (.int .i64 ((T : Int) + 1))).cell? ⟨g, f * 5 + 4, none⟩ := by
      rw [cell_of_row _ _ _ _ _ _ hcs3, cell_of_row _ _ _ _ _ _ hcs, Array.getElem?_setIfInBounds_ne (by omega)]
    rw [e1]
    exact at2.2.2.2.2
  · rw [hT]
    exact t4
  · exact Chg.set (Chg.set (Chg.set (Chg.ofBelow hb) q 3 _ (.inl (.inl rfl))) g _ _ (.inl (.inr rfl))) g _ _ (.inl (.inr rfl))
theorem rem_mem {l : List (Int × Int)} {o : Int} {c : Int × Int} (h : c ∈ rem l o) : c ∈ l := by
  unfold rem at h
  rcases List.mem_append.1 h with h | h
  · exact List.mem_of_mem_take h
  · exact List.mem_of_mem_drop h
theorem leave_mem {L : LL} {e : Nat} {o : Int} {k : Nat} {c : Int × Int} (h : c ∈ leaveL L e o k) : c ∈ L k := by
  unfold leaveL at h
  split at h
  · by_cases hk : k = e * 2
    · rw [hk, upd_same] at h
      rw [hk]
      exact rem_mem h
    · rwa [upd_other _ _ _ hk] at h
  · split at h
    · by_cases hk : k = e * 2 + 1
      · rw [hk, upd_same] at h
        rw [hk]
        exact rem_mem h
      · rwa [upd_other _ _ _ hk] at h
    · exact h
theorem leave_alike {L : LL} {e : Nat} {o : Int} (h : (∀ c ∈ L (e * 2), c.2 = 1) ∨ (L (e * 2)).length = 1) : (∀ c ∈ leaveL L e o (e * 2), c.2 = 1) ∨ (leaveL L e o (e * 2)).length = 1 := by
  rcases h with h | h
  · exact .inl fun c hc => h c (leave_mem hc)
  · unfold leaveL
    split
    · rename_i hh
      left
      rw [upd_same]
      intro c hc
      have hp := has_iff.1 hh
      have : rem (L (e * 2)) o = [] := by
        apply List.length_eq_zero_iff.1
        unfold rem
        rw [List.length_append, List.length_take, List.length_drop]
        omega
      rw [this] at hc
      simp at hc
    · split
      · right
        rw [upd_other _ _ _ (by omega)]
        exact h
      · exact .inr h
def lenV : Value → Nat
  | .slice _ n _ => n
  | _ => 0
theorem Chg.trans2 {U V : Nat → Prop} {w x y : World} (h : Chg U w x) (k : Chg V x y) (hV : ∀ g, g < w.heap.size → V g → U g) : Chg U w y := ⟨k.os.trans h.os, k.tape.trans h.tape, k.output.trans h.output, Nat.le_trans h.size k.size, fun g hg hn => (k.keep g (by have := h.size; omega) fun q => hn (hV g hg q)).trans (h.keep g hg hn)⟩
theorem IRow.cellsOf {w : World} {v : Value} {l : List Int} (h : IRow w v l) {g : Nat} (e : v.ownBlock = some g) : ∃ cs, w.heap[g]? = some (.cells cs 3 (0, 0)) := by
  rcases h.2 with ⟨rfl, hz⟩ | ⟨g', cap, cur, rfl, _, hg, _⟩
  · simp [Value.ownBlock] at e
  · simp only [Value.ownBlock, Option.some.injEq] at e
    subst e
    exact ⟨cur, hg⟩
/-- a list of ints grows beside the document's table -/
theorem RT.byApp {x y : World} {q : Nat} {v iv iv' : Value} {n room : Nat} {P : List Pc} {T : Nat} {l : List Int} (h : RT x q v n room P T) (hi : IRow x iv l) (ha : App x y iv iv') : RT y q v n room P T := h.kept fun g e => by
  rcases e with rfl | e
  · refine ha.chg.keep _ h.lt fun e2 => ?_
    obtain ⟨cs, hc⟩ := hi.cellsOf e2
    exact neType hc h.row (by decide) rfl
  · refine ha.chg.keep _ (h.vlt e) fun e2 => ?_
    obtain ⟨cs, hc⟩ := hi.cellsOf e2
    obtain ⟨ds, hd⟩ := PRow.cellsOf h.own e
    exact neType hc hd (by decide) rfl
theorem LI.start {w y : World} {q : Nat} {v v1 : Value} {n room : Nat} {P : List Pc} {T N : Nat} {L : LL} {e k : Nat} {o : Int} (sm : Sm n L P T) (ok : Ok n L) (he : e < n) (hk : ixB (fnd (e : Int) o) P = (k : Int)) (t : RTt w y q v v1 n room (del k P) T) (hv : ∀ g, v1.ownBlock = some g → w.heap.size ≤ g) (hl : P.length ≤ N) (ht : T + wtN P ≤ N) : LI w y q v v1 n room (leaveL L e o) e 0 (.slice none 0 0) N (relK L e o) := by
  obtain ⟨hkl, hsp, hfd, -⟩ := ixB_split hk
  have o1 := ok e he
  simp only [fnd, Bool.and_eq_true, beq_iff_eq] at hfd
  have hg := Sm.gone (A := P.take k) (B := P.drop (k + 1)) (x := P[k]) (e := e) (n := n) (L := L) (T := T) (by rw [← hsp]; exact sm) he hfd.1 o1.nd
  rw [hfd.2] at hg
  refine ⟨⟨del k P, T, t.t, by rw [mvL_zero]; exact hg, Nat.le_trans (del_len P k) hl, by have := wtN_del P k; omega⟩, t.chg, hv, ⟨rfl, .inl ⟨rfl, rfl⟩⟩, fun g e => by simp [Value.ownBlock] at e, ?_, ?_⟩
  · simp [relK]
  · rw [List.take_zero, List.append_nil]
    exact leave_alike o1.ex
theorem LI.cases {w wr : World} {q : Nat} {v vr : Value} {n room : Nat} {L1 : LL} {e j : Nat} {iv : Value} {N K : Nat} (h : LI w wr q v vr n room L1 e j iv N K) (he : e < n) (md : ∀ c ∈ L1 (e * 2) ++ L1 (e * 2 + 1), c.2 = 1 ∨ c.2 = 2) :
    ∃ P T, RT wr q vr n room P T ∧ P.length ≤ N ∧ T + wtN P ≤ N ∧ (((L1 (e * 2 + 1)).drop j = [] ∧ ixB (fst1 (e : Int)) P = -1 ∧ K = j) ∨
      ∃ c r f g cc, ∃ hf : f < P.length, (L1 (e * 2 + 1)).drop j = c :: r ∧ ixB (fst1 (e : Int)) P = (f : Int) ∧ vr = .slice (some ⟨g, 0, none⟩) P.length cc ∧ w.heap.size ≤ g ∧ wr.cell? ⟨g, f * 5 + 1, none⟩ = some (.int .i64 P[f].mode) ∧ goesP P (e : Int) P[f].mode = goesB (L1 (e * 2) ++ (L1 (e * 2 + 1)).take j) c.2 ∧ P[f].own = c.1 ∧
        (goesB (L1 (e * 2) ++ (L1 (e * 2 + 1)).take j) c.2 = false → K = j) ∧
        (goesB (L1 (e * 2) ++ (L1 (e * 2 + 1)).take j) c.2 = true → ∀ wz iv', IRow wz iv' (((L1 (e * 2 + 1)).take j).map Prod.fst ++ [P[f].own]) → (∀ b, iv'.ownBlock = some b → w.heap.size ≤ b) → RT wz q vr n room (P.set f { P[f] with held := true, turn := ((T + 1 : Nat) : Int) }) (T + 1) → Chg (fun b => b = q ∨ v.ownBlock = some b) w wz → LI w wz q v vr n room L1 e (j + 1) iv' N K)) := by
  obtain ⟨P, T, rt, sm, hl, ht⟩ := h.ex
  refine ⟨P, T, rt, hl, ht, ?_⟩
  have hw := mvL_w L1 e j
  have hh := mvL_h L1 e j
  have hfs := sm.first he
  rw [hw] at hfs
  cases hd : (L1 (e * 2 + 1)).drop j with
  | nil =>
    left
    refine ⟨rfl, ?_, ?_⟩
    · rw [hd] at hfs
      have : ¬ 0 ≤ ixB (fst1 (e : Int)) P := fun q => hfs.1 q rfl
      unfold ixB at this ⊢
      split
      · rename_i hq
        rw [if_pos hq] at this
        omega
      · rfl
    · have := h.cnt
      rw [hd] at this
      simp [lin] at this
      exact this.symm
  | cons c r =>
    right
    rw [hd] at hfs
    have h0 : 0 ≤ ixB (fst1 (e : Int)) P := hfs.2 (by simp)
    obtain ⟨f, hfx⟩ : ∃ f : Nat, ixB (fst1 (e : Int)) P = (f : Int) := ⟨(ixB (fst1 (e : Int)) P).toNat, by omega⟩
    obtain ⟨hf, hsp, hft, hfa⟩ := ixB_split hfx
    have sm2 : Sm n (mvL L1 e j) (P.take f ++ P[f] :: P.drop (f + 1)) T := by rw [← hsp]; exact sm
    obtain ⟨r2, hr2, sm3⟩ := sm2.inn he hft hfa
    rw [hw, hd] at hr2
    simp only [List.cons.injEq] at hr2
    obtain ⟨hc, hr⟩ := hr2
    subst hr
    have hmode : P[f].mode = c.2 := by rw [hc]; rfl
    have hown : P[f].own = c.1 := by rw [hc]; rfl
    have hft2 := hft
    simp only [fst1, Bool.and_eq_true, beq_iff_eq, Bool.not_eq_true'] at hft2
    obtain ⟨a', c', e', -, -, hq⟩ := rt.own.form
    obtain ⟨g, ha, hat⟩ := hq f hf
    rw [ha] at e'
    have hge : P.getD f p0 = P[f] := by simp [List.getD, hf]
    rw [hge] at hat
    have hcm : c ∈ L1 (e * 2 + 1) := List.mem_of_mem_drop (by rw [hd]; simp)
    have mdc := md c (List.mem_append_right _ hcm)
    have hgo := sm.goes he (m := c.2) (by
      rw [hh]
      intro d hd2
      rcases List.mem_append.1 hd2 with q | q
      · exact md d (List.mem_append_left _ q)
      · exact md d (List.mem_append_right _ (List.mem_of_mem_take q))) (by rw [hh]; exact h.alike) mdc
    rw [hh] at hgo
    have hcnt := h.cnt
    rw [hd] at hcnt
    have hset : P.set f { P[f] with held := true, turn := ((T + 1 : Nat) : Int) } = P.take f ++ { P[f] with held := true, turn := ((T + 1 : Nat) : Int) } :: P.drop (f + 1) := by
      have hlen : (P.take f).length = f := by rw [List.length_take]; omega
      have := set_mid (A := P.take f) (B := P.drop (f + 1)) (x := P[f]) (y := { P[f] with held := true, turn := ((T + 1 : Nat) : Int) })
      rw [← hsp, hlen] at this
      exact this
    refine ⟨c, r, f, g, c', hf, rfl, hfx, e', h.vn g (by rw [e']; rfl), hat.2.1, by rw [hmode]; exact hgo, hown, fun hg => ?_, fun hg wz iv' hiv hnew hrt hchg => ?_⟩
    · rw [lin, if_neg (by rw [hg]; simp)] at hcnt
      omega
    · have hw1 : wtN (P.set f { P[f] with held := true, turn := ((T + 1 : Nat) : Int) }) + 1 = wtN P := by
        rw [hset]
        exact (wtN_hold (A := P.take f) (B := P.drop (f + 1)) (x := P[f]) hft2.2 ((T + 1 : Nat) : Int)).trans (congrArg wtN hsp.symm)
      have htk : (L1 (e * 2 + 1)).take (j + 1) = (L1 (e * 2 + 1)).take j ++ [c] := by
        rw [List.take_add_one]
        have : (L1 (e * 2 + 1))[j]? = some c := by
          have := congrArg (fun l => l[0]?) hd
          simpa using this
        rw [this]
        rfl
      have hdr : (L1 (e * 2 + 1)).drop (j + 1) = r := by
        rw [← List.drop_drop, hd]
        rfl
      refine ⟨⟨_, T + 1, hrt, ?_, by rw [List.length_set]; exact hl, by omega⟩, hchg, h.vn, ?_, hnew, ?_, ?_⟩
      · rw [hset, ← mvL_step L1 e j hd, hc]
        exact sm3
      · rw [htk, List.map_append]
        rw [hown] at hiv
        exact hiv
      · rw [htk, hdr, ← List.append_assoc]
        rw [lin, if_pos hg] at hcnt
        omega
      · rw [htk, ← List.append_assoc]
        exact goes_ex h.alike hg
end Go.Proofs.Ytijfnacplikibab
