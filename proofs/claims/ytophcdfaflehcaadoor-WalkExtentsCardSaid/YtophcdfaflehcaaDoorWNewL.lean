import Derived.Test.YtophcdfaflehcaaDoorWNum
import Derived.Test.YtophcdfaflehcaaDoorWCat
namespace Go.Proofs.YtophcdfaflehcaaDoor
open Go.RowKit Go.Shelf
attribute [local go_sem] Oper.semAt_some
set_option linter.unusedVariables false
set_option linter.unusedSimpArgs false
set_option maxRecDepth 20000

/-- a walker: what it has still to give -/
structure WRep (w : World) (p : Nat) (v : Value) (l : List Int) : Prop where
  row : w.heap[p]? = some (.cells #[v] 62 (0, 0))
  list : IRow w v l

theorem NInv.boxA {w W W2 : World} {N M : Nat} {L : BL} {n B st s : Nat} {va vb v' : Value} {o : Obj} (h : NInv w W N M L n B st s va vb) (ha : App (W.alloc o) W2 va v') : W2.heap[M]? = some (.cells #[va] 59 (0, 0)) := by
  have hlt := (Array.getElem?_eq_some_iff.1 h.m0).1
  refine (ha.chg.keep M (by rw [World.size_alloc]; omega) fun e => ?_).trans ((Below.heap_alloc W o M hlt).trans h.m0)
  obtain ⟨cs', hc'⟩ := h.ra.cells e
  rw [h.m0] at hc'
  simp only [Option.some.injEq, Obj.cells.injEq] at hc'
  exact absurd hc'.2.1 (by decide)
theorem NInv.boxB {w W W2 : World} {N M : Nat} {L : BL} {n B st s : Nat} {va vb v' : Value} {o : Obj} (h : NInv w W N M L n B st s va vb) (ha : App (W.alloc o) W2 vb v') : W2.heap[M + 1]? = some (.cells #[vb] 59 (0, 0)) := by
  have hlt := (Array.getElem?_eq_some_iff.1 h.m1).1
  refine (ha.chg.keep (M + 1) (by rw [World.size_alloc]; omega) fun e => ?_).trans ((Below.heap_alloc W o _ hlt).trans h.m1)
  obtain ⟨cs', hc'⟩ := h.rb.cells e
  rw [h.m1] at hc'
  simp only [Option.some.injEq, Obj.cells.injEq] at hc'
  exact absurd hc'.2.1 (by decide)
theorem IRow.shape {w : World} {v : Value} {l : List Int} (h : IRow w v l) : ∃ a m c, v = .slice a m c := by
  obtain ⟨a, c, e, -⟩ := h.form
  exact ⟨_, _, _, e⟩
theorem IRow.alloc {w : World} {v : Value} {l : List Int} (h : IRow w v l) (o : Obj) : IRow (w.alloc o) v l := h.kept fun g e => Below.heap_alloc w o g (h.lt e)

set_option maxHeartbeats 2000000 in
theorem new_main {w : World} {v : Value} {l : List Nat} (n s : Nat) (hT : TabAt w) (hv : WSl w v l) (h1 : 1 ≤ n) (h2 : n ≤ 65536) (hs : s ≤ n) (he : cwErr n l = 0) :
    Calls Tryd.prog 7 #[.int .i64 (n : Int), v, .int .i64 (s : Int)] w fun e w' => ∃ p lv, e = .returned (.tuple #[.pointer (some ⟨p, 0, none⟩), .int .i64 0]) ∧ WRep w' p lv (wlk (valW l) n s) ∧ Below w.heap.size w w' ∧ w.heap.size ≤ p ∧ ∀ g, lv.ownBlock = some g → w.heap.size ≤ g := by
  refine (callsIn_wide (n := 5)).1 ?_
  have hb0 : Below w.heap.size w (w.alloc (Obj.cells #[Value.int IntKind.i64 (s : Int)] 3)) := (Below.refl _ _).alloc (Nat.le_refl _) _
  have HF := hide (From_any n h1 h2 (hv.below hb0) he)
  generalize valW l = B at *
  obtain ⟨va, vcap, rfl, -⟩ := hv
  clear he
  generalize l.length = llen at *
  have HT := hide hT
  have htl := hT.lt
  have HB0 := hide hb0
  clear hT hb0
  refine callsIn_of_wp_marks Tryd.func7 rfl trivial ?_ rfl
  simp only [Tryd.ntmps7, List.size_toArray, List.length_cons, List.length_nil, Nat.reduceAdd, Nat.reduceSub, Array.replicate_succ, Array.replicate_zero, List.push_toArray, List.append_toArray, List.nil_append, List.cons_append]
  gi_wp2_with (first
    | (refine ⟨trivial, ?_⟩; gi_at_call 21; refine (callsIn_wide.2 HF.out).mono ?_; clear HF; rintro e w1 ⟨L, rfl, hn0⟩; have HNEW := hide hn0; clear hn0; unfold PB)
    | (refine ⟨trivial, ?_⟩; gi_at_call 22; refine (callsIn_wide.2 (All_any _ _)).mono ?_; rintro e w' ⟨rfl, rfl⟩))
  have hS0 : (w.alloc (Obj.cells #[Value.int IntKind.i64 (s : Int)] 3)).heap.size = w.heap.size + 1 := by simp
  have hN1 : w.heap.size < w1.heap.size := by have := HNEW.out.2.1.size; rw [hS0] at this; omega
  have hU : Hid (∀ b, L.U b → b < w1.heap.size) := hide fun b hb => HNEW.out.1.uLt b hb
  obtain ⟨W0, hW0⟩ : ∃ W0, (((w1.alloc (Obj.cells #[Value.slice none 0 0] 59)).alloc (Obj.cells #[Value.slice none 0 0] 59)).alloc (Obj.cells #[PB L] 56)) = W0 := ⟨_, rfl⟩
  rw [hW0]
  have hsz : W0.heap.size = w1.heap.size + 3 := by rw [← hW0]; simp
  have START : NInv w W0 w.heap.size w1.heap.size L n B s 0 (.slice none 0 0) (.slice none 0 0) := by
    have hbw : Below w1.heap.size w1 W0 := by rw [← hW0]; exact (((Below.refl _ _).alloc (Nat.le_refl _) _).alloc (by simp) _).alloc (by simp; omega) _
    have hbw0 := HNEW.out.2.1
    have hba : Below w.heap.size w W0 := HB0.out.trans ((hbw0.mono (by rw [hS0]; omega)).trans (hbw.mono (by omega)))
    refine ⟨HNEW.out.1.below hbw, HT.out.below hba, hba, ?_, ?_, ?_, ?_, IRow.nil _, IRow.nil _, by simp [Value.ownBlock], by simp [Value.ownBlock], by simp [Value.ownBlock], fun _ => rfl, fun _ => rfl⟩
    · rw [hbw.block _ hN1, hbw0.block _ (by rw [hS0]; omega)]; exact Go.heap_alloc_new w _
    · rw [← hW0, Below.heap_alloc _ _ _ (by simp; omega), Below.heap_alloc _ _ _ (by simp)]; exact Go.heap_alloc_new w1 _
    · rw [← hW0, Below.heap_alloc _ _ _ (by simp)]; have := Go.heap_alloc_new (w1.alloc (Obj.cells #[Value.slice none 0 0] 59)) (Obj.cells #[Value.slice none 0 0] 59); rwa [World.size_alloc] at this
    · rw [← hW0]; have := Go.heap_alloc_new ((w1.alloc (Obj.cells #[Value.slice none 0 0] 59)).alloc (Obj.cells #[Value.slice none 0 0] 59)) (Obj.cells #[PB L] 56); rwa [World.size_alloc, World.size_alloc] at this
  clear hW0 HNEW HB0 hS0
  generalize hM : w1.heap.size = M at *
  generalize hN : w.heap.size = N at *
  have HNN := hide hN
  clear hM hN
  refine wpIn_range_st rfl (by decide) (gf := 32) (lb := #[.pointer (some ⟨M + 1 + 1, 0, none⟩)]) rfl trivial enters_all
    (all_seq _ (M + 1 + 1) L n) (fun _ => rfl)
    (fun k W => k ≤ n ∧ ∃ va vb, NInv w W N M L n B s k va vb)
    (fun _ _ => False)
    (fun k A B' row hs hg hr => ⟨hs.1, hs.2.elim fun va h => h.elim fun vb h => ⟨va, vb, h.own (by omega) (by omega) hg hr⟩⟩)
    (fun _ _ _ _ _ hs _ _ => hs)
    (fun k W hs => by obtain ⟨_, va, vb, h⟩ := hs; exact ⟨⟨B, h.rep⟩, h.tab, by rw [cell_of_row _ _ _ _ _ _ h.m2]; rfl⟩)
    (fun k x k' => fun _ A B' row hs hg hr => by obtain ⟨B2, e1, e2, e3⟩ := hs; exact ⟨B2, own_rep e1 hg hr, e2, e3⟩) (fun k A B' row hs hg hr => by obtain ⟨B2, e1, e2⟩ := hs; exact ⟨B2, own_rep e1 hg hr, e2⟩)
    ⟨Nat.zero_le _, _, _, START⟩
    ?a1 ?assign ?body ?done ?stop
  case assign =>
    intro l x W K hK
    simp only [alEnc]
    gi_wp2
    exact hK
  case body =>
    rintro l k i k' W hl1 hl2 ⟨hk1, va, vb, hI⟩ ⟨B', hR, hx, rfl⟩
    obtain rfl := hI.rep.uniq hR
    obtain ⟨f1, f2, f3, f4⟩ := nx_facts hx hk1
    have k0 : W.cell? ⟨N, 0, none⟩ = some (.int .i64 (s : Int)) := by rw [cell_of_row _ _ _ _ _ _ hI.b0]; rfl
    have k2 : W.cell? ⟨M, 0, none⟩ = some va := by rw [cell_of_row _ _ _ _ _ _ hI.m0]; rfl
    have k3 : W.cell? ⟨M + 1, 0, none⟩ = some vb := by rw [cell_of_row _ _ _ _ _ _ hI.m1]; rfl
    have HI := hide hI
    have la := sel_len (aP B s) k
    have lb := sel_len (bP B s) k
    have HX := hide hx
    clear START hI hR f3 f4 hx
    have HRA := hide (HI.out.ra.alloc (.cells #[.int .i64 (i : Int)] 3))
    have HRB := hide (HI.out.rb.alloc (.cells #[.int .i64 (i : Int)] 3))
    have HCI : Hid ((W.alloc (.cells #[.int .i64 (i : Int)] 3)).cell? ((⟨W.heap.size, 0, none⟩ : Addr).add 0) = some (.int .i64 (i : Int))) := hide (by
      rw [Addr.add_lit, Nat.add_zero, cell_of_row _ _ _ _ _ _ (Go.heap_alloc_new W _)]; rfl)
    by_cases hi : s ≤ i
    · have hge : (s : Int) ≤ (i : Int) := by omega
      gi_wp2_with (gi_at_builtin; refine wpListIn_appendI _ rfl (.tmp 41) (.tmp 43) rfl _ _ rfl HRA.out _ _ (i : Int) rfl HCI.out (by omega) ?_; intro v2 W2 hr2 ha2; obtain ⟨a2, m2, c2, e2⟩ := hr2.shape; subst e2; have q1 : W2.cell? ⟨M, 0, none⟩ = some va := by { rw [cell_of_row _ _ _ _ _ _ (HI.out.boxA ha2)]; rfl }; have q2 : W2.frozen? ⟨M, 0, none⟩ = false := frozen_of_row _ _ _ _ _ (HI.out.boxA ha2); have HR2 := hide hr2; have HA2 := hide ha2; clear hr2 ha2)
      obtain ⟨p1, p2⟩ := HI.out.pushA hN1 hU.out htl _ HR2.out HA2.out HX.out hk1 hi
      exact ⟨p2 _, f2, _, _, p1⟩
    · have hlt : (i : Int) < (s : Int) := by omega
      gi_wp2_with (gi_at_builtin; refine wpListIn_appendI _ rfl (.tmp 45) (.tmp 47) rfl _ _ rfl HRB.out _ _ (i : Int) rfl HCI.out (by omega) ?_; intro v2 W2 hr2 ha2; obtain ⟨a2, m2, c2, e2⟩ := hr2.shape; subst e2; have q1 : W2.cell? ⟨M + 1, 0, none⟩ = some vb := by { rw [cell_of_row _ _ _ _ _ _ (HI.out.boxB ha2)]; rfl }; have q2 : W2.frozen? ⟨M + 1, 0, none⟩ = false := frozen_of_row _ _ _ _ _ (HI.out.boxB ha2); have HR2 := hide hr2; have HA2 := hide ha2; clear hr2 ha2)
      obtain ⟨p1, p2⟩ := HI.out.pushB hN1 hU.out htl _ HR2.out HA2.out HX.out hk1 (by omega)
      exact ⟨p2 _, f2, _, _, p1⟩
  case done =>
    rintro D k W hD ⟨B', hR, hx⟩ ⟨hk1, va, vb, hI⟩ hK
    obtain rfl := hI.rep.uniq hR
    obtain ⟨xa, ma, ca, rfl⟩ := hI.ra.shape
    obtain ⟨xb, mb, cb, rfl⟩ := hI.rb.shape
    have k2 : W.cell? ⟨M, 0, none⟩ = some (.slice xa ma ca) := by rw [cell_of_row _ _ _ _ _ _ hI.m0]; rfl
    have k3 : W.cell? ⟨M + 1, 0, none⟩ = some (.slice xb mb cb) := by rw [cell_of_row _ _ _ _ _ _ hI.m1]; rfl
    have la := sel_len (aP B s) k
    have lb := sel_len (bP B s) k
    have hN2 : N ≤ W.heap.size := Nat.le_of_lt (Array.getElem?_eq_some_iff.1 hI.b0).1
    have HCC := hide (concat_any (W.alloc (.cells #[.slice xa ma ca, .slice xb mb cb] 59)) W.heap.size _ _ _ _ (Go.heap_alloc_new W _) (hI.ra.alloc _) (hI.rb.alloc _) hI.za hI.zb (by omega))
    have HBL := hide hI.bel
    have HKD := hide hK
    have HEND := hide (L_end (st := s) hx hk1)
    clear START hI hR hx hK
    gi_wp2_with (refine ⟨trivial, ?_⟩; gi_at_call 23; refine (callsIn_wide.2 HCC.out).mono ?_; rintro e w2 ⟨lv, rfl, hI2, hB2, hN2⟩; obtain ⟨xl, ml, cl, el⟩ := hI2.shape; subst el; have HI2 := hide hI2; have HB2 := hide hB2; have HN2 := hide hN2; clear hI2 hB2 hN2 HCC)
    have hDW : D < W.heap.size := (Array.getElem?_eq_some_iff.1 HKD.out).1
    have hs2 : W.heap.size + 1 ≤ w2.heap.size := by have := HB2.out.size; rwa [World.size_alloc] at this
    have hD2 : w2.heap[D]? = some (.deferred (some [])) := (HB2.out.block D (by rw [World.size_alloc]; omega)).trans ((Below.heap_alloc W _ D hDW).trans HKD.out)
    have hKD2 : (w2.alloc (.cells #[.slice xl ml cl] 62)).heap[D]? = some (.deferred (some [])) := (Below.heap_alloc w2 _ D (by omega)).trans hD2
    have hrow : ((w2.alloc (.cells #[.slice xl ml cl] 62)).putObj D (.deferred none)).heap[w2.heap.size]? = some (.cells #[.slice xl ml cl] 62 (0, 0)) := (World.putObj_heap_other (by omega)).trans (Go.heap_alloc_new w2 _)
    have hlist : IRow ((w2.alloc (.cells #[.slice xl ml cl] 62)).putObj D (.deferred none)) (.slice xl ml cl) (wlk B n s) := by
      unfold wlk
      rw [HEND.out.1, HEND.out.2]
      refine HI2.out.kept fun g e => ?_
      have hg := HI2.out.lt e
      rw [World.putObj_heap_other (fun e2 => by
        obtain ⟨cs, hc⟩ := HI2.out.cells e
        rw [e2, hD2] at hc
        cases hc), Below.heap_alloc w2 _ g hg]
    have hbel : Below N w ((w2.alloc (.cells #[.slice xl ml cl] 62)).putObj D (.deferred none)) := by
      have h1 := ((HBL.out.alloc hN2 (.cells #[.slice xa ma ca, .slice xb mb cb] 59)).trans (HB2.out.mono (by rw [World.size_alloc]; omega))).alloc (by omega) (.cells #[.slice xl ml cl] 62)
      refine h1.grown (grownBy_putObj' _ D (.deferred none)) ?_ (fun k e => by cases e; omega)
      rw [World.size_alloc]
      omega
    refine ⟨by simp, .inl ⟨_, _, rfl, run_takeDeferred hKD2, ?_⟩⟩
    refine ⟨.tuple #[.pointer (some ⟨w2.heap.size, 0, none⟩), .int .i64 0], ?_, w2.heap.size, _, rfl, ⟨hrow, hlist⟩, ?_, ?_, ?_⟩
    · simp [results, Tryd.results7, go_sem]
    · rw [HNN.out]; exact hbel
    · rw [HNN.out]; omega
    · intro g e
      have := HN2.out g e
      rw [World.size_alloc] at this
      rw [HNN.out]
      omega
  case stop =>
    rintro D c W hD h hK
    exact h.elim
end Go.Proofs.YtophcdfaflehcaaDoor
