import Derived.Test.YtophcdfaflehcaaDoorWEx2
import Derived.Test.YtophcdfaflehcaaDoorWWk
namespace Go.Proofs.YtophcdfaflehcaaDoor
open Go.RowKit Go.Shelf
attribute [local go_sem] Oper.semAt_some
set_option linter.unusedVariables false
set_option linter.unusedSimpArgs false
set_option maxRecDepth 20000

def exInvN (be : Nat) (_s : Nat) (W : World) : Prop := ∃ e : Int, (e != 0) = true ∧ W.heap[be]? = some (.cells #[.int .i64 e] 24 (0, 0))
set_option maxHeartbeats 1000000 in
theorem exN_seq (m be bm bn : Nat) :
    SeqSt Fence.wide m Tryd.prog 27 #[.pointer (some ⟨be, 0, none⟩), .pointer (some ⟨bm, 0, none⟩), .pointer (some ⟨bn, 0, none⟩)] exEnc (fun _ _ _ _ => False) (fun _ _ => True) (exInvN be) 0 := by
  intro l J Jx W hInv hJ hJx hY h0
  obtain ⟨e, he, hb⟩ := hInv 0 W h0
  have c1 : W.cell? ⟨be, 0, none⟩ = some (.int .i64 e) := cell_of_row _ _ _ _ _ _ hb
  have H0 := hide h0
  clear hb hInv hJ hJx hY h0
  refine callsIn_of_wp Tryd.func27 rfl trivial ?_ rfl
  simp only [Tryd.ntmps27, List.size_toArray, List.length_cons, List.length_nil, Nat.reduceAdd, Nat.reduceSub, Array.replicate_succ, Array.replicate_zero, List.push_toArray, List.append_toArray, List.nil_append, List.cons_append]
  gi_wp2
  refine bodyPost_ret (results_none rfl _ _ _) rfl ?_
  exact ⟨⟨_, rfl⟩, .inl ⟨0, trivial, H0.out⟩⟩
theorem Ext_any {w : World} {v : Value} {l : List Nat} (n : Nat) (hT : TabAt w) (hv : WSl w v l) (h1 : 1 ≤ n) (h2 : n ≤ 65536) (he : cwErr n l = 0) :
    Calls Tryd.prog 15 #[.int .i64 (n : Int), v] w fun e w' => ∃ be bm bn L, e = .returned (.func (.func 27) #[] #[.pointer (some ⟨be, 0, none⟩), .pointer (some ⟨bm, 0, none⟩), .pointer (some ⟨bn, 0, none⟩)]) ∧ EB w' be bm bn n L (valW l) ∧ Below w.heap.size w w' ∧ (∀ b, (L.U b ∨ b = be ∨ b = bm ∨ b = bn) → w.heap.size ≤ b) := by
  have hb0 : Below w.heap.size w (w.alloc (Obj.cells #[Value.int IntKind.i64 (n : Int)] 3)) := (Below.refl _ _).alloc (Nat.le_refl _) _
  have HF := hide (From_any n h1 h2 (hv.below hb0) he)
  generalize valW l = B at *
  obtain ⟨va, vcap, rfl, -⟩ := hv
  have HT := hide (hT.below hb0)
  have HB0 := hide hb0
  clear he hT hb0
  generalize l.length = llen at *
  go_enter Tryd.func15, Tryd.ntmps15
  go_wp2_with (go_at_call 21; refine HF.out.mono ?_; clear HF; rintro e w1 ⟨L, rfl, hn0⟩; have HNEW := hide hn0; clear hn0; unfold PB)
  go_ret
  have hs1 := HNEW.out.2.1.size
  rw [World.size_alloc] at hs1
  have ha : Below w1.heap.size w1 ((w1.alloc (Obj.cells #[Value.pointer (some ⟨L.p, 0, none⟩)] 56)).alloc (Obj.cells #[Value.int IntKind.i64 0] 24)) := ((Below.refl _ _).alloc (Nat.le_refl _) _).alloc (by simp) _
  refine ⟨w1.heap.size + 1, w1.heap.size, w.heap.size, L, rfl, ⟨HNEW.out.1.below ha, (HT.out.below HNEW.out.2.1).below ha, ?_, ?_, ?_⟩, HB0.out.trans ((HNEW.out.2.1.mono (by simp)).trans (ha.mono (by omega))), ?_⟩
  · have := Go.heap_alloc_new (w1.alloc (Obj.cells #[Value.pointer (some ⟨L.p, 0, none⟩)] 56)) (Obj.cells #[Value.int IntKind.i64 0] 24); rwa [World.size_alloc] at this
  · rw [Below.heap_alloc _ _ _ (by simp)]; exact Go.heap_alloc_new w1 _
  · rw [ha.block _ (by omega), HNEW.out.2.1.block _ (by simp)]; exact Go.heap_alloc_new w _
  · rintro b (hu | rfl | rfl | rfl)
    · have := HNEW.out.2.2 b hu
      rw [World.size_alloc] at this
      omega
    · omega
    · omega
    · omega
theorem Ext_bad {w : World} {v : Value} {l : List Nat} (n : Int) (hv : WSl w v l) (he : n < 1 ∨ 65536 < n ∨ cwErr n.toNat l ≠ 0) :
    Calls Tryd.prog 15 #[.int .i64 n, v] w fun e w' => ∃ be bm bn, e = .returned (.func (.func 27) #[] #[.pointer (some ⟨be, 0, none⟩), .pointer (some ⟨bm, 0, none⟩), .pointer (some ⟨bn, 0, none⟩)]) ∧ exInvN be 0 w' ∧ Below w.heap.size w w' ∧ w.heap.size ≤ be := by
  have hb0 : Below w.heap.size w (w.alloc (Obj.cells #[Value.int IntKind.i64 n] 3)) := (Below.refl _ _).alloc (Nat.le_refl _) _
  have HF : Hid (Calls Tryd.prog 21 #[.int .i64 n, v] (w.alloc (Obj.cells #[Value.int IntKind.i64 n] 3)) fun e w' => ∃ ee : Int, (ee != 0) = true ∧ e = .returned (.tuple #[.pointer none, .int .i64 ee]) ∧ Below (w.alloc (Obj.cells #[Value.int IntKind.i64 n] 3)).heap.size (w.alloc (Obj.cells #[Value.int IntKind.i64 n] 3)) w') := hide (by
    by_cases h1 : 1 ≤ n ∧ n ≤ 65536
    · obtain ⟨m, rfl⟩ : ∃ m : Nat, n = (m : Int) := ⟨n.toNat, by omega⟩
      have he' : cwErr m l ≠ 0 := by rcases he with h | h | h <;> first | omega | simpa using h
      exact (From_bad m (by omega) (by omega) (hv.below hb0) he').mono fun e w' ⟨g1, g2⟩ => ⟨_, by simpa using he', g1, g2⟩
    · exact (From_no n h1 (hv.below hb0)).mono fun e w' ⟨g1, g2⟩ => ⟨1, rfl, g1, by rw [g2]; exact Below.refl _ _⟩)
  obtain ⟨va, vcap, rfl, -⟩ := hv
  have HB0 := hide hb0
  clear he hb0
  generalize l.length = llen at *
  go_enter Tryd.func15, Tryd.ntmps15
  go_wp2_with (go_at_call 21; refine HF.out.mono ?_; clear HF; rintro e w1 ⟨ee, hee, rfl, hb1⟩; have HB1 := hide hb1; have HEE := hide hee; clear hb1 hee)
  go_ret
  have hs1 := HB1.out.size
  rw [World.size_alloc] at hs1
  have ha : Below w1.heap.size w1 ((w1.alloc (Obj.cells #[Value.pointer none] 56)).alloc (Obj.cells #[Value.int IntKind.i64 ee] 24)) := ((Below.refl _ _).alloc (Nat.le_refl _) _).alloc (by simp) _
  refine ⟨w1.heap.size + 1, w1.heap.size, w.heap.size, rfl, ⟨ee, HEE.out, ?_⟩, HB0.out.trans ((HB1.out.mono (by simp)).trans (ha.mono (by omega))), by omega⟩
  have := Go.heap_alloc_new (w1.alloc (Obj.cells #[Value.pointer none] 56)) (Obj.cells #[Value.int IntKind.i64 ee] 24); rwa [World.size_alloc] at this
/-- an iterator that gives just the list WL, whenever it is gone over; it looks at the blocks from lo up to hi, and at the table -/
structure XI (be bm bn lo hi : Nat) (WL : List (Nat × Nat)) (EI : World → Prop) (Step : Nat → Nat × Nat → Nat → World → Prop) (End : Nat → World → Prop) (St : Nat → Prop) (pos : Nat → Nat) : Prop where
  seq : ∀ m, SeqSt Fence.wide m Tryd.prog 27 #[.pointer (some ⟨be, 0, none⟩), .pointer (some ⟨bm, 0, none⟩), .pointer (some ⟨bn, 0, none⟩)] exEnc Step End (fun _ W => EI W) 0
  stepW : ∀ s x s' W W', Step s x s' W → Step s x s' W'
  endW : ∀ s W W', End s W → End s W'
  s0 : St 0 ∧ pos 0 = 0
  st : ∀ s x s' W, St s → Step s x s' W → St s' ∧ pos s' = pos s + 1 ∧ pos s < WL.length ∧ WL.getD (pos s) (0, 0) = x
  en : ∀ s W, St s → End s W → pos s = WL.length
  keep : ∀ W W', EI W → (∀ (b : Nat) (o : Obj), b = 0 ∨ (lo ≤ b ∧ b < hi) → W.heap[b]? = some o → o.isCells = true → W'.heap[b]? = some o) → EI W'
theorem xi_good {W : World} {be bm bn n lo : Nat} {L : BL} {B : Nat} (h : EB W be bm bn n L B) (hlo : ∀ b, (L.U b ∨ b = be ∨ b = bm ∨ b = bn) → lo ≤ b) : XI be bm bn lo W.heap.size (eL B n (xs n)) (fun W => EB W be bm bn n L B) (exStep B n) (exEnd B n) (fun s => s ≤ n ∧ (s % 4 = 0 ∨ s = n)) (fun s => (eL B n (xs s)).length) := by
  refine ⟨fun m => ex_seq m be bm bn n L B, fun s x s' W W' h => h, fun s W W' h => h, ⟨⟨Nat.zero_le _, .inl rfl⟩, rfl⟩, ?_, ?_, ?_⟩
  · rintro s x s' W ⟨h1, h2⟩ ⟨-, -, b, hb, rfl, rfl⟩
    obtain ⟨e1, e2, e3, e4⟩ := ext_step h1 h2 hb
    have hlen : (eL B n (b / 4 + 1)).length = (eL B n (xs s)).length + 1 := by rw [e1]; simp
    refine ⟨⟨by omega, by omega⟩, by rw [e2]; exact hlen, ?_⟩
    obtain ⟨r, hr⟩ := eL_pre B n (x := b / 4 + 1) (y := xs n) (by unfold xs; omega)
    rw [hr, e1]
    refine ⟨by simp, ?_⟩
    simp [List.getD]
  · rintro s W ⟨h1, h2⟩ ⟨-, -, he⟩
    rw [ext_end h1 h2 he]
  · intro W1 W' hE hk
    have hlt : ∀ b, (L.U b ∨ b = be ∨ b = bm ∨ b = bn) → b < W.heap.size := by
      rintro b (hu | rfl | rfl | rfl)
      · exact h.rep.uLt b hu
      · exact (Array.getElem?_eq_some_iff.1 h.be).1
      · exact (Array.getElem?_eq_some_iff.1 h.bm).1
      · exact (Array.getElem?_eq_some_iff.1 h.bn).1
    have kp : ∀ (b : Nat) (cs : Array Value) (t : TypeId), W1.heap[b]? = some (.cells cs t (0, 0)) → (L.U b ∨ b = be ∨ b = bm ∨ b = bn) → W'.heap[b]? = some (.cells cs t (0, 0)) := fun b cs t hb hu => hk b _ (.inr ⟨hlo b hu, hlt b hu⟩) hb rfl
    refine ⟨hE.rep.kept fun b hu => ?_, ?_, kp _ _ _ hE.be (by simp), kp _ _ _ hE.bm (by simp), kp _ _ _ hE.bn (by simp)⟩
    · rcases hu with rfl | rfl | rfl
      · rw [kp _ _ _ hE.rep.hp (.inl (.inl rfl)), hE.rep.hp]
      · rw [kp _ _ _ hE.rep.hlo (.inl (.inr (.inl rfl))), hE.rep.hlo]
      · rw [kp _ _ _ hE.rep.hhi (.inl (.inr (.inr rfl))), hE.rep.hhi]
    · have ht := hE.tab.lt
      have hc := hE.tab 0 (by decide)
      obtain ⟨o, ho⟩ : ∃ o, W1.heap[0]? = some o := ⟨_, Array.getElem?_eq_getElem ht⟩
      have hoc : o.isCells = true := by
        unfold World.cell? at hc
        simp only [ho] at hc
        cases o <;> simp_all [Obj.isCells]
      exact hE.tab.of ((hk _ o (.inl rfl) ho hoc).trans ho.symm)
theorem xi_bad {W : World} {be bm bn lo : Nat} (h : exInvN be 0 W) (hlo : lo ≤ be) : XI be bm bn lo W.heap.size [] (fun W => exInvN be 0 W) (fun _ _ _ _ => False) (fun _ _ => True) (fun _ => True) (fun _ => 0) := by
  refine ⟨fun m => exN_seq m be bm bn, fun _ _ _ _ _ h => h, fun _ _ _ h => h, ⟨trivial, rfl⟩, fun _ _ _ _ _ h => h.elim, fun _ _ _ _ => rfl, ?_⟩
  rintro W1 W' ⟨e, he, hb⟩ hk
  obtain ⟨e0, he0, hb0⟩ := h
  exact ⟨e, he, hk be _ (.inr ⟨hlo, (Array.getElem?_eq_some_iff.1 hb0).1⟩) hb rfl⟩
end Go.Proofs.YtophcdfaflehcaaDoor
