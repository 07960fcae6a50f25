import Derived.Test.YtglajdmkbckjjaaDoorBUnion3
namespace Go.Proofs.YtglajdmkbckjjaaDoor
open Go.RowKit Go.Shelf
attribute [local go_sem] Oper.semAt_some
set_option linter.unusedVariables false
set_option linter.unusedSimpArgs false
set_option maxRecDepth 20000

def unB (w : World) (N ub len kz : Nat) (Lu : BL) (n : Nat) (v : Value) (ls : List (List Nat)) (a : Act) (W : World) : Prop :=
  ∃ (k : Nat) (ds : List Deferred) (u4 u5 u7 u8 u9 u10 u11 u12 u13 u14 u15 u16 u17 u18 u19 u20 u21 u25 u26 u27 u28 u29 u30 u31 u32 u33 u34 u35 u36 u37 u38 u39 u40 u41 u42 u43 u44 u45 u46 u47 : Value), a = { tmps := #[.int .i64 (n : Int), v, undef, undef, u4, u5, .pointer (some ⟨ub, 0, none⟩), u7, u8, u9, u10, u11, u12, u13, u14, u15, u16, u17, u18, u19, u20, u21, v, .int .i64 (len : Int), .int .i64 (k : Int), u25, u26, u27, u28, u29, u30, u31, u32, u33, u34, u35, u36, u37, u38, u39, u40, u41, u42, u43, u44, u45, u46, u47], defers := ds } ∧ k ≤ kz ∧ VInv w W N ub Lu n (orAll (ls.take k)) ds

set_option maxHeartbeats 4000000 in
theorem Union_bad {w : World} {v : Value} {ls : List (List Nat)} (n kz : Nat) (hT : TabAt w) (h1 : 1 ≤ n) (h2 : n ≤ 65536) (hv : LSl w v ls) (hkz : kz < ls.length) (he : ∀ i, i < kz → cwErr n (ls.getD i []) = 0) (hbad : cwErr n (ls.getD kz []) ≠ 0) :
    Calls Tryd.prog 18 #[.int .i64 (n : Int), v] w fun e w' => e = .returned (.tuple #[.slice none 0 0, .int .i64 ((cwErr n (ls.getD kz []) : Nat) : Int)]) ∧ Below w.heap.size w w' := by
  have HFB : Hid (∀ x u, WSl x u (ls.getD kz []) → Calls Tryd.prog 35 #[.int .i64 (n : Int), u] x fun e w' => e = .returned (.tuple #[.pointer none, .int .i64 ((cwErr n (ls.getD kz []) : Nat) : Int)]) ∧ Below x.heap.size x w') := hide fun x u hu => From_bad n h1 h2 hu hbad
  generalize cwErr n (ls.getD kz []) = er at *
  refine (callsIn_wide (n := 5)).1 ?_
  have HN := hide (New_any w n h1 h2)
  have HT := hide hT
  have htl := hT.lt
  have HV := hide hv
  have HE := hide he
  have HBAD := hide hbad
  obtain ⟨a, cap, rfl, p1, p2, p5⟩ := hv
  unfold maxLen at p2
  have HC := hide p5
  clear p5 hT he hbad
  obtain ⟨len, hlen⟩ : ∃ len, ls.length = len := ⟨_, rfl⟩
  have HLEN := hide hlen
  rw [hlen] at p1 HC HV hkz
  rw [hlen]
  clear hlen
  refine callsIn_of_wp_marks Tryd.func18 rfl trivial ?_ rfl
  simp only [Tryd.ntmps18, List.size_toArray, List.length_cons, List.length_nil, Nat.reduceAdd, Nat.reduceSub, Array.replicate_succ, Array.replicate_zero, List.push_toArray, List.append_toArray, List.nil_append, List.cons_append]
  gi_wp2_with (refine ⟨trivial, ?_⟩; gi_at_call 46; refine (callsIn_wide.2 HN.out).mono ?_; clear HN; rintro e w1 ⟨Lu, rfl, hn0⟩; have HNEW := hide hn0; clear hn0; unfold PB)
  obtain ⟨ub, hub⟩ : ∃ ub, w1.heap.size = ub := ⟨_, rfl⟩
  obtain ⟨N, hNN⟩ : ∃ N, w.heap.size = N := ⟨_, rfl⟩
  have hUu : Hid (∀ b, Lu.U b → N ≤ b ∧ b < ub) := hide fun b hb => ⟨by rw [← hNN]; exact HNEW.out.2.2 b hb, by rw [← hub]; exact HNEW.out.1.uLt b hb⟩
  have hNu : N ≤ ub := by rw [← hNN, ← hub]; exact HNEW.out.2.1.size
  have START : VInv w (w1.alloc (Obj.cells #[Value.pointer (some ⟨Lu.p, 0, none⟩)] 25)) N ub Lu n (orAll (ls.take 0)) [] := by
    have hb1 : Below w1.heap.size w1 (w1.alloc (Obj.cells #[Value.pointer (some ⟨Lu.p, 0, none⟩)] 25)) := (Below.refl _ _).alloc (Nat.le_refl _) _
    have hb2 := HNEW.out.2.1.trans (hb1.mono HNEW.out.2.1.size)
    exact ⟨HNEW.out.1.below hb1, HT.out.below hb2, by rw [← hNN]; exact hb2, by rw [← hub]; exact Go.heap_alloc_new w1 _, trivial, fun _ h => by cases h⟩
  rw [hub]
  have HNN := hide hNN
  rw [hNN] at htl
  clear HNEW hNN
  generalize w1.alloc (Obj.cells #[Value.pointer (some ⟨Lu.p, 0, none⟩)] 25) = W1 at *
  clear hub
  refine wpIn_loop (unB w N ub len kz Lu n (.slice a len cap) ls) (fun a _ => kz - (intOf (a.tmps.getD 24 undef)).toNat) ⟨0, [], _, _, _, _, _, _, _, _, _, _, _, _, _, _, _, _, _, _, _, _, _, _, _, _, _, _, _, _, _, _, _, _, _, _, _, _, _, _, _, _, rfl, Nat.zero_le _, START⟩ ?_
  clear START
  rintro a' W ⟨k, ds, u4, u5, u7, u8, u9, u10, u11, u12, u13, u14, u15, u16, u17, u18, u19, u20, u21, u25, u26, u27, u28, u29, u30, u31, u32, u33, u34, u35, u36, u37, u38, u39, u40, u41, u42, u43, u44, u45, u46, u47, rfl, hk, hI⟩
  have HI := hide hI
  have kb : W.cell? ⟨ub, 0, none⟩ = some (.pointer (some ⟨Lu.p, 0, none⟩)) := by rw [cell_of_row _ _ _ _ _ _ hI.b0]; rfl
  have hubW : ub < W.heap.size := (Array.getElem?_eq_some_iff.1 hI.b0).1
  clear hI
  by_cases hlt : k < kz
  · obtain ⟨b, off, rfl, hc⟩ := HC.out (by omega)
    obtain ⟨u, hu, hw⟩ := hc k (by omega)
    have hbelW : Below w.heap.size w W := by rw [HNN.out]; exact HI.out.bel
    replace hu := cell_below hbelW hu
    have hF := From_any n h1 h2 (hw.below hbelW) (HE.out k hlt)
    have hVl := (valW_listed h1 hw.lt (HE.out k hlt)).2
    have HST := hide (orAll_take (ls := ls) (k := k) (by rw [HLEN.out]; omega))
    generalize valW (ls.getD k []) = V at *
    have HF := hide hF
    clear hF hc hbelW
    obtain ⟨ua, ucap, rfl, -⟩ := hw
    generalize (ls.getD k []).length = ulen at *
    gi_wp2_with (first
      | (refine ⟨trivial, ?_⟩; gi_at_call 35; refine (callsIn_wide.2 HF.out).mono ?_; clear HF; rintro e w2 ⟨Lm, rfl, hnm⟩; have HNM := hide hnm; clear hnm; unfold PB)
      | (refine ⟨trivial, ?_⟩; gi_at_call 11; refine (callsIn_wide.2 (Runs_any _ _)).mono ?_; rintro e w' ⟨rfl, rfl⟩))
    obtain ⟨rb, hrb⟩ : ∃ rb, w2.heap.size = rb := ⟨_, rfl⟩
    have hsW2 : W.heap.size ≤ rb := by rw [← hrb]; exact HNM.out.2.1.size
    have hUm : Hid (∀ b, Lm.U b → W.heap.size ≤ b ∧ b < rb) := hide fun b hb => ⟨HNM.out.2.2 b hb, by rw [← hrb]; exact HNM.out.1.uLt b hb⟩
    obtain ⟨W0, hW0⟩ : ∃ W0, w2.alloc (Obj.cells #[PB Lm] 25) = W0 := ⟨_, rfl⟩
    have hsz : W0.heap.size = rb + 1 := by rw [← hW0, ← hrb]; simp
    have START : UInv w W0 N ub rb Lu Lm n (lowU (orAll (ls.take k)) V 0) V ds := by
      rw [lowU_zero]
      have hb1 : Below W.heap.size W w2 := HNM.out.2.1
      have hb2 : Below w2.heap.size w2 W0 := by rw [← hW0]; exact (Below.refl _ _).alloc (Nat.le_refl _) _
      have hb3 : Below W.heap.size W W0 := hb1.trans (hb2.mono hb1.size)
      exact ⟨HI.out.ru.below hb3, HNM.out.1.below hb2, HI.out.tab.below hb3, HI.out.bel.trans (hb3.mono (by omega)), (hb3.block _ hubW).trans HI.out.b0, by rw [← hW0, ← hrb]; exact Go.heap_alloc_new w2 _, Marks.keeps (KeepsFrom.ofBelow hb3 N) HI.out.ms⟩
    have hDs : Hid (∀ d ∈ ds, ∀ D, d.target = .collected D → D < W0.heap.size) := hide fun d hd D e => by
      have key : ∀ (ds : List Deferred), Marks W ds → ∀ d ∈ ds, ∀ D, d.target = .collected D → D < W.heap.size := by
        intro ds
        induction ds with
        | nil => exact fun _ d h => by cases h
        | cons d0 r ih =>
          rintro ⟨⟨E, rfl, hE, _⟩, hm⟩ d hd D e
          rcases List.mem_cons.1 hd with rfl | hd
          · cases e; exact (Array.getElem?_eq_some_iff.1 hE).1
          · exact ih hm d hd D e
      have := key ds HI.out.ms.1 d hd D e
      omega
    rw [hrb, hW0]
    clear hW0 HNM hrb HI kb hu
    refine wpIn_range_st rfl (by decide) (gf := 38) (lb := #[.pointer (some ⟨rb, 0, none⟩)]) rfl trivial enters38
      (runs_seq _ rb Lm n) (fun _ => rfl)
      (fun s W => s ≤ n ∧ UInv w W N ub rb Lu Lm n (lowU (orAll (ls.take k)) V s) V ds)
      (fun _ _ => False)
      (fun s A B' row hs hg hr => ⟨hs.1, hs.2.own (by omega) (by omega) hDs.out (Nat.le_trans hNu (Nat.le_of_lt (Array.getElem?_eq_some_iff.1 hs.2.b0).1)) hg hr⟩)
      (fun _ _ _ _ _ hs _ _ => hs)
      (fun s W hs => ⟨⟨V, hs.2.rm⟩, hs.2.tab, by rw [cell_of_row _ _ _ _ _ _ hs.2.b1]; rfl⟩)
      (fun s x s' => fun _ A B' row hs hg hr => by obtain ⟨B2, e1, e2, e3, e4⟩ := hs; exact ⟨B2, own_rep e1 hg hr, e2, e3, e4⟩) (fun s A B' row hs hg hr => by obtain ⟨B2, e1, e2⟩ := hs; exact ⟨B2, own_rep e1 hg hr, e2⟩)
      ⟨Nat.zero_le _, START⟩
      ?a1 ?assign ?body ?done ?stop
    case assign =>
      intro l x W K hK
      simp only [rnEnc]
      gi_wp2
      exact hK
    case body =>
      rintro l s x s' W hl1 hl2 ⟨hs1, hI⟩ ⟨B', hR, hx1, hx2, rfl⟩
      obtain rfl := hI.rm.uniq hR
      obtain ⟨i, en⟩ := x
      dsimp only at hx1 hx2 ⊢
      obtain ⟨r1, r2, r3⟩ := run_ends hs1 hx1
      obtain ⟨f1, f2, f3, f4⟩ := nx_facts hx1 hs1
      obtain ⟨g1, g2⟩ := run_all f3 f2
      rw [← hx2] at r2 r3 g1 g2
      have hlow := lowU_step (B := orAll (ls.take k)) (n := n) r1 (Nat.le_of_lt r2) f4 g1
      have hset := SetRange_any hI.ru (a := i) (c := en - i) (by omega)
      rw [show i + (en - i) = en by omega, hlow, show ((en - i : Nat) : Int) = (en : Int) - (i : Int) by omega] at hset
      have HS := hide hset
      have HI := hide hI
      have kb : W.cell? ⟨ub, 0, none⟩ = some (.pointer (some ⟨Lu.p, 0, none⟩)) := by rw [cell_of_row _ _ _ _ _ _ hI.b0]; rfl
      have hubW2 : ub < W.heap.size := (Array.getElem?_eq_some_iff.1 hI.b0).1
      clear START hset hlow hI hR f3 f4 hx1 hx2 g1 g2
      unfold PB at *
      gi_wp2_with (refine ⟨trivial, ?_⟩; gi_at_call 36; refine (CallsIn.inRound l (callsIn_wide.2 HS.out)).mono ?_; clear HS; rintro e w3 ⟨rfl, hr3, hc3⟩; have HR3 := hide hr3; have HC3 := hide hc3; clear hr3 hc3)
      exact ⟨KeepsFrom.ofChg HC3.out HI.out.ru _, r3, HI.out.set HR3.out HC3.out (fun b hb => (hUu.out b hb).1) htl (fun b hb hb' => by have := (hUm.out b hb).1; have := (hUu.out b hb').2; omega) (fun hu => by have := (hUu.out _ hu).2; omega) (fun hu => by have := (hUu.out _ hu).2; omega) (by omega)⟩
    case done =>
      rintro D s W hD ⟨B', hR, hx⟩ ⟨hs1, hI⟩ hK
      obtain rfl := hI.rm.uniq hR
      have hle := lowU_end (B := orAll (ls.take k)) hVl (nx_no hx)
      rw [hle, ← HST.out] at hI
      have HI := hide hI
      have HM : Hid (MarksAt N W ({ target := .collected D, args := #[] } :: ds)) := hide ⟨⟨⟨D, rfl, hK, fun d' hd' e => by have := hDs.out d' hd' D e; omega⟩, hI.ms.1⟩, fun d hd => by
        rcases List.mem_cons.1 hd with rfl | hd
        · exact ⟨D, rfl, by omega⟩
        · exact hI.ms.2 d hd⟩
      clear START hI hR hx hle hK
      gi_wp2
      refine ⟨⟨k + 1, _, _, _, _, _, _, _, _, _, _, _, _, _, _, _, _, _, _, _, _, _, _, _, _, _, _, _, _, _, _, _, _, _, _, _, _, _, _, _, _, _, rfl, by omega, HI.out.ru, HI.out.tab, HI.out.bel, HI.out.b0, HM.out⟩, ?_⟩
      simp [intOf]
      omega
    case stop =>
      rintro D c W hD h hK
      exact h.elim
  · have ek : k = kz := by omega
    subst ek
    obtain ⟨b, off, rfl, hc⟩ := HC.out (by omega)
    obtain ⟨u, hu, hw⟩ := hc k (by omega)
    have hbelW : Below w.heap.size w W := by rw [HNN.out]; exact HI.out.bel
    replace hu := cell_below hbelW hu
    have hF := HFB.out _ _ (hw.below hbelW)
    have HF := hide hF
    have hb1 := HBAD.out
    clear hF hc hbelW HBAD
    have b0 : ((er : Int) == 0) = false := by simp; omega
    obtain ⟨ua, ucap, rfl, -⟩ := hw
    generalize (ls.getD k []).length = ulen at *
    gi_wp2_with (first
      | (refine ⟨trivial, ?_⟩; gi_at_call 35; refine (callsIn_wide.2 HF.out).mono ?_; clear HF; rintro e w2 ⟨rfl, hb2⟩; have HB2 := hide hb2; clear hb2))
    refine leaves_marks (N := N) ds w2 (Marks.keeps (KeepsFrom.ofBelow HB2.out N) HI.out.ms) fun W' hW' => ?_
    refine ⟨_, results_tmp2 rfl _ _ _, rfl, ?_⟩
    rw [HNN.out]
    exact Turned.below (HI.out.bel.trans (HB2.out.mono (by omega))) hW'
theorem Union_no {w : World} {v : Value} {ls : List (List Nat)} (n : Int) (h : ¬ (1 ≤ n ∧ n ≤ 65536)) (hv : LSl w v ls) :
    Calls Tryd.prog 18 #[.int .i64 n, v] w fun e w' => e = .returned (.tuple #[.slice none 0 0, .int .i64 1]) ∧ Below w.heap.size w w' := by
  refine (callsIn_wide (n := 5)).1 ?_
  have HN := hide (New_no w n h)
  obtain ⟨a, cap, rfl, p1, p2, p5⟩ := hv
  unfold maxLen at p2
  clear p5
  generalize ls.length = len at *
  refine callsIn_of_wp_marks Tryd.func18 rfl trivial ?_ rfl
  simp only [Tryd.ntmps18, List.size_toArray, List.length_cons, List.length_nil, Nat.reduceAdd, Nat.reduceSub, Array.replicate_succ, Array.replicate_zero, List.push_toArray, List.append_toArray, List.nil_append, List.cons_append]
  gi_wp2_with (refine ⟨trivial, ?_⟩; gi_at_call 46; refine (callsIn_wide.2 HN.out).mono ?_; clear HN; rintro e w1 ⟨rfl, rfl⟩)
  exact ⟨_, results_tmp2 rfl _ _ _, rfl, (Below.refl _ _).alloc (Nat.le_refl _) _⟩
end Go.Proofs.YtglajdmkbckjjaaDoor
