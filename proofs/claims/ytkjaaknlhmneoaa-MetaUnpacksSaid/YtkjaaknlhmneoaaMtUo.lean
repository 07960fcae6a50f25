import Derived.Test.YtkjaaknlhmneoaaMtUe
namespace Go.Proofs.Ytkjaaknlhmneoaa
open Go.RowKit
open Num
set_option linter.unusedVariables false
set_option linter.unusedSimpArgs false
set_option maxRecDepth 20000

/-- three lists of words beside each other, behind a world that stays -/
structure UQ (Y x : World) (U1 U2 U3 : Nat) (T : List Nat) : Prop where
  bel : Below Y.heap.size Y x
  r1 : WRow x U1 T
  r2 : WRow x U2 T
  r3 : WRow x U3 T
  o1 : Y.heap.size ≤ U1
  o2 : U1 < U2
  o3 : U2 < U3
theorem UQ.step {Y x y : World} {U1 U2 U3 : Nat} {T : List Nat} (h : UQ Y x U1 U2 U3 T) (hb : Below x.heap.size x y) : UQ Y y U1 U2 U3 T := ⟨h.bel.trans (hb.mono h.bel.size), h.r1.below hb, h.r2.below hb, h.r3.below hb, h.o1, h.o2, h.o3⟩
/-- .. while the first is written over -/
structure UX (Y x : World) (U1 U2 U3 L : Nat) (T : List Nat) : Prop where
  bel : Below Y.heap.size Y x
  r1 : ∃ cs, x.heap[U1]? = some (.cells cs 43 (0, 0)) ∧ cs.size = L ∧ ∀ i, i < L → ∃ c, cs[i]? = some (.int .u64 c)
  r2 : WRow x U2 T
  r3 : WRow x U3 T
  o1 : Y.heap.size ≤ U1
  o2 : U1 < U2
  o3 : U2 < U3
theorem UQ.ux {Y x : World} {U1 U2 U3 L : Nat} {T : List Nat} (h : UQ Y x U1 U2 U3 T) (hL : T.length = L) : UX Y x U1 U2 U3 L T := ⟨h.bel, ⟨_, h.r1, by simp [hL], fun i hi => ⟨_, by rw [List.getElem?_toArray, List.getElem?_map, List.getElem?_eq_getElem (by omega)]; rfl⟩⟩, h.r2, h.r3, h.o1, h.o2, h.o3⟩
theorem UX.put {Y x : World} {U1 U2 U3 L : Nat} {T : List Nat} (h : UX Y x U1 U2 U3 L T) (i : Nat) (z : Int) : UX Y (x.setCell ⟨U1, i, none⟩ (.int .u64 z)) U1 U2 U3 L T := by
  obtain ⟨cs, h1, h2, h3⟩ := h.r1
  have o2 := h.o2
  have o3 := h.o3
  refine ⟨h.bel.setCell (p := ⟨U1, i, none⟩) h.o1 _, ⟨cs.setIfInBounds i (.int .u64 z), Go.heap_setCell_same x U1 i cs 43 _ h1, by simpa using h2, fun k hk => ?_⟩, (Go.heap_setCell_other _ _ _ _ (by show U2 ≠ U1; omega)).trans h.r2, (Go.heap_setCell_other _ _ _ _ (by show U3 ≠ U1; omega)).trans h.r3, h.o1, h.o2, h.o3⟩
  by_cases e : k = i
  · subst e; exact ⟨z, Array.getElem?_setIfInBounds_self_of_lt (by omega)⟩
  · obtain ⟨c, hc⟩ := h3 k hk
    exact ⟨c, by rw [Array.getElem?_setIfInBounds_ne (by omega)]; exact hc⟩
theorem UX.cell {Y x : World} {U1 U2 U3 L : Nat} {T : List Nat} (h : UX Y x U1 U2 U3 L T) {i : Nat} (hi : i < L) : (∃ c, x.cell? ⟨U1, i, none⟩ = some (.int .u64 c)) ∧ x.frozen? ⟨U1, i, none⟩ = false := by
  obtain ⟨cs, h1, h2, h3⟩ := h.r1
  obtain ⟨c, hc⟩ := h3 i hi
  exact ⟨⟨c, by rw [cell_of_row _ _ _ _ _ _ h1]; exact hc⟩, frozen_of_row _ _ _ _ _ h1⟩
theorem UX.own {Y x : World} {U1 U2 U3 L : Nat} {T : List Nat} (h : UX Y x U1 U2 U3 L T) (hL : L ≤ 1024) : ∃ xs, x.ownsRow 0 43 1 (.slice (some ⟨U1, 0, none⟩) L L) L xs := by
  obtain ⟨cs, h1, h2, _⟩ := h.r1
  refine ⟨cs.toList, by simp [h2], .inr ⟨U1, L, cs, rfl, Nat.zero_le _, h1, Nat.le_refl _, by unfold maxLen; omega, by omega, ?_⟩⟩
  rw [List.take_of_length_le (by simp [h2])]
/-- what is left of it behind the append -/
structure UY (Y x : World) (U2 U3 : Nat) (T : List Nat) : Prop where
  bel : Below Y.heap.size Y x
  r2 : WRow x U2 T
  r3 : WRow x U3 T
theorem UY.step {Y x y : World} {U2 U3 : Nat} {T : List Nat} (h : UY Y x U2 U3 T) (hb : Below x.heap.size x y) : UY Y y U2 U3 T := ⟨h.bel.trans (hb.mono h.bel.size), h.r2.below hb, h.r3.below hb⟩
theorem UX.grown {Y x z : World} {U1 U2 U3 L : Nat} {T : List Nat} (h : UX Y x U1 U2 U3 L T) {o : Obj} (hg : (x.alloc o).grownBy z (some U1)) : UY Y z U2 U3 T := by
  have o1 := h.o1
  have o2 := h.o2
  have o3 := h.o3
  have l2 := (Array.getElem?_eq_some_iff.1 h.r2).1
  have l3 := (Array.getElem?_eq_some_iff.1 h.r3).1
  have hs := h.bel.size
  have sz : (x.alloc o).heap.size = x.heap.size + 1 := by simp
  have kp : ∀ b, b < x.heap.size → b ≠ U1 → z.heap[b]? = x.heap[b]? := fun b hb hne => (hg.block b (by omega) (by simpa using hne)).trans (Below.heap_alloc x o b hb)
  have hgs := hg.size
  exact ⟨⟨hg.os.trans h.bel.os, hg.tape.trans h.bel.tape, hg.output.trans h.bel.output, by omega, fun b hb => (kp b (by omega) (by omega)).trans (h.bel.block b hb)⟩, (kp _ l2 (by omega)).trans h.r2, (kp _ l3 (by omega)).trans h.r3⟩
theorem drew_below (x : World) (q : Nat) : Below x.heap.size x (x.drewN q) := ⟨rfl, rfl, rfl, Nat.le_refl _, fun _ _ => rfl⟩
theorem slice_of {w : World} {base : Nat} {e : TypeId} {c : Nat} {v : Value} {n : Nat} {xs : List Value} (h : w.ownsRow base e c v n xs) (hn : 0 < n) : ∃ va vc, v = .slice va n vc ∧ True := by
  rcases h.2 with ⟨e0, e1⟩ | ⟨g', c', cur, e0, _⟩
  · omega
  · exact ⟨_, _, e0, trivial⟩
set_option maxHeartbeats 4000000 in
theorem unpacks_ok (w : World) (n s : Int) (v : Value) (Bs : List (List Nat)) (hv : LL w v Bs) (hN : Bs.length ≤ 5864062014634) (L : Nat) (hL : L ≤ 1024) (T : List Nat) (hT : T.length = L) (lost : Bool)
    (hU : ∀ x Og, AR x Og Bs → Calls Try.prog 17 #[.int .i64 n, .slice (some ⟨Og, 0, none⟩) Bs.length (Bs.length + 1), .int .i64 s] x fun e w' => e = .returned (.tuple #[.slice (some ⟨x.heap.size, 0, none⟩) L L, .bool lost, .int .i64 0]) ∧ WRow w' x.heap.size T ∧ Below x.heap.size x w')
    (hZ : ∀ x, Calls Try.prog 17 #[.int .i64 n, .slice none 0 0, .int .i64 s] x fun e w' => (∃ z, e = .returned z) ∧ Below x.heap.size x w')
    (hF : ∀ x, LL x v Bs → Calls Try.prog 28 #[.int .i64 n, v, .int .i64 s] x fun e w' => ∃ U, e = .returned (.tuple #[.slice (some ⟨U, 0, none⟩) L L, .bool lost, .int .i64 0]) ∧ WRow w' U T ∧ x.heap.size ≤ U ∧ Below x.heap.size x w') :
    Calls Try.prog 8 #[.int .i64 n, v, .int .i64 s] w fun e w' => e = .returned (.bool true) ∧ Below w.heap.size w w' := by
  have HH := hide (handBlocks_any w v Bs hv hN)
  have HAB := hide fun x inV gs (h1 : LL x v Bs) (h2 : HN x inV Bs gs) => argBlocks_any x inV v Bs gs h1 h2 hN
  have HT := hide fun x inV Og gs (h : UV w x v inV Og Bs gs) => untouchedBlocks_any x inV v Og Bs gs h.ll h.hn h.ar hN
  have HU := hide hU
  have HZ := hide hZ
  have HF := hide hF
  have HSW := hide fun x U V (h1 : WRow x U T) (h2 : WRow x V T) => sameWords_eq x U V L T h1 h2 hT (by omega)
  have HV := hide hv
  obtain ⟨i0, hi0, hz0, hz1, hz2⟩ := info_parts Try.infoU6
  obtain ⟨a, cap, rfl, q1, q2, q3, q4⟩ := id hv
  unfold maxLen at q2
  have HTL := hide hT
  have hlo : (lost != lost) = false := by cases lost <;> rfl
  clear q3 q4 hU hZ hF hv hT
  generalize hLL : Bs.length = N at *
  clear hLL
  have n6 : ¬ N + 1 = 0 := by omega
  go_enter Try.func8, Try.ntmps8
  go_wp2_with (first
    | (go_at_call 26; refine HH.out.mono ?_; rintro e y1 ⟨inV, gs, rfl, hn1, hb1⟩; have N1 := hide hn1; have B1 := hide hb1; have V1 := hide (HV.out.below hb1); clear hn1 hb1 HH HV)
    | (go_at_call 27; refine (HAB.out _ _ _ V1.out N1.out).mono ?_; rintro e Y ⟨rfl, ha2, hb2⟩; have WY : Hid (UV w Y (.slice a N cap) inV y1.heap.size Bs gs) := hide ⟨V1.out.below hb2, N1.out.below hb2, ha2, B1.out.trans (hb2.mono B1.out.size)⟩; clear ha2 hb2 V1 N1 B1 HAB; generalize y1.heap.size = Og at *)
    | (go_at_call 17; refine (HU.out _ _ WY.out.ar).mono ?_; rintro e y3 ⟨rfl, hr, hb⟩; have W3 := hide (WY.out.step hb); have R3 := hide hr; have L3 : Hid (Y.heap.size < y3.heap.size) := hide (Array.getElem?_eq_some_iff.1 hr).1; have B3 := hide hb; have HTQ := hide fun x (h : Below Y.heap.size Y x) => HT.out x inV Og gs (WY.out.step h); have HBW := hide fun x (h : Below Y.heap.size Y x) => (WY.out.step h); clear hb hr WY HT)
    | (go_at_call 17; refine (HU.out _ _ W3.out.ar).mono ?_; rintro e y4 ⟨rfl, hr, hb⟩; have B4 : Hid (Below Y.heap.size Y y4) := hide (B3.out.trans (hb.mono (Nat.le_of_lt L3.out))); have R4 := hide (R3.out.below hb); have S4 := hide hr; have L4 : Hid (y3.heap.size < y4.heap.size) := hide (Array.getElem?_eq_some_iff.1 hr).1; clear hb hr B3 R3 W3)
    | (go_at_call 17; refine (HZ.out _).mono ?_; rintro e y5 ⟨⟨z5, rfl⟩, hb⟩; have B5 : Hid (Below Y.heap.size Y y5) := hide (B4.out.trans (hb.mono (by have := L3.out; have := L4.out; omega))); have R5 := hide (R4.out.below hb); have S5 := hide (S4.out.below hb); have L5 : Hid (y3.heap.size < y5.heap.size) := hide (Nat.lt_of_lt_of_le L4.out hb.size); have V5 := hide (HBW.out y5 B5.out).ll; clear hb B4 R4 S4 L4 HZ)
    | (go_at_call 28; refine (HF.out _ V5.out).mono ?_; rintro e y6 ⟨U3, rfl, hr, hu, hb⟩; have Q6 : Hid (UQ Y y6 Y.heap.size y3.heap.size U3 T) := hide ⟨B5.out.trans (hb.mono (by have := L3.out; have := L5.out; omega)), R5.out.below hb, S5.out.below hb, hr, Nat.le_refl _, L3.out, by have := L5.out; omega⟩; clear hb hr hu B5 R5 S5 L3 L5 HF V5)
    | (go_at_call 18; refine (HSW.out _ _ _ Q6.out.r1 Q6.out.r3).mono ?_; rintro e y7 ⟨rfl, hb⟩; have Q7 := hide (Q6.out.step hb); clear hb Q6)
    | (go_at_call 18; refine (HSW.out _ _ _ Q7.out.r2 Q7.out.r3).mono ?_; rintro e y8 ⟨rfl, hb⟩; have Q8 := hide (Q7.out.step hb); clear hb Q7)
    | (go_at_call 29; refine (HTQ.out _ Q8.out.bel).mono ?_; rintro e y9 ⟨rfl, hb⟩; have Q9 := hide (Q8.out.step hb); clear hb Q8))
  have HX0 := hide (Q9.out.ux HTL.out)
  obtain ⟨U1, hU1⟩ : ∃ U1, Y.heap.size = U1 := ⟨_, rfl⟩
  obtain ⟨U2, hU2⟩ : ∃ U2, y3.heap.size = U2 := ⟨_, rfl⟩
  rw [hU1, hU2] at HX0
  rw [hU1, hU2]
  have HU1 := hide hU1
  clear hU1 hU2 Q9
  go_loopw [18] (fun x wr => ∃ i : Nat, i ≤ L ∧ x = .int .i64 (i : Int) ∧ UX Y wr U1 U2 U3 L T) (fun x _ => L - (intOf x).toNat)
  case atStart => exact ⟨0, Nat.zero_le _, rfl, HX0.out⟩
  case round =>
    obtain ⟨i, hi, rfl, hx⟩ := hrel
    have HX := hide hx
    clear hx HX0
    by_cases hlt : i < L
    · have i1 : (i : Int) < (L : Int) := by omega
      obtain ⟨⟨c, c1⟩, c2⟩ := HX.out.cell hlt
      have HX2 := hide (HX.out.put i 12345)
      go_wp2_with fail
      go_roundw
      case rel => exact ⟨i + 1, by omega, by go_num, HX2.out⟩
      case measure => simp [intOf]; omega
    · obtain rfl : L = i := by omega
      obtain ⟨xs, hown⟩ := HX.out.own hL
      have HOX := hide (rowKept (w' := wr.alloc (.cells #[.int .u64 12345, .int .u64 12345] 43)) hown (fun g hg => Below.heap_alloc wr _ g (by simp only [Value.ownBlock, Option.some.injEq] at hg; subst hg; obtain ⟨cs, h1, _⟩ := HX.out.r1; exact (Array.getElem?_eq_some_iff.1 h1).1)))
      clear hown
      have HNW : Hid (∀ k z, ([.int .u64 12345, .int .u64 12345] : List Value)[k]? = some z → (wr.alloc (.cells #[.int .u64 12345, .int .u64 12345] 43)).cell? ((⟨wr.heap.size, 0, none⟩ : Addr).add k) = some z) := hide fun k z hz => by
        rw [Addr.add_lit, Nat.zero_add, cell_of_row _ _ _ _ _ _ (Go.heap_alloc_new _ _)]
        simpa using hz
      have HGR := hide fun z (hg : (wr.alloc (.cells #[.int .u64 12345, .int .u64 12345] 43)).grownBy z (some U1)) => HX.out.grown hg
      clear HX
      go_wp2_with (first
        | (at_builtin; refine wpList_append_own _ rfl (.tmp 96) (.tmp 97) 35 rfl 0 43 i0 (.int .u64 0) 1 8 Try.underlying35 hi0 hz0 hz1 hz2 rfl (by decide) _ L _ rfl HOX.out ⟨wr.heap.size, 0, none⟩ 2 2 [.int .u64 12345, .int .u64 12345] rfl rfl HNW.out (by simp [Value.oneCell']) (by unfold maxLen; omega) (by omega) (Nat.zero_le _) ?_; intro v' z hzo hzg hzi; have HY1 := hide (HGR.out z hzg); obtain ⟨va, vc, hva, _⟩ : ∃ va vc, v' = .slice va (L + 2) vc ∧ True := (slice_of hzo (by omega)); subst hva; have W1 := hide (HBW.out z HY1.out.bel); clear hzo hzg hzi HOX HNW HGR)
        | (go_at_call 17; refine (HU.out _ _ W1.out.ar).mono ?_; rintro e x1 ⟨rfl, hr, hb⟩; have Y2 := hide (HY1.out.step hb); have R2 := hide hr; clear hb hr HY1 W1)
        | (go_at_call 18; refine (HSW.out _ _ _ R2.out Y2.out.r3).mono ?_; rintro e x2 ⟨rfl, hb⟩; have Y3 := hide (Y2.out.step hb); clear hb Y2 R2)
        | (go_at_call 18; refine (HSW.out _ _ _ Y3.out.r2 Y3.out.r3).mono ?_; rintro e x3 ⟨rfl, hb⟩; have Y4 := hide (Y3.out.step hb); clear hb Y3)
        | (go_at_call 29; refine (HTQ.out _ Y4.out.bel).mono ?_; rintro e x4 ⟨rfl, hb⟩; have Y5 := hide (Y4.out.step hb); clear hb Y4))
      have HFB := (HBW.out _ Y5.out.bel).bel
      go_ret
      exact ⟨by first | rfl | (simp; done), HFB⟩
end Go.Proofs.Ytkjaaknlhmneoaa
