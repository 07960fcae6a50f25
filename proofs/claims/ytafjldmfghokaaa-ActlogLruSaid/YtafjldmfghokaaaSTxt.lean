import Derived.Test.YtafjldmfghokaaaSTwo
namespace Go.Proofs.Ytafjldmfghokaaa.St
open Go.RowKit Go.Sort
set_option linter.unusedVariables false
set_option linter.unusedSimpArgs false
set_option maxRecDepth 20000

/-- the walk of texts: both Lrus, and the ask in its block -/
structure TX (A : Nat → Prop) (w0 x : World) (p q M m : Nat) (k0 k1 k2 : Int) : Prop where
  two : Two (fun b => A b ∧ b ≠ m) x p q M
  o : x.heap[m]? = some (.cells #[.int .i64 k0, .int .i64 k1, .int .i64 k2] 51 (0, 0))
  ch : Chg A w0 x
theorem TX.start {A : Nat → Prop} {w : World} {p q M : Nat} (h : Two A w p q M) (k0 k1 k2 : Int) : TX A w (w.alloc (.cells #[.int .i64 k0, .int .i64 k1, .int .i64 k2] 51)) p q M w.heap.size k0 k1 k2 :=
  ⟨h.narrow _, Go.heap_alloc_new _ _, Chg.ofBelow ((Below.refl _ _).alloc (Nat.le_refl _) _)⟩
theorem TX.step {A : Nat → Prop} {w0 x y : World} {p q M N m : Nat} {k0 k1 k2 : Int} (h : TX A w0 x p q M m k0 k1 k2) (ht : Two (fun b => A b ∧ b ≠ m) y p q N) (hc : Chg (fun b => A b ∧ b ≠ m) x y) : TX A w0 y p q N m k0 k1 k2 :=
  ⟨ht, (hc.keep m (Array.getElem?_eq_some_iff.1 h.o).1 (fun e => e.2 rfl)).trans h.o, h.ch.trans (hc.mono fun b _ e => e.1)⟩
theorem TX.below {A : Nat → Prop} {w0 x y : World} {p q M m : Nat} {k0 k1 k2 : Int} (h : TX A w0 x p q M m k0 k1 k2) (hb : Below x.heap.size x y) : TX A w0 y p q M m k0 k1 k2 :=
  h.step (h.two.below hb) (Chg.ofBelow hb)
theorem TX.c {A : Nat → Prop} {w0 x : World} {p q M m : Nat} {k0 k1 k2 : Int} (h : TX A w0 x p q M m k0 k1 k2) (i : Nat) : x.cell? ⟨m, i, none⟩ = (#[.int .i64 k0, .int .i64 k1, .int .i64 k2] : Array Value)[i]? := cell_of_row _ _ _ _ _ _ h.o
theorem TX.fin {A : Nat → Prop} {w0 x : World} {p q M N m : Nat} {k0 k1 k2 : Int} (h : TX A w0 x p q M m k0 k1 k2) (hn : M ≤ N) : Two A x p q N ∧ Chg A w0 x := ⟨(h.two.mono fun b e => e.1).more hn, h.ch⟩
theorem TX.drewN {A : Nat → Prop} {w0 x : World} {p q M m : Nat} {k0 k1 k2 : Int} (h : TX A w0 x p q M m k0 k1 k2) (n : Nat) : TX A w0 (x.drewN n) p q M m k0 k1 k2 := h.below (below_drewN (Below.refl _ _) n)
set_option maxHeartbeats 1000000 in
theorem texts_slot {A : Nat → Prop} {p q M : Nat} {w : World} (h : Two A w p q M) (k1 k2 i : Int) (hk : i64ok k2) :
    Calls Try.prog 21 #[.pointer (some ⟨p, 0, none⟩), .pointer (some ⟨q, 0, none⟩), .agg #[.int .i64 3, .int .i64 k1, .int .i64 k2], .int .i64 i] w fun e w' => e = .returned (.bool true) ∧ Two A w' p q (M + 1) ∧ Chg A w w' := by
  have HS := hide (TX.start h 3 k1 k2)
  have HNM := hide (name_any (w.alloc (.cells #[.int .i64 3, .int .i64 k1, .int .i64 k2] 51)) k2 hk)
  have HK := hide hk
  clear h hk
  go_enter Try.func21, Try.ntmps21
  go_wp2_with (first
    | (go_at_call 44; refine HNM.out.mono ?_; rintro e w1 ⟨rfl, hb⟩; have HX := hide (HS.out.below hb); have c0 : w1.cell? ⟨w.heap.size, 0, none⟩ = some (.int .i64 3) := HX.out.c 0; have c2 : w1.cell? ⟨w.heap.size, 2, none⟩ = some (.int .i64 k2) := HX.out.c 2; clear hb HNM HS))
  obtain ⟨r, hr⟩ := two_slot HX.out.two HK.out
  have HR := hide hr
  clear hr
  go_quiet (first | (go_at_call 51; exact Calls.quiet_of_same (HR.out _).1) | (go_at_call 52; exact Calls.quiet_of_same (HR.out _).2))
  go_wp2_with fail
  go_ret
  exact ⟨rfl, (HX.out.drewN _).fin (by omega)⟩
set_option maxHeartbeats 1000000 in
theorem texts_refs {A : Nat → Prop} {p q M : Nat} {w : World} (h : Two A w p q M) (k1 k2 i : Int) (hk : i64ok k2) :
    Calls Try.prog 21 #[.pointer (some ⟨p, 0, none⟩), .pointer (some ⟨q, 0, none⟩), .agg #[.int .i64 2, .int .i64 k1, .int .i64 k2], .int .i64 i] w fun e w' => e = .returned (.bool true) ∧ Two A w' p q (M + 1) ∧ Chg A w w' := by
  have HS := hide (TX.start h 2 k1 k2)
  have HNM := hide (name_any (w.alloc (.cells #[.int .i64 2, .int .i64 k1, .int .i64 k2] 51)) k2 hk)
  have HK := hide hk
  clear h hk
  go_enter Try.func21, Try.ntmps21
  go_wp2_with (first
    | (go_at_call 44; refine HNM.out.mono ?_; rintro e w1 ⟨rfl, hb⟩; have HX := hide (HS.out.below hb); have c0 : w1.cell? ⟨w.heap.size, 0, none⟩ = some (.int .i64 2) := HX.out.c 0; have c2 : w1.cell? ⟨w.heap.size, 2, none⟩ = some (.int .i64 k2) := HX.out.c 2; clear hb HNM HS))
  obtain ⟨r, hr⟩ := two_refs HX.out.two HK.out
  have HR := hide hr
  clear hr
  go_quiet (first | (go_at_call 49; exact Calls.quiet_of_same (HR.out _).1) | (go_at_call 50; exact Calls.quiet_of_same (HR.out _).2))
  go_wp2_with fail
  go_ret
  exact ⟨rfl, (HX.out.drewN _).fin (by omega)⟩
set_option maxHeartbeats 1000000 in
theorem texts_get {A : Nat → Prop} {p q M : Nat} {w : World} (h : Two A w p q M) (hM : M ≤ 4611686018427387904) (k1 k2 i : Int) (hk : i64ok k2) :
    Calls Try.prog 21 #[.pointer (some ⟨p, 0, none⟩), .pointer (some ⟨q, 0, none⟩), .agg #[.int .i64 0, .int .i64 k1, .int .i64 k2], .int .i64 i] w fun e w' => e = .returned (.bool true) ∧ Two A w' p q (M + 1) ∧ Chg A w w' := by
  have HS := hide (TX.start h 0 k1 k2)
  have HNM := hide (name_any (w.alloc (.cells #[.int .i64 0, .int .i64 k1, .int .i64 k2] 51)) k2 hk)
  have HK := hide hk
  clear h hk
  go_enter Try.func21, Try.ntmps21
  have HGL : Hid (∀ x, TX A w x p q M w.heap.size 0 k1 k2 → _) := hide fun x (hx : TX A w x p q M w.heap.size 0 k1 k2) => two_getL hx.two hM HK.out
  have HGR : Hid (∀ x slot fresh old gone er, GotL (fun b => A b ∧ b ≠ w.heap.size) x p q M k2 slot fresh old gone er → _) := hide fun x slot fresh old gone er (hx : GotL (fun b => A b ∧ b ≠ w.heap.size) x p q M k2 slot fresh old gone er) => two_getR hx hM
  have HNUM := hide num_any
  have HNA := hide name_any
  go_wp2_with (first
    | (go_at_call 44; refine HNM.out.mono ?_; rintro e w1 ⟨rfl, hb⟩; have HX := hide (HS.out.below hb); have c0 : w1.cell? ⟨w.heap.size, 0, none⟩ = some (.int .i64 0) := HX.out.c 0; have c2 : w1.cell? ⟨w.heap.size, 2, none⟩ = some (.int .i64 k2) := HX.out.c 2; clear hb HNM HS)
    | (go_at_call 45; refine (HGL.out _ HX.out).mono ?_; rintro e w2 ⟨slot, fresh, old, gone, er, rfl, hgl, hch, hok⟩; have HG := hide (And.intro hgl (And.intro hch hok)); have d2 : w2.cell? ⟨w.heap.size, 2, none⟩ = some (.int .i64 k2) := (cell_of_row _ _ _ _ _ _ ((hch.keep w.heap.size (Array.getElem?_eq_some_iff.1 HX.out.o).1 (fun e => e.2 rfl)).trans HX.out.o)); clear hgl hch hok HGL c0 c2)
    | (go_at_call 46; refine (HGR.out _ _ _ _ _ _ HG.out.1).mono ?_; rintro e w3 ⟨rfl, ht, hch⟩; have HT := hide (And.intro ht hch); clear ht hch HGR d2))
  obtain ⟨hgl, hch, hok⟩ := HG.out
  have HFIN : Hid (∀ x, Below w3.heap.size w3 x → Two A x p q (M + 1) ∧ Chg A w x) := hide fun x hx => by
    have hxx := (HX.out.step (N := M + 1) HT.out.1 (hch.trans HT.out.2)).below hx
    exact hxx.fin (Nat.le_refl _)
  have HO := hide hok
  clear hgl hch hok HG HT HX
  cases gone with
  | false =>
    have e0 : oldV false old = .string ByteArray.empty := rfl
    rw [e0]
    go_wp2_with (first
      | (go_at_call 12; refine (HNUM.out _ _).mono ?_; rintro e w4 ⟨rfl, rfl⟩))
    go_ret
    exact ⟨rfl, HFIN.out _ (Below.refl _ _)⟩
  | true =>
    have e0 : oldV true old = .string (nm old) := rfl
    rw [e0]
    go_wp2_with (first
      | (go_at_call 12; refine (HNUM.out _ _).mono ?_; rintro e w4 ⟨rfl, rfl⟩)
      | (go_at_call 44; refine (HNA.out _ _ HO.out).mono ?_; rintro e w5 ⟨rfl, hb⟩; have HF := hide (HFIN.out _ hb); clear hb))
    go_ret
    exact ⟨rfl, HF.out⟩
end Go.Proofs.Ytafjldmfghokaaa.St
