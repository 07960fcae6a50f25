import Derived.Test.YtafjldmfghokaaaSTxt
namespace Go.Proofs.Ytafjldmfghokaaa.St
open Go.RowKit Go.Sort
set_option linter.unusedVariables false
set_option linter.unusedSimpArgs false
set_option maxRecDepth 20000

theorem TX.drew {A : Nat → Prop} {w0 x : World} {p q M m : Nat} {k0 k1 k2 : Int} (h : TX A w0 x p q M m k0 k1 k2) : TX A w0 x.drew p q M m k0 k1 k2 := h.below ((Below.refl _ _).drew)
theorem TX.keepc {A : Nat → Prop} {w0 x y : World} {p q M m : Nat} {k0 k1 k2 : Int} (h : TX A w0 x p q M m k0 k1 k2) (hc : Chg (fun b => A b ∧ b ≠ m) x y) : y.cell? ⟨m, 2, none⟩ = some (.int .i64 k2) :=
  cell_of_row _ _ _ _ _ _ ((hc.keep m (Array.getElem?_eq_some_iff.1 h.o).1 (fun e => e.2 rfl)).trans h.o)
set_option maxHeartbeats 1000000 in
theorem texts_put {A : Nat → Prop} {p q M : Nat} {w : World} (h : Two A w p q M) (hM : M ≤ 4611686018427387904) (k1 k2 i : Int) (hk : i64ok k2) :
    Calls Try.prog 21 #[.pointer (some ⟨p, 0, none⟩), .pointer (some ⟨q, 0, none⟩), .agg #[.int .i64 1, .int .i64 k1, .int .i64 k2], .int .i64 i] w fun e w' => e = .returned (.bool true) ∧ Two A w' p q (M + 1) ∧ Chg A w w' := by
  have HS := hide (TX.start h 1 k1 k2)
  have HNM := hide (name_any (w.alloc (.cells #[.int .i64 1, .int .i64 k1, .int .i64 k2] 51)) k2 hk)
  have HK := hide hk
  clear h hk
  have HPL : Hid (∀ x, TX A w x p q M w.heap.size 1 k1 k2 → _) := hide fun x (hx : TX A w x p q M w.heap.size 1 k1 k2) => two_putL hx.two hM HK.out
  have HPR : Hid (∀ x er, PutL (fun b => A b ∧ b ≠ w.heap.size) x p q M k2 er → _) := hide fun x er (hx : PutL (fun b => A b ∧ b ≠ w.heap.size) x p q M k2 er) => two_putR hx hM
  have HNUM := hide num_any
  clear HK
  go_enter Try.func21, Try.ntmps21
  go_wp2_with (first
    | (go_at_call 44; refine HNM.out.mono ?_; rintro e w1 ⟨rfl, hb⟩; have HX := hide (HS.out.below hb); have c0 : w1.cell? ⟨w.heap.size, 0, none⟩ = some (.int .i64 1) := HX.out.c 0; have c2 : w1.cell? ⟨w.heap.size, 2, none⟩ = some (.int .i64 k2) := HX.out.c 2; clear hb HNM HS))
  clear c0
  go_region_held3 (fun w' => w'.cell? ⟨w.heap.size, 2, none⟩ = some (.int .i64 k2)) (first | exact c2 | exact d2 | exact z2)
    (first
      | (go_at_call 47; refine (HPL.out _ HX.out.drew).mono ?_; rintro e w2 ⟨er, rfl, hpl, hch⟩; have HG := hide (And.intro hpl hch); have d2 : w2.cell? ⟨w.heap.size, 2, none⟩ = some (.int .i64 k2) := HX.out.drew.keepc hch; clear hpl hch)
      | (go_at_call 48; refine (HPR.out _ _ HG.out.1).mono ?_; rintro e w3 ⟨rfl, ht, hch⟩; have HY := hide (HX.out.drew.step ht (HG.out.2.trans hch)); have z2 : w3.cell? ⟨w.heap.size, 2, none⟩ = some (.int .i64 k2) := HY.out.c 2; clear ht hch)
      | (go_at_call 12; refine (HNUM.out _ _).mono ?_; rintro e w4 ⟨rfl, rfl⟩))
  all_goals
    go_wp2_with fail
    go_ret
    exact ⟨rfl, HY.out.fin (Nat.le_refl _)⟩
end Go.Proofs.Ytafjldmfghokaaa.St
