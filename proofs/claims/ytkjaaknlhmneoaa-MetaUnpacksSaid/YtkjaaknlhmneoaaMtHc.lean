import Derived.Test.YtkjaaknlhmneoaaMtHb
import Derived.Deep.RegionHeld3
namespace Go.Proofs.Ytkjaaknlhmneoaa
open Go.RowKit
open Num
set_option linter.unusedVariables false
set_option linter.unusedSimpArgs false
set_option maxRecDepth 20000

theorem made_rowsL (n : Nat) (hn : n ≤ 5864062014640) (w : World) : (Instr.makeSlice 36 (.int .i64 (n : Int)) (.int .i64 (n : Int))).run Try.prog w = .ok (.slice (some ⟨w.heap.size, 0, none⟩) n n) (w.alloc (.cells (Array.replicate n (Value.slice none 0 0)) 45)) := by
  obtain ⟨i0, hi, hz0, hz1, hz2⟩ := info_parts Try.infoBy
  have h := run_make (P := Try.prog) w 36 45 i0 (.slice none 0 0) Try.underlying36 hi hz0 .i64 .i64 (n : Int) (n : Int) (by omega) (Int.le_refl _) (by rw [hz2]; omega) (by omega)
  rw [Int.toNat_natCast, hz1, Nat.mul_one] at h
  rw [h]
  congr 2
  have : madeCells (Value.slice none 0 0).cells n = Array.replicate n (Value.slice none 0 0) := by
    apply Array.ext_getElem?
    intro i
    by_cases hi : i < n
    · simp [madeCells, Value.cells, hi, Nat.mod_one]
    · simp [madeCells, Value.cells, hi, Nat.mod_one]
  rw [this]
theorem BSl.stayA {w w' : World} {v : Value} {l : List Nat} (h : BSl w v l) (hb : ∀ g, v.ownBlock = some g → w'.heap[g]? = w.heap[g]?) : BSl w' v l := by
  obtain ⟨a, cap, rfl, h1, h2, h3, h4, h5⟩ := h
  refine ⟨a, cap, rfl, h1, h2, h3, h4, fun hp => ?_⟩
  obtain ⟨b, off, rfl, hc⟩ := h5 hp
  refine ⟨b, off, rfl, fun i hi => ?_⟩
  rw [← hc i hi]
  exact World.cell?_of_block (hb b rfl)
/-- what is handed in: a row of the copies, and one list more behind it -/
structure AI (w wr : World) (Bs : List (List Nat)) (i : Nat) : Prop where
  row : ∃ cs, wr.heap[w.heap.size]? = some (.cells cs 45 (0, 0)) ∧ cs.size = Bs.length + 1 ∧ ∀ k, k < i → ∃ u, cs[k]? = some u ∧ BSl wr u (Bs.getD k []) ∧ ∀ g, u.ownBlock = some g → g < w.heap.size
  bel : Below w.heap.size w wr
theorem AI.drew {w wr : World} {Bs : List (List Nat)} {i : Nat} (h : AI w wr Bs i) : AI w wr.drew Bs i := by
  obtain ⟨⟨cs, h1, h2, h3⟩, hb⟩ := h
  exact ⟨⟨cs, h1, h2, fun k hk => by obtain ⟨u, u1, u2, u3⟩ := h3 k hk; exact ⟨u, u1, u2.stayA fun _ _ => rfl, u3⟩⟩, hb.drew⟩
theorem AI.start (w : World) (Bs : List (List Nat)) : AI w (w.alloc (.cells (Array.replicate (Bs.length + 1) (Value.slice none 0 0)) 45)) Bs 0 :=
  ⟨⟨_, Go.heap_alloc_new w _, by simp, fun k hk => by omega⟩, (Below.refl _ _).alloc (Nat.le_refl _) _⟩
theorem AI.put {w wr : World} {Bs : List (List Nat)} {i : Nat} (h : AI w wr Bs i) (hi : i < Bs.length) {u : Value} (hu : BSl wr u (Bs.getD i [])) (hg : ∀ g, u.ownBlock = some g → g < w.heap.size) : AI w (wr.setCell ⟨w.heap.size, i, none⟩ u) Bs (i + 1) := by
  obtain ⟨⟨cs, h1, h2, h3⟩, hb⟩ := h
  refine ⟨⟨cs.setIfInBounds i u, Go.heap_setCell_same wr w.heap.size i cs 45 u h1, by simpa using h2, fun k hk => ?_⟩, hb.setCell (p := ⟨w.heap.size, i, none⟩) (Nat.le_refl _) _⟩
  have st : ∀ z : Value, (∀ g, z.ownBlock = some g → g < w.heap.size) → ∀ l, BSl wr z l → BSl (wr.setCell ⟨w.heap.size, i, none⟩ u) z l := fun z hz l hl => hl.stayA fun g hg' => Go.heap_setCell_other _ _ _ _ (by show g ≠ w.heap.size; have := hz g hg'; omega)
  by_cases e : k = i
  · subst e
    exact ⟨u, Array.getElem?_setIfInBounds_self_of_lt (by omega), st u hg _ hu, hg⟩
  · obtain ⟨z, z1, z2, z3⟩ := h3 k (by omega)
    exact ⟨z, by rw [Array.getElem?_setIfInBounds_ne (by omega)]; exact z1, st z z3 _ z2, z3⟩
/-- .. when it is whole -/
structure AR (w : World) (O : Nat) (Bs : List (List Nat)) : Prop where
  lt : O < w.heap.size
  el : ∀ k, k < Bs.length → ∃ u, w.cell? ⟨O, k, none⟩ = some u ∧ BSl w u (Bs.getD k []) ∧ ∀ g, u.ownBlock = some g → g < w.heap.size
  last : ∃ g, w.cell? ⟨O, Bs.length, none⟩ = some (.slice (some ⟨g, 0, none⟩) 1 1) ∧ w.cell? ⟨g, 0, none⟩ = some (.int .u8 77) ∧ g < w.heap.size
theorem AR.below {w w' : World} {O : Nat} {Bs : List (List Nat)} (h : AR w O Bs) (hb : Below w.heap.size w w') : AR w' O Bs := by
  obtain ⟨h1, h2, g, h3, h4, h5⟩ := h
  refine ⟨Nat.lt_of_lt_of_le h1 hb.size, fun k hk => ?_, g, (hb.cell (p := ⟨O, Bs.length, none⟩) h1).trans h3, (hb.cell (p := ⟨g, 0, none⟩) h5).trans h4, Nat.lt_of_lt_of_le h5 hb.size⟩
  obtain ⟨u, u1, u2, u3⟩ := h2 k hk
  exact ⟨u, (hb.cell (p := ⟨O, k, none⟩) h1).trans u1, u2.below hb, fun g hg => Nat.lt_of_lt_of_le (u3 g hg) hb.size⟩
theorem AI.done {w wr : World} {Bs : List (List Nat)} (h : AI w wr Bs Bs.length) : AR ((wr.alloc (.cells #[.int .u8 77] 5)).setCell ⟨w.heap.size, Bs.length, none⟩ (.slice (some ⟨wr.heap.size, 0, none⟩) 1 1)) w.heap.size Bs ∧ Below w.heap.size w ((wr.alloc (.cells #[.int .u8 77] 5)).setCell ⟨w.heap.size, Bs.length, none⟩ (.slice (some ⟨wr.heap.size, 0, none⟩) 1 1)) := by
  obtain ⟨⟨cs, h1, h2, h3⟩, hb⟩ := h
  have hlt := (Array.getElem?_eq_some_iff.1 h1).1
  have ha := (Below.refl wr.heap.size wr).alloc (Nat.le_refl _) (.cells #[.int .u8 77] 5)
  have hO : (wr.alloc (.cells #[.int .u8 77] 5)).heap[w.heap.size]? = some (.cells cs 45 (0, 0)) := (ha.block _ hlt).trans h1
  have hrow := Go.heap_setCell_same _ w.heap.size Bs.length cs 45 (.slice (some ⟨wr.heap.size, 0, none⟩) 1 1) hO
  have hG : ((wr.alloc (.cells #[.int .u8 77] 5)).setCell ⟨w.heap.size, Bs.length, none⟩ (.slice (some ⟨wr.heap.size, 0, none⟩) 1 1)).heap[wr.heap.size]? = some (.cells #[.int .u8 77] 5 (0, 0)) := (Go.heap_setCell_other _ _ _ _ (by show wr.heap.size ≠ w.heap.size; omega)).trans (Go.heap_alloc_new wr _)
  have sz : ((wr.alloc (.cells #[.int .u8 77] 5)).setCell ⟨w.heap.size, Bs.length, none⟩ (.slice (some ⟨wr.heap.size, 0, none⟩) 1 1)).heap.size = wr.heap.size + 1 := by simp
  refine ⟨⟨by rw [sz]; omega, fun k hk => ?_, wr.heap.size, ?_, ?_, by rw [sz]; omega⟩, (hb.alloc hb.size _).setCell (p := ⟨w.heap.size, Bs.length, none⟩) (Nat.le_refl _) _⟩
  · obtain ⟨u, u1, u2, u3⟩ := h3 k hk
    refine ⟨u, ?_, u2.stayA fun g hg => ?_, fun g hg => by rw [sz]; have := u3 g hg; omega⟩
    · rw [cell_of_row _ _ _ _ _ _ hrow, Array.getElem?_setIfInBounds_ne (by omega)]; exact u1
    · have := u3 g hg
      exact (Go.heap_setCell_other _ _ _ _ (by show g ≠ w.heap.size; omega)).trans (ha.block g (by omega))
  · rw [cell_of_row _ _ _ _ _ _ hrow, Array.getElem?_setIfInBounds_self_of_lt (by omega)]
  · rw [cell_of_row _ _ _ _ _ _ hG]; rfl
set_option maxHeartbeats 2000000 in
theorem argBlocks_any (w : World) (inV v : Value) (Bs : List (List Nat)) (gs : List Nat) (hv : LL w v Bs) (hi' : HN w inV Bs gs) (hN : Bs.length ≤ 5864062014634) :
    Calls Try.prog 27 #[inV, v] w fun e w' => e = .returned (.slice (some ⟨w.heap.size, 0, none⟩) (Bs.length + 1) (Bs.length + 1)) ∧ AR w' w.heap.size Bs ∧ Below w.heap.size w w' := by
  obtain ⟨a, cap, rfl, q1, q2, q3, q4⟩ := id hv
  obtain ⟨⟨a2, cap2, rfl, p1, p2⟩, p3⟩ := id hi'
  have HST := hide (AI.start w Bs)
  have HFI := hide fun wr (h : AI w wr Bs Bs.length) => h.done
  have HEL : Hid (∀ wr i, AI w wr Bs i → i < Bs.length → ∃ O off O2 ua uc, a = some ⟨O, off, none⟩ ∧ a2 = some ⟨O2, 0, none⟩ ∧ wr.cell? ⟨O, off + i, none⟩ = some (.slice ua (Bs.getD i []).length uc) ∧ wr.cell? ⟨O2, i, none⟩ = some (sl (gs.getD i 0) ((Bs.getD i []).length + 6)) ∧ (∀ z, (wr.setCell ⟨w.heap.size, i, none⟩ z).cell? ⟨O, off + i, none⟩ = some (.slice ua (Bs.getD i []).length uc) ∧ (wr.setCell ⟨w.heap.size, i, none⟩ z).cell? ⟨O2, i, none⟩ = some (sl (gs.getD i 0) ((Bs.getD i []).length + 6))) ∧ Calls Try.prog 49 #[sl (gs.getD i 0) ((Bs.getD i []).length + 6), .slice ua (Bs.getD i []).length uc] wr fun e w' => ∃ za zc, e = .returned (.slice za (Bs.getD i []).length zc) ∧ w' = wr ∧ AI w (wr.setCell ⟨w.heap.size, i, none⟩ (.slice za (Bs.getD i []).length zc)) Bs (i + 1)) := hide fun wr i hA hi => by
    have hb := hA.bel
    obtain ⟨O, off, e, hO, hc⟩ := q4 (by omega)
    obtain ⟨u, c1, c2, c3⟩ := hc i hi
    obtain ⟨O2, e2, hO2, hc2⟩ := p2 (by omega)
    obtain ⟨ua, uc, rfl, _⟩ := id c2
    refine ⟨O, off, O2, ua, uc, e, e2, (hb.cell (p := ⟨O, off + i, none⟩) hO).trans c1, (hb.cell (p := ⟨O2, i, none⟩) hO2).trans (hc2 i hi), fun z => ⟨(World.cell?_of_block (a := ⟨O, off + i, none⟩) (Go.heap_setCell_other _ _ _ _ (by show O ≠ w.heap.size; omega))).trans ((hb.cell (p := ⟨O, off + i, none⟩) hO).trans c1), (World.cell?_of_block (a := ⟨O2, i, none⟩) (Go.heap_setCell_other _ _ _ _ (by show O2 ≠ w.heap.size; omega))).trans ((hb.cell (p := ⟨O2, i, none⟩) hO2).trans (hc2 i hi))⟩, ?_⟩
    refine (arg_any (c2.below hb) ((p3 i hi).below hb) (by omega)).mono ?_
    rintro e w' ⟨z, rfl, hw, hz, hg⟩
    obtain ⟨za, zc, rfl, _⟩ := id hz
    exact ⟨za, zc, rfl, hw, hA.put hi hz fun g hgz => by rw [hg g hgz]; exact (Array.getElem?_eq_some_iff.1 (p3 i hi).1).1⟩
  have HOC : Hid (∀ wr i, AI w wr Bs i → i < Bs.length + 1 → (∃ z, wr.cell? ⟨w.heap.size, i, none⟩ = some z) ∧ wr.frozen? ⟨w.heap.size, i, none⟩ = false) := hide fun wr i hA hi => by
    obtain ⟨cs, h1, h2, _⟩ := hA.row
    exact ⟨⟨_, by rw [cell_of_row _ _ _ _ _ _ h1]; exact Array.getElem?_eq_getElem (by omega)⟩, frozen_of_row _ _ _ _ _ h1⟩
  have hmk := fun W => made_rowsL (Bs.length + 1) (by omega) W
  unfold maxLen at q2
  clear q3 q4 p2 p3 hv hi'
  generalize hLL : Bs.length = N at *
  have HLN := hide hLL
  clear hLL
  generalize Array.replicate (N + 1) (Value.slice none 0 0) = ZR at *
  have hmk2 : ∀ W, (Instr.makeSlice 36 (.int .i64 ((N : Int) + 1)) (.int .i64 ((N : Int) + 1))).run Try.prog W = .ok (.slice (some ⟨W.heap.size, 0, none⟩) (N + 1) (N + 1)) (W.alloc (.cells ZR 45)) := hmk
  clear hmk
  go_enter Try.func27, Try.ntmps27
  go_wp2_with fail
  go_loopw [6] (fun x wr => ∃ i : Nat, i ≤ N ∧ x = .int .i64 (i : Int) ∧ AI w wr Bs i) (fun x _ => N - (intOf x).toNat)
  case atStart => exact ⟨0, Nat.zero_le _, rfl, HST.out⟩
  case round =>
    obtain ⟨i, hi, rfl, hI⟩ := hrel
    have HI := hide hI
    clear hI HST
    by_cases hlt : i < N
    · have i1 : (i : Int) < (N : Int) := by omega
      have i2 : (i : Int) < (N : Int) + 1 := by omega
      have i0 : (0 : Int) ≤ (i : Int) := by omega
      obtain ⟨O, off, O2, ua, uc, rfl, rfl, c1, c2, hsc, hc⟩ := HEL.out wr i HI.out hlt
      obtain ⟨⟨z0, c3⟩, c4⟩ := HOC.out wr i HI.out (by omega)
      obtain ⟨_, _, _, ua', uc', e1, e2, d1, d2, _, hc2⟩ := HEL.out wr.drew i HI.out.drew hlt
      simp only [Option.some.injEq, Addr.mk.injEq, and_true] at e1
      obtain ⟨rfl, rfl⟩ := e1
      have d1' : wr.cell? ⟨O, off + i, none⟩ = some (.slice ua' (Bs.getD i []).length uc') := d1
      rw [c1] at d1'
      simp only [Option.some.injEq, Value.slice.injEq, true_and] at d1'
      obtain ⟨rfl, rfl⟩ := d1'
      have HC := hide hc2
      have HSC := hide hsc
      clear hc hc2 hsc d1 d2 e2 HEL HOC HFI
      generalize (Bs.getD i []).length = LI at *
      generalize gs.getD i 0 = GI at *
      go_wp2_with fail
      unfold sl at *
      go_region_held3 (fun w' => w'.cell? ⟨O, off + i, none⟩ = some (.slice ua LI uc) ∧ w'.cell? ⟨O2, i, none⟩ = some (.slice (some ⟨GI, 0, none⟩) (LI + 6) (LI + 6))) (first | exact ⟨c1, c2⟩ | exact HSC.out _ | assumption)
        ((go_at_call 49; refine HC.out.mono ?_; rintro e y ⟨za, zc, rfl, hy, hz⟩; have hws := hy.symm; clear hy; subst hws; have HZ := hide hz; clear hz HC))
      go_wp2_with fail
      go_roundw
      case rel => exact ⟨i + 1, by omega, by go_num, HZ.out⟩
      case measure => simp [intOf]; omega
    · obtain rfl : N = i := by omega
      obtain ⟨⟨z0, c3⟩, c4⟩ := HOC.out wr N HI.out (by omega)
      have i2 : (N : Int) < (N : Int) + 1 := by omega
      have HF2 := hide (HFI.out wr HI.out)
      have HLT : Hid (w.heap.size < wr.heap.size) := hide (by obtain ⟨cs, h1, _⟩ := HI.out.row; exact (Array.getElem?_eq_some_iff.1 h1).1)
      have c3' : (wr.alloc (.cells #[.int .u8 77] 5)).cell? ⟨w.heap.size, N, none⟩ = some z0 := (((Below.refl wr.heap.size wr).alloc (Nat.le_refl _) (.cells #[.int .u8 77] 5)).cell (p := ⟨w.heap.size, N, none⟩) HLT.out).trans c3
      have c4' : (wr.alloc (.cells #[.int .u8 77] 5)).frozen? ⟨w.heap.size, N, none⟩ = false := (World.frozen?_of_block (a := ⟨w.heap.size, N, none⟩) (Below.heap_alloc wr _ _ HLT.out)).trans c4
      clear HEL HOC HFI HI
      go_wp2_with fail
      go_ret
      exact ⟨rfl, HF2.out.1, HF2.out.2⟩
end Go.Proofs.Ytkjaaknlhmneoaa
