import Derived.Test.YtglajdmkbckjjabDoorBWr
import Derived.StillTailTactics
namespace Go.Proofs.YtglajdmkbckjjabDoor
open Go.RowKit
set_option linter.unusedVariables false
set_option linter.unusedSimpArgs false
set_option maxRecDepth 20000

set_option maxHeartbeats 2000000 in
theorem wdigit_room {w0 w : World} {p g cap m : Nat} {c : List Nat} {D : List Bool} (h : WQ w0 w p g cap c D m) (d : Bool) (hD : D.length ≤ 10000000) (h8 : ¬ D.length % 8 = 0) :
    Calls Tryd.prog 26 #[.pointer (some ⟨p, 0, none⟩), .int .u64 ((d.toNat : Nat) : Int)] w fun e w' => e = .returned (.tuple #[]) ∧ ∃ cv' c', WS w0 w' p cv' c' (D ++ [d]) ∧ TF p w w' := by
    obtain ⟨hK0, -, -⟩ := wrt_put h.byt h.dg h.m8 d
    have HPUT := hide (h.put d ((D.length : Int) + 1) rfl)
    have c0 : w.cell? ⟨p, 0, none⟩ = some (.slice (some ⟨g, 0, none⟩) c.length cap) := cell_of_row _ _ _ _ _ _ h.row
    have c1 : w.cell? ⟨p, 1, none⟩ = some (.int .i64 (D.length : Int)) := cell_of_row _ _ _ _ _ _ h.row
    have f1 : w.frozen? ⟨p, 1, none⟩ = false := frozen_of_row _ _ _ _ _ h.row
    have c2 := h.cell hK0
    have hx : c.getD (D.length / 8) 0 < 256 := by
      have : c.getD (D.length / 8) 0 = c[D.length / 8] := by simp [List.getD, hK0]
      rw [this]
      exact h.byt _ (List.getElem_mem hK0)
    obtain ⟨cs, hcs⟩ := h.blk
    have f2 : w.frozen? ⟨g, D.length / 8, none⟩ = false := frozen_of_row _ _ _ _ _ hcs
    have hgp : g ≠ p := fun e => by have := h.row; rw [← e, hcs] at this; simp at this
    have hcap : c.length ≤ cap ∧ cap ≤ 9223372036854775807 := by
      rcases h.own.2 with ⟨hv, hz⟩ | ⟨g', cap', cur, e, hg0, hgc, hnc, hcm, -⟩
      · simp at hv
      · simp only [Value.slice.injEq] at e
        unfold maxLen at hcm
        omega
    have h8i : ((D.length : Int) % 8 == 0) = false := by simp; omega
    have hM := hD
    obtain ⟨K, hK⟩ : ∃ K, D.length / 8 = K := ⟨_, rfl⟩
    obtain ⟨J, hJ⟩ : ∃ J, D.length % 8 = J := ⟨_, rfl⟩
    obtain ⟨S, hS⟩ : ∃ S, 7 - J = S := ⟨_, rfl⟩
    have hJ8 : J < 8 := by omega
    have hd1 : (D.length : Int) / 8 = (K : Int) := by omega
    have hd2 : (D.length : Int).tdiv 8 = (K : Int) := by rw [Int.tdiv_eq_ediv_of_nonneg (by omega)]; exact hd1
    have hd3 : IntKind.i64.wrap (K : Int) = (K : Int) := by simp [IntKind.wrap, IntKind.bits, IntKind.signed]; omega
    have hd4 : IntKind.i64.wrap ((D.length : Int) / 8) = (K : Int) := by rw [hd1]; exact hd3
    have hrm : (D.length : Int) % 8 = (J : Int) := by omega
    have hrm1 : (D.length : Int).tmod 8 = (J : Int) := by rw [Int.tmod_eq_emod_of_nonneg (by omega)]; exact hrm
    have hrm2 : IntKind.i64.wrap (J : Int) = (J : Int) := by simp [IntKind.wrap, IntKind.bits, IntKind.signed]; omega
    have hrm3 : IntKind.i64.wrap ((D.length : Int) % 8) = (J : Int) := by rw [hrm]; exact hrm2
    have hsb : (7 : Int) - (J : Int) = (S : Int) := by omega
    have hsb1 : IntKind.i64.wrap (S : Int) = (S : Int) := by simp [IntKind.wrap, IntKind.bits, IntKind.signed]; omega
    have hsb2 : IntKind.i64.wrap ((7 : Int) - (J : Int)) = (S : Int) := by rw [hsb]; exact hsb1
    have hdv : IntKind.u8.wrap ((d.toNat : Nat) : Int) = ((d.toNat : Nat) : Int) := by cases d <;> rfl
    have hpw : d.toNat * 2 ^ S < 256 := by
      have h1 : d.toNat ≤ 1 := by cases d <;> simp
      have h2 : 2 ^ S ≤ 2 ^ 7 := Nat.pow_le_pow_right (by decide) (by omega)
      have h3 : d.toNat * 2 ^ S ≤ 1 * 2 ^ S := Nat.mul_le_mul_right _ h1
      omega
    have hsh : Op.shift .shl .u8 ((d.toNat : Nat) : Int) .i64 (S : Int) = (pure (.int .u8 ((d.toNat * 2 ^ S : Nat) : Int)) : Sem Value) := by
      rw [shift_shl .u8 .i64 ((d.toNat : Nat) : Int) (S : Int) (by omega) (by simp [IntKind.bits]; omega), Int.toNat_natCast]
      congr 2
      have e : ((d.toNat : Nat) : Int) * 2 ^ S = ((d.toNat * 2 ^ S : Nat) : Int) := by simp
      rw [e, IntKind.wrap_u8']
      omega
    have hkc : (0 : Int) ≤ (K : Int) := by omega
    rw [hK] at c2 hx f2 HPUT hK0
    rw [hJ] at HPUT
    have hkl : (K : Int) < (c.length : Int) := by omega
    have hor : bits .or .u8 ((c.getD K 0 : Nat) : Int) ((d.toNat * 2 ^ S : Nat) : Int) = ((orD (c.getD K 0) J d : Nat) : Int) := by
      rw [u8_or_nat _ _ hx hpw]
      unfold orD
      rw [hS]
    have c1x : ∀ v, (w.drew.setCell ⟨g, K, none⟩ v).cell? ⟨p, 1, none⟩ = some (.int .i64 (D.length : Int)) := fun v => by
      rw [World.cell?_of_block (Go.heap_setCell_other _ _ _ _ (by show p ≠ g; exact Ne.symm hgp))]
      exact c1
    have f1x : ∀ v, (w.drew.setCell ⟨g, K, none⟩ v).frozen? ⟨p, 1, none⟩ = false := fun v => by
      rw [World.frozen?_of_block (Go.heap_setCell_other _ _ _ _ (by show p ≠ g; exact Ne.symm hgp))]
      exact f1
    have hor2 : bits .or .u8 ((c.getD K 0 : Nat) : Int) (((d.toNat : Nat) : Int) * 2 ^ S % 256) = ((orD (c.getD K 0) J d : Nat) : Int) := by
      have e : ((d.toNat : Nat) : Int) * 2 ^ S = ((d.toNat * 2 ^ S : Nat) : Int) := by simp
      have e2 : ((d.toNat * 2 ^ S : Nat) : Int) % 256 = ((d.toNat * 2 ^ S : Nat) : Int) := by omega
      rw [e, e2]
      exact hor
    generalize c.getD K 0 = x at *
    generalize orD x J d = y at *
    generalize d.toNat * 2 ^ S = z at *
    clear h hcs
    have HDD := hide hK
    clear hK hJ hS
    generalize hdl : D.length = M at *
    clear hdl
    go_enter Tryd.func26, Tryd.ntmps26
    go_wp2_with fail
    refine wp_still_tail 21 (by kernel_rfl) (by kernel_rfl) ?_
    simp only [List.take_succ_cons, List.take_zero, List.drop_succ_cons, List.drop_zero]
    repeat still_step
    refine wpStill_nil ?_
    have c1y := c1x (.int .u8 (y : Int))
    have f1y := f1x (.int .u8 (y : Int))
    clear c1x f1x
    go_wp2_with fail
    go_end0
    exact ⟨rfl, _, _, HPUT.out⟩
/-- what an append leaves -/
def Upn (w w' : World) (v v' : Value) : Prop := (v'.ownBlock = some w.heap.size ∧ w.grownBy w' none) ∨ (∃ g, v.ownBlock = some g ∧ v'.ownBlock = some g ∧ w.grownBy w' (some g))
theorem Upn.block {w w' : World} {v v' : Value} (h : Upn w w' v v') : ∀ b, b < w.heap.size → v.ownBlock ≠ some b → w'.heap[b]? = w.heap[b]? := fun b hb hne => by
  rcases h with ⟨_, h⟩ | ⟨g, h1, _, h⟩
  · exact h.block b hb (by simp)
  · exact h.block b hb (by rw [← h1]; exact Ne.symm hne)
theorem Upn.size {w w' : World} {v v' : Value} (h : Upn w w' v v') : w.heap.size ≤ w'.heap.size := by rcases h with ⟨_, h⟩ | ⟨g, _, _, h⟩ <;> exact h.size
theorem Upn.same {w w' : World} {v v' : Value} (h : Upn w w' v v') : w'.os = w.os ∧ w'.tape = w.tape ∧ w'.output = w.output := by rcases h with ⟨_, h⟩ | ⟨g, _, _, h⟩ <;> exact ⟨h.os, h.tape, h.output⟩
theorem Upn.loc {w w' : World} {v v' : Value} (h : Upn w w' v v') : ∀ b, v'.ownBlock = some b → v.ownBlock = some b ∨ b = w.heap.size := fun b hb => by
  rcases h with ⟨e, _⟩ | ⟨g, e1, e2, _⟩
  · rw [e] at hb; exact .inr (Option.some.inj hb).symm
  · rw [e2] at hb; rw [e1]; exact .inl hb
theorem WS.blk {w0 w : World} {p b : Nat} {cv : Value} {c : List Nat} {D : List Bool} (h : WS w0 w p cv c D) (hb : cv.ownBlock = some b) : ∃ cs, w.heap[b]? = some (.cells cs 5 (0, 0)) := by
  rcases h.own.2 with ⟨rfl, _⟩ | ⟨g', cap, cur, rfl, _, hh, _⟩
  · simp [Value.ownBlock] at hb
  · simp only [Value.ownBlock, Option.some.injEq] at hb
    subst hb
    exact ⟨cur, hh⟩
/-- a byte more, its bits all clear -/
theorem WS.more {w0 w w4 : World} {p : Nat} {cv v4 : Value} {c : List Nat} {D : List Bool} (h : WS w0 w p cv c D) (h8 : D.length % 8 = 0) (ho : w4.ownsRow 0 5 1 v4 (c.length + 1) (c.map byV ++ [.int .u8 0])) (hu : Upn (w.alloc (.cells #[.int .u8 0] 5)) w4 cv v4) :
    ∃ g cap, v4 = .slice (some ⟨g, 0, none⟩) (c.length + 1) cap ∧ WQ w0 (w4.setCell ⟨p, 0, none⟩ v4) p g cap (c ++ [0]) D 7 ∧ TF p w (w4.setCell ⟨p, 0, none⟩ v4) ∧ w4.cell? ⟨p, 0, none⟩ = some cv ∧ w4.frozen? ⟨p, 0, none⟩ = false := by
  have hpw := h.pN
  have hws := h.chg.size
  have hsz : (w.alloc (.cells #[.int .u8 0] 5)).heap.size = w.heap.size + 1 := World.size_alloc ..
  have hcp : cv.ownBlock ≠ some p := fun e => by
    obtain ⟨cs, hcs⟩ := h.blk e
    have := h.row
    rw [hcs] at this
    simp at this
  have hold : ∀ b, b < w.heap.size → cv.ownBlock ≠ some b → w4.heap[b]? = w.heap[b]? := fun b hb hne => (hu.block b (by omega) hne).trans (Below.heap_alloc _ _ _ hb)
  have hrow : w4.heap[p]? = some (.cells #[cv, .int .i64 (D.length : Int)] 68 (0, 0)) := (hold p (by omega) hcp).trans h.row
  rcases ho.2 with ⟨hv, hz⟩ | ⟨g, cap, cur, rfl, hg0, hgc, hnc, hcm, hcs, htk⟩
  · omega
  · have hgp : g ≠ p := fun e => by rw [e] at hgc; rw [hgc] at hrow; simp at hrow
    have hgl : w0.heap.size ≤ g := by
      rcases hu.loc g rfl with e | e
      · exact h.loc g e
      · omega
    obtain ⟨q1, q2⟩ := h.wrt.grow h8
    have hlen : (c ++ [0]).length = c.length + 1 := by simp
    have hse : (w4.setCell ⟨p, 0, none⟩ (.slice (some ⟨g, 0, none⟩) (c.length + 1) cap)).heap.size = w4.heap.size := by simp [World.setCell]
    obtain ⟨s1, s2, s3⟩ := hu.same
    refine ⟨g, cap, rfl, ⟨?_, ?_, q2, q1, by decide, ⟨s1.trans h.chg.os, s2.trans h.chg.tape, s3.trans h.chg.output, ?_, fun b hb hne => ?_⟩, hgl, h.pN⟩, ⟨s1, s2, s3, ?_, fun b o h1 h2 h3 => ?_⟩, cell_of_row _ _ _ _ _ _ hrow, frozen_of_row _ _ _ _ _ hrow⟩
    · rw [hlen, Go.heap_setCell_same _ _ 0 _ 68 _ hrow]
      simp
    · rw [hlen, List.map_append]
      refine rowK8 ho fun b e => ?_
      simp only [Value.ownBlock, Option.some.injEq] at e
      subst e
      exact Go.heap_setCell_other _ _ _ _ hgp
    · rw [hse]
      have := hu.size
      omega
    · rw [Go.heap_setCell_other _ _ _ _ hne]
      exact (hold b (by omega) fun e => by have := h.loc b e; omega).trans (h.chg.keep b hb hne)
    · rw [hse]
      have := hu.size
      omega
    · rw [Go.heap_setCell_other _ _ _ _ h2]
      have hb : b < w.heap.size := (Array.getElem?_eq_some_iff.1 h1).1
      refine (hold b hb fun e => ?_).trans h1
      obtain ⟨cs, hcs⟩ := h.blk e
      rw [hcs] at h1
      exact h3 cs (0, 0) (Option.some.inj h1).symm
end Go.Proofs.YtglajdmkbckjjabDoor
