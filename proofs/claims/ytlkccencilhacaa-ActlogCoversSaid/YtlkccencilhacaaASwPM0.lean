import Derived.Test.YtlkccencilhacaaALogB
import Derived.Deep.MidRow
import Derived.Test.YtlkccencilhacaaARpM
import Derived.Laws.BytesString
import Derived.Laws.IdiomStrings
import Derived.Test.YtlkccencilhacaaABase
import Derived.Orders
import Derived.RowKit
import Derived.Deep.DeepAppendWide
import Derived.StillTailTactics
import Derived.Test.YtlkccencilhacaaARing
import Derived.Test.YtlkccencilhacaaAKpG
namespace Go.Proofs.Ytlkccencilhacaa
open Go.RowKit Go.Sort
open Num
set_option linter.unusedVariables false
set_option linter.unusedSimpArgs false
set_option maxRecDepth 20000

abbrev recV (num age slots : Nat) (c0 c1 c2 st z0 z1 z2 z3 : Int) : Array Value := #[.int .u32 (num : Int), .int .i64 (age : Int), .int .i64 (slots : Int), .int .i64 c0, .int .i64 c1, .int .i64 c2, .int .i64 st, .int .i64 z0, .int .i64 z1, .int .i64 z2, .int .i64 z3]
theorem recI_V (num age slots : Nat) (c0 c1 c2 st z0 z1 z2 z3 : Int) : recI ⟨num, age, slots, c0, c1, c2, st, [z0, z1, z2, z3]⟩ = recV num age slots c0 c1 c2 st z0 z1 z2 z3 := rfl
theorem slice_fourO (g o f : Nat) (hf : f < 4) : ∀ wx, (Instr.sliceAt 88 (.pointer (some ⟨g, o, none⟩)) (some (.int .i64 (f : Int))) none none).run Try.prog wx = .ok (.slice (some ⟨g, o + f, none⟩) (4 - f) (4 - f)) wx := by
  intro wx
  have hs : (sizeOf (Try.prog.elem 88)).run Try.prog wx = .ok 1 wx := by kernel_rfl
  rw [run_sliceAt_array_l wx 88 ⟨g, o, none⟩ (by kernel_rfl) .i64 (f : Int) (by omega) (by rw [len4]; omega), hs, len4]
  have h2 : ¬ 4 = f := by omega
  simp [Result.andThen, slicedAt, h2, Addr.add_lit]
theorem splice_one (Z : List Int) (st : Nat) (xs : List Int) (x : Int) (h : st + xs.length < Z.length) : splice Z st (xs ++ [x]) = (splice Z st xs).set (st + xs.length) x := by
  have hl : (Z.take st).length = st := by simp; omega
  unfold splice
  rw [List.set_append_right _ _ (by rw [hl]; omega), hl, List.set_append_right _ _ (by omega), Nat.add_sub_cancel_left, Nat.sub_self, List.append_assoc]
  congr 1
  rw [List.length_append]
  congr 1
  have e : Z.drop (st + xs.length) = Z[st + xs.length] :: Z.drop (st + xs.length + 1) := List.drop_eq_getElem_cons h
  rw [e]
  simp [Nat.add_assoc]
theorem splice_nil (Z : List Int) (st : Nat) : splice Z st [] = Z := by simp [splice]
/-- so many of the context laid at once -/
theorem ctxS_splice (s0 m st : Nat) (C z : List Int) (hC : C.length = 4) (h1 : 1 ≤ z.length) (hst : st = (s0 + m) % z.length) : ∀ k, st + k ≤ z.length → m + k ≤ 4 → splice (ctxS s0 C m z) st ((C.drop m).take k) = ctxS s0 C (m + k) z
  | 0, _, _ => by simp [splice_nil]
  | k + 1, hk, hm => by
    have ih := ctxS_splice s0 m st C z hC h1 hst k (by omega) (by omega)
    have e1 : (C.drop m).take (k + 1) = (C.drop m).take k ++ [C.getD (m + k) 0] := by
      rw [List.take_add_one, List.getElem?_drop]
      congr 1
      rw [List.getD_eq_getElem?_getD, List.getElem?_eq_getElem (by omega)]
      rfl
    have hl : ((C.drop m).take k).length = k := by simp; omega
    rw [e1, splice_one _ _ _ _ (by rw [hl, ctxS_len]; omega), ih, hl, ← Nat.add_assoc]
    simp only [ctxS]
    congr 1
    have : (s0 + (m + k)) % z.length = st + k := by
      rw [← Nat.add_assoc, Nat.add_mod, ← hst]
      by_cases e : k = z.length
      · omega
      · rw [Nat.mod_eq_of_lt (show k < z.length by omega), Nat.mod_eq_of_lt (by omega)]
    rw [this]
theorem step_copyC {P : Program} {ops : Array Oper} {o : Oper} {a : Act} {w : World} {K : Act → World → Prop} {Q : Exit → Act → World → Prop} {E : Prop} (hgd : o.guard = none) (d s : Operand) (dT sT : TypeId)
    (ho : o.op = .call { callee := .builtin .copy, args := #[d, s], argTypes := #[dT, sT] }) (elem : TypeId) (hu : P.underlying dT = some (.slice elem)) (hsz : (P.info? elem).map (·.size) = some 1)
    (g off : Nat) (ad : Addr) (dLen dCap sLen sCap : Nat) (hd : a.eval d = .slice (some ⟨g, off, none⟩) dLen dCap) (hs : a.eval s = .slice (some ad) sLen sCap)
    (cur : List Value) (t : TypeId) (hg : w.heap[g]? = some (.cells cur.toArray t (0, 0))) (cs : List Value) (hn : cs.length = Nat.min sLen dLen)
    (hsrc : ∀ j v, cs[j]? = some v → w.cell? (ad.add j) = some v)
    (hfit : off + cs.length ≤ cur.length) (h1 : ∀ v ∈ cs, v.oneCell' = true)
    (h : ∀ w', Hid (w'.heap[g]? = some (.cells (splice cur off cs).toArray t (0, 0))) → Chg (fun x => x = g) w w' → K (a.put o.dst (goInt cs.length)) w') :
    if Region.wanted o (yielded ops a.tmps) = true then Oper.wp P o a w K Q else E := by
  have hw : Region.wanted o (yielded ops a.tmps) = true := by simp [Region.wanted, hgd]
  rw [if_pos hw]
  have hrun := run_copy_row (P := P) w dT sT o.type elem g off dLen dCap ad sLen sCap cur.toArray t cs hu hsz hg hn hsrc (by simpa using hfit) h1
  unfold Oper.wp
  simp [execOp, ho, resolve, invoke, builtin, hd, hs, hrun, Result.andThen]
  exact h _ (show _ = _ by simpa [splice] using setRow_heap w g _ _ t _ hg) ⟨rfl, rfl, rfl, by simp [World.setRow], fun k hk hn => setRow_other w g k _ hn⟩
/-- the walk of lay -/
structure LyR (w wr : World) (g b : Nat) (R : Array Value) (s0 : Nat) (C zs : List Int) (m st : Nat) : Prop where
  row : wr.heap[g]? = some (.cells (ints (ctxS s0 C m zs)) 3 (0, 0))
  box : wr.heap[b]? = some (.cells R 90 (0, 0))
  sl : st < zs.length
  ml : m ≤ 4
  sm : m < 4 → st = (s0 + m) % zs.length
  ch : Chg (fun x => x = g) w wr
def layK (C : List Int) (m n st : Nat) : List Int := (C.drop m).take (n - st)
theorem layK_len (C : List Int) (m n st : Nat) (hC : C.length = 4) : (layK C m n st).length = Nat.min (4 - m) (n - st) := by
  simp [layK, hC]; exact Nat.min_comm _ _
theorem LyR.step {w wr w5 : World} {g b : Nat} {R : Array Value} {s0 m st : Nat} {C zs : List Int} (h : LyR w wr g b R s0 C zs m st) (hm : m < 4) (hC : C.length = 4) (hgb : g ≠ b) (h5 : w5.heap[g]? = some (.cells (splice ((ctxS s0 C m zs).map iV) st ((layK C m zs.length st).map iV)).toArray 3 (0, 0))) (hk : Chg (fun x => x = g) wr w5) : LyR w w5 g b R s0 C zs (m + (layK C m zs.length st).length) 0 ∧ 1 ≤ (layK C m zs.length st).length ∧ (layK C m zs.length st).length ≤ 4 - m := by
  have hl := layK_len C m zs.length st hC
  have hst := h.sl
  have hsm := h.sm hm
  have hl1 : (layK C m zs.length st).length ≤ zs.length - st := by rw [hl]; exact Nat.min_le_right _ _
  have hl2 : (layK C m zs.length st).length ≤ 4 - m := by rw [hl]; exact Nat.min_le_left _ _
  have hl3 : (layK C m zs.length st).length = zs.length - st ∨ (layK C m zs.length st).length = 4 - m := by
    rw [hl]; rcases Nat.le_total (4 - m) (zs.length - st) with e | e
    · exact .inr (Nat.min_eq_left e)
    · exact .inl (Nat.min_eq_right e)
  have esp : splice ((ctxS s0 C m zs).map iV) st ((layK C m zs.length st).map iV) = (splice (ctxS s0 C m zs) st (layK C m zs.length st)).map iV := by simp [splice]
  have eK : layK C m zs.length st = (C.drop m).take (layK C m zs.length st).length := by
    conv => lhs; unfold layK
    rw [hl, List.take_eq_take_iff]
    simp [hC]
    have : Nat.min (4 - m) (zs.length - st) = min (4 - m) (zs.length - st) := rfl
    omega
  rw [esp, eK, ctxS_splice s0 m st C zs hC (by omega) hsm _ (by omega) (by omega)] at h5
  have hbl : b < wr.heap.size := (Array.getElem?_eq_some_iff.1 h.box).1
  refine ⟨⟨h5, (hk.keep b hbl (fun e => hgb e.symm)).trans h.box, by omega, by omega, fun h4 => ?_, h.ch.trans hk⟩, by omega, hl2⟩
  rcases hl3 with e | e
  · rw [e, ← Nat.add_assoc, Nat.add_mod, ← hsm]
    by_cases s : st = 0
    · subst s; simp
    · rw [Nat.mod_eq_of_lt (show zs.length - st < zs.length by omega), show st + (zs.length - st) = zs.length by omega, Nat.mod_self]
  · omega
set_option maxHeartbeats 2000000 in
theorem lay_any {w : World} {g : Nat} {zs : List Int} (num age slots : Nat) (c0 : Nat) (c1 c2 : Int) (s0 : Nat) (z0 z1 z2 z3 : Int) (hr : w.heap[g]? = some (.cells (ints zs) 3 (0, 0))) (h1 : 1 ≤ zs.length) (h2 : zs.length ≤ 16) (hs : s0 < zs.length) (hc : c0 < zs.length) :
    Calls Try.prog 41 #[.agg (recV num age slots (c0 : Int) c1 c2 (s0 : Int) z0 z1 z2 z3), .slice (some ⟨g, 0, none⟩) zs.length zs.length] w fun e w' => e = .returned (.tuple #[]) ∧ w'.heap[g]? = some (.cells (ints (layR ⟨num, age, slots, (c0 : Int), c1, c2, (s0 : Int), [z0, z1, z2, z3]⟩ zs)) 3 (0, 0)) ∧ Chg (fun x => x = g) w w' := by
  have hgl := (Array.getElem?_eq_some_iff.1 hr).1
  have HT0 : Hid (LyR w (w.alloc (.cells (recV num age slots (c0 : Int) c1 c2 (s0 : Int) z0 z1 z2 z3) 90)) g w.heap.size (recV num age slots (c0 : Int) c1 c2 (s0 : Int) z0 z1 z2 z3) s0 [z0, z1, z2, z3] zs 0 s0) := hide ⟨by rw [Below.heap_alloc _ _ _ hgl]; exact hr, Go.heap_alloc_new _ _, hs, by omega, fun _ => by rw [Nat.add_zero, Nat.mod_eq_of_lt hs], Chg.ofBelow ((Below.refl _ _).alloc (Nat.le_refl _) _)⟩
  have hgb : g ≠ w.heap.size := by omega
  have HL : Hid (layR ⟨num, age, slots, (c0 : Int), c1, c2, (s0 : Int), [z0, z1, z2, z3]⟩ zs = (ctxS s0 [z0, z1, z2, z3] 4 zs).set c0 c1) := hide (by simp [layR])
  clear hr
  generalize hn : zs.length = n at *
  have HN0 := hide hn
  clear hn
  go_enter Try.func41, Try.ntmps41
  go_wp2_with fail
  go_loopw [4, 5] (fun y x wr => ∃ m st : Nat, x = .int .i64 (m : Int) ∧ y = .int .i64 (st : Int) ∧ LyR w wr g w.heap.size (recV num age slots (c0 : Int) c1 c2 (s0 : Int) z0 z1 z2 z3) s0 [z0, z1, z2, z3] zs m st) (fun _ x _ => 4 - (intOf x).toNat)
  case atStart => exact ⟨0, s0, rfl, rfl, HT0.out⟩
  case round =>
    clear HT0
    obtain ⟨m, st, rfl, rfl, hct⟩ := hrel
    have hst := hct.sl
    have hml := hct.ml
    rw [HN0.out] at hst
    by_cases hm : m < 4
    · have HROW := hide hct.row
      have HSTEP : Hid (∀ w5, w5.heap[g]? = some (.cells (splice ((ctxS s0 [z0, z1, z2, z3] m zs).map iV) st ((layK [z0, z1, z2, z3] m n st).map iV)).toArray 3 (0, 0)) → Chg (fun x => x = g) wr.drew w5 → _) := hide fun w5 y1 (y2 : Chg (fun x => x = g) wr.drew w5) => hct.step hm rfl hgb (by rw [HN0.out]; exact y1) ⟨y2.os, y2.tape, y2.output, y2.size, y2.keep⟩
      have HLN : Hid (((layK [z0, z1, z2, z3] m n st).map iV).length = Nat.min (4 - m) (n - st)) := hide (by rw [List.length_map, layK_len _ _ _ _ rfl])
      have HFIT : Hid (st + ((layK [z0, z1, z2, z3] m n st).map iV).length ≤ ((ctxS s0 [z0, z1, z2, z3] m zs).map iV).length) := hide (by rw [List.length_map, List.length_map, layK_len _ _ _ _ rfl, ctxS_len, HN0.out]; have : Nat.min (4 - m) (n - st) ≤ n - st := Nat.min_le_right _ _; omega)
      have HONE : Hid (∀ v ∈ (layK [z0, z1, z2, z3] m n st).map iV, v.oneCell' = true) := hide fun v hv => by
        obtain ⟨z, -, rfl⟩ := List.mem_map.1 hv
        rfl
      have HSR : Hid (∀ j v, ((layK [z0, z1, z2, z3] m n st).map iV)[j]? = some v → wr.drew.cell? ((⟨w.heap.size, 7 + m, none⟩ : Addr).add j) = some v) := hide fun j v hj => by
        have hjl : j < (layK [z0, z1, z2, z3] m n st).length := by simpa using (List.getElem?_eq_some_iff.1 hj).1
        rw [layK_len _ _ _ _ rfl] at hjl
        have hj1 : j < 4 - m := Nat.lt_of_lt_of_le hjl (Nat.min_le_left _ _)
        have hj2 : j < n - st := Nat.lt_of_lt_of_le hjl (Nat.min_le_right _ _)
        rw [Addr.add_lit]
        show wr.cell? ⟨w.heap.size, 7 + m + j, none⟩ = some v
        rw [cell_of_row _ _ _ _ _ _ hct.box]
        rw [List.getElem?_map, layK, List.getElem?_take_of_lt hj2, List.getElem?_drop] at hj
        rcases (show m + j = 0 ∨ m + j = 1 ∨ m + j = 2 ∨ m + j = 3 by omega) with e | e | e | e <;> rw [e] at hj <;> rw [Nat.add_assoc, e] <;> exact hj
      have hst2 : st ≤ n := by omega
      have hst3 : (n = st) = False := by simp; omega
      have hsf := slice_fourO w.heap.size 7 m hm
      clear hct
      go_wp2_with fail
      go_region_law (go_loud (refine step_copyC rfl (.tmp 13) (.tmp 16) 25 25 rfl 3 Try.underlying25 (by kernel_rfl) g st ⟨w.heap.size, 7 + m, none⟩ (n - st) (n - st) (4 - m) (4 - m) rfl rfl ((ctxS s0 [z0, z1, z2, z3] m zs).map iV) 3 HROW.out ((layK [z0, z1, z2, z3] m n st).map iV) HLN.out HSR.out HFIT.out HONE.out ?_; intro w5 HG5 HB5))
      obtain ⟨q1, q2, q3⟩ := HSTEP.out w5 HG5.out HB5
      rw [HN0.out] at q1 q2 q3
      have HN := hide q1
      clear q1 HSTEP HLN HFIT HONE HSR HROW HG5 HB5 hsf hst2 hst3
      generalize (layK [z0, z1, z2, z3] m n st).length = kk at *
      go_wp2_with fail
      go_roundw
      case rel => exact ⟨m + kk, 0, by go_num, rfl, HN.out⟩
      case measure => simp [intOf]; omega
    · have em : m = 4 := by omega
      subst em
      have d3 : wr.cell? ⟨w.heap.size, 3, none⟩ = some (.int .i64 (c0 : Int)) := cell_of_row _ _ _ _ _ _ hct.box
      have d4 : wr.cell? ⟨w.heap.size, 4, none⟩ = some (.int .i64 c1) := cell_of_row _ _ _ _ _ _ hct.box
      have hlc : (ctxS s0 [z0, z1, z2, z3] 4 zs).length = n := by rw [ctxS_len, HN0.out]
      have f1 := frozen_of_row _ _ c0 _ 3 hct.row
      obtain ⟨v0, e1⟩ : ∃ v0, wr.cell? ⟨g, c0, none⟩ = some v0 := by
        rw [cell_of_row _ _ _ _ _ _ hct.row]
        exact ⟨_, Array.getElem?_eq_getElem (by simp [ints, hlc]; exact hc)⟩
      have HF : Hid ((wr.setCell ⟨g, c0, none⟩ (.int .i64 c1)).heap[g]? = some (.cells (ints ((ctxS s0 [z0, z1, z2, z3] 4 zs).set c0 c1)) 3 (0, 0)) ∧ Chg (fun x => x = g) w (wr.setCell ⟨g, c0, none⟩ (.int .i64 c1))) := hide ⟨by
        rw [Go.heap_setCell_same _ _ _ _ _ _ hct.row]
        congr 2
        simp [ints, List.map_set, iV], hct.ch.trans ⟨rfl, rfl, rfl, by rw [World.size_setCell]; exact Nat.le_refl _, fun b _ hn => Go.heap_setCell_other _ _ _ _ hn⟩⟩
      clear hct hlc
      go_wp2_with fail
      go_end0
      exact ⟨rfl, by rw [HL.out]; exact HF.out.1, HF.out.2⟩
end Go.Proofs.Ytlkccencilhacaa
namespace Go.Proofs.Ytlkccencilhacaa
open Go.RowKit Go.Sort
open Num
set_option linter.unusedVariables false
set_option linter.unusedSimpArgs false
set_option maxRecDepth 20000

/-- an answer that says whether p -/
def BoolP (w : World) (p : Prop) (e : Ending) (w' : World) : Prop := ∃ b : Bool, e = .returned (.bool b) ∧ (b = true ↔ p) ∧ Below w.heap.size w w'
set_option maxHeartbeats 2000000 in
theorem sfa_any (w : World) (num age slots : Nat) (c0 c1 c2 st z0 z1 z2 z3 : Int) (h1 : 1 ≤ slots) (h2 : slots ≤ 16) (h3 : age < 65536) :
    Calls Try.prog 91 #[.agg (recV num age slots c0 c1 c2 st z0 z1 z2 z3)] w (BoolP w (age = 65535 ∨ st = ((age * 4 % slots : Nat) : Int))) := by
  have HB : Hid (∀ k, Below w.heap.size w ((w.alloc (.cells (recV num age slots c0 c1 c2 st z0 z1 z2 z3) 90)).drewN k)) := hide fun k => by
    have hb := (Below.refl w.heap.size w).alloc (Nat.le_refl _) (.cells (recV num age slots c0 c1 c2 st z0 z1 z2 z3) 90)
    exact hb.trans (((Qt.refl _).drewN k).2.mono hb.size)
  have hrow : (w.alloc (.cells (recV num age slots c0 c1 c2 st z0 z1 z2 z3) 90)).heap[w.heap.size]? = some (.cells (recV num age slots c0 c1 c2 st z0 z1 z2 z3) 90 (0, 0)) := Go.heap_alloc_new _ _
  generalize hw1 : w.alloc (.cells (recV num age slots c0 c1 c2 st z0 z1 z2 z3) 90) = w1 at *
  have d1 : w1.cell? ⟨w.heap.size, 1, none⟩ = some (.int .i64 (age : Int)) := cell_of_row _ _ _ _ _ _ hrow
  have d2 : w1.cell? ⟨w.heap.size, 2, none⟩ = some (.int .i64 (slots : Int)) := cell_of_row _ _ _ _ _ _ hrow
  have d6 : w1.cell? ⟨w.heap.size, 6, none⟩ = some (.int .i64 st) := cell_of_row _ _ _ _ _ _ hrow
  clear hrow
  by_cases ha : age = 65535
  · subst ha
    have e1 : ((65535 : Nat) : Int) = 65535 := rfl
    rw [e1] at d1
    go_enter Try.func91, Try.ntmps91
    go_wp2_with fail
    try clear hw1
    go_quiet (fail)
    go_wp2_with fail
    go_ret
    exact ⟨true, rfl, by simp, HB.out _⟩
  · have a1 : ((age : Int) = 65535) = False := by simp; omega
    have a2 : ¬ (slots : Int) = 0 := by omega
    have a3 : IntKind.i64.wrap ((age : Int) * 4) = (age : Int) * 4 := by simp [IntKind.wrap, IntKind.bits, IntKind.signed]; omega
    have a4 : ((age : Int) * 4).tmod (slots : Int) = ((age * 4 % slots : Nat) : Int) := by rw [Int.tmod_eq_emod_of_nonneg (by omega)]; simp
    have HA := hide ha
    have hrr : ((age * 4 % slots : Nat) : Int) < 16 := by have := Nat.mod_lt (age * 4) (show 0 < slots by omega); omega
    have hrr0 : 0 ≤ ((age * 4 % slots : Nat) : Int) := by omega
    have a5 : (age : Int) * 4 % (slots : Int) = ((age * 4 % slots : Nat) : Int) := by simp
    generalize ((age * 4 % slots : Nat) : Int) = rr at *
    have a6 : IntKind.i64.wrap rr = rr := by simp [IntKind.wrap, IntKind.bits, IntKind.signed]; omega
    have a7 : IntKind.i64.wrap ((age : Int) * 4 % (slots : Int)) = rr := by rw [a5, a6]
    have a8 : ¬ slots = 0 := by omega
    go_enter Try.func91, Try.ntmps91
    go_wp2_with fail
    try clear hw1
    go_quiet (fail)
    go_wp2_with fail
    go_ret
    refine ⟨_, rfl, ?_, HB.out _⟩
    have := HA.out
    simp only [Bool.or_eq_true, beq_iff_eq]
    omega
set_option maxHeartbeats 2000000 in
theorem exb_any (w : World) (num age slots ext : Nat) (c0 c1 c2 st z0 z1 z2 z3 : Int) :
    Calls Try.prog 92 #[.agg (recV num age slots c0 c1 c2 st z0 z1 z2 z3), .int .i64 (ext : Int)] w (BoolP w ((∀ i, i < 4 → -1 ≤ [z0, z1, z2, z3].getD i 0 ∧ [z0, z1, z2, z3].getD i 0 < (ext : Int)) ∧ 0 ≤ c1 ∧ c1 < (ext : Int) ∧ -1 ≤ c2 ∧ c2 < (ext : Int) ∧ c2 ≠ c1)) := by
  have HB : Hid (Below w.heap.size w (w.alloc (.cells (recV num age slots c0 c1 c2 st z0 z1 z2 z3) 90))) := hide ((Below.refl w.heap.size w).alloc (Nat.le_refl _) _)
  have hrow : (w.alloc (.cells (recV num age slots c0 c1 c2 st z0 z1 z2 z3) 90)).heap[w.heap.size]? = some (.cells (recV num age slots c0 c1 c2 st z0 z1 z2 z3) 90 (0, 0)) := Go.heap_alloc_new _ _
  go_enter Try.func92, Try.ntmps92
  go_wp2_with fail
  generalize w.alloc _ = w1 at *
  have d4 : w1.cell? ⟨w.heap.size, 4, none⟩ = some (.int .i64 c1) := cell_of_row _ _ _ _ _ _ hrow
  have d5 : w1.cell? ⟨w.heap.size, 5, none⟩ = some (.int .i64 c2) := cell_of_row _ _ _ _ _ _ hrow
  clear hrow
  go_loop [9] (fun i => ∃ k : Nat, k ≤ 4 ∧ i = .int .i64 k ∧ ∀ j, j < k → -1 ≤ [z0, z1, z2, z3].getD j 0 ∧ [z0, z1, z2, z3].getD j 0 < (ext : Int)) (fun i => 4 - (intOf i).toNat)
  case atStart => exact ⟨0, Nat.zero_le _, rfl, fun j hj => by omega⟩
  case round =>
    obtain ⟨k, hk, rfl, hz⟩ := hrel
    have HZ := hide hz
    clear hz
    by_cases hlt : k < 4
    · have hix := idx4i z0 z1 z2 z3 k hlt
      have HG : Hid (∀ z, [z0, z1, z2, z3].getD k 0 = z → -1 ≤ z → z < (ext : Int) → ∀ j, j < k + 1 → -1 ≤ [z0, z1, z2, z3].getD j 0 ∧ [z0, z1, z2, z3].getD j 0 < (ext : Int)) := hide fun z e h1 h2 j hj => by
        by_cases ej : j = k
        · subst ej; rw [e]; exact ⟨h1, h2⟩
        · exact HZ.out j (by omega)
      have HG2 : Hid (∀ z, [z0, z1, z2, z3].getD k 0 = z → ¬ (-1 ≤ z ∧ z < (ext : Int)) → ¬ ∀ j, j < 4 → -1 ≤ [z0, z1, z2, z3].getD j 0 ∧ [z0, z1, z2, z3].getD j 0 < (ext : Int)) := hide fun z e h1 h => h1 (by have := h k hlt; rwa [e] at this)
      generalize hzz : [z0, z1, z2, z3].getD k 0 = zz at *
      have HZZ : Hid ([z0, z1, z2, z3].getD k 0 = zz) := hide hzz
      clear hzz
      by_cases hlo : zz < -1
      · go_wp2_with fail
        go_ret
        exact ⟨false, rfl, by simp only [Bool.false_eq_true, false_iff]; exact fun h => HG2.out zz rfl (by omega) h.1, HB.out⟩
      · by_cases hhi : (ext : Int) ≤ zz
        · go_wp2_with fail
          go_ret
          exact ⟨false, rfl, by simp only [Bool.false_eq_true, false_iff]; exact fun h => HG2.out zz rfl (by omega) h.1, HB.out⟩
        · go_wp2_with fail
          go_round
          case rel => exact ⟨k + 1, by omega, by go_num, HG.out zz rfl (by omega) (by omega)⟩
          case measure => simp [intOf]; omega
    · have HA : Hid (∀ i, i < 4 → -1 ≤ [z0, z1, z2, z3].getD i 0 ∧ [z0, z1, z2, z3].getD i 0 < (ext : Int)) := hide fun i hi => HZ.out i (by omega)
      clear HZ
      go_wp2_with fail
      all_goals
        go_ret
        refine ⟨_, rfl, ?_, HB.out⟩
        simp only [Bool.false_eq_true, false_iff, Bool.true_eq, true_iff, iff_true, decide_eq_true_eq, bne_iff_ne, ne_eq, Bool.not_eq_true', beq_eq_false_iff_ne]
        first
          | omega
          | (intro h; omega)
          | exact ⟨fun h => ⟨fun i hi => HA.out i hi, h⟩, fun h => h.2⟩
theorem ctxF_any {w : World} {g : Nat} {zs : List Int} {start : Nat} (hr : w.heap[g]? = some (.cells (ints zs) 3 (0, 0))) (h1 : 1 ≤ zs.length) (h2 : zs.length ≤ 16) (hs : start < zs.length) :
    Calls Try.prog 78 #[.slice (some ⟨g, 0, none⟩) zs.length zs.length, .int .i64 (start : Int)] w fun e w' => e = .returned (.agg #[.int .i64 ((ctxL zs start).getD 0 0), .int .i64 ((ctxL zs start).getD 1 0), .int .i64 ((ctxL zs start).getD 2 0), .int .i64 ((ctxL zs start).getD 3 0)]) ∧ Below w.heap.size w w' := by
  refine (ctx_any hr h1 h2 hs).mono ?_
  rintro e w' ⟨C, rfl, hC, hi, hb⟩
  rw [← ctxL_of h1 hC hi]
  match C, hC with
  | [a, b, c, d], _ => exact ⟨rfl, hb⟩
end Go.Proofs.Ytlkccencilhacaa
namespace Go.Proofs.Ytlkccencilhacaa
open Go.RowKit Go.Sort
open Num
set_option linter.unusedVariables false
set_option linter.unusedSimpArgs false
set_option maxRecDepth 20000

theorem part_int (xs : Array Value) (off : Nat) (v : Value) (h : xs[off]? = some v) (W : World) : (part 3 xs off).run Try.prog W = .ok v W := by
  have hi : (isAgg 3).run Try.prog W = .ok false W := by kernel_rfl
  simp [part, hi, h]
theorem eqInt (d : Nat) (a b : Int) (W : World) : (Op.equalIn (d + 1) 3 (.int .i64 a) (.int .i64 b)).run Try.prog W = .ok (a == b) W := run_equalIn_int W d 3 .i64 .i64 a b Try.underlying3
theorem eqFourD (d : Nat) (he : ∀ (a b : Int) (W : World), (Op.equalIn d 3 (.int .i64 a) (.int .i64 b)).run Try.prog W = .ok (a == b) W) (a0 a1 a2 a3 z0 z1 z2 z3 : Int) (W : World) : (Op.equalIn (d + 1) 88 (.agg #[.int .i64 a0, .int .i64 a1, .int .i64 a2, .int .i64 a3]) (.agg #[.int .i64 z0, .int .i64 z1, .int .i64 z2, .int .i64 z3])).run Try.prog W = .ok (decide ([a0, a1, a2, a3] = [z0, z1, z2, z3])) W := by
  have hs : (sizeOf 3).run Try.prog W = .ok 1 W := by kernel_rfl
  have p0 : ∀ a0 a1 a2 a3 : Int, (part 3 #[.int .i64 a0, .int .i64 a1, .int .i64 a2, .int .i64 a3] 0).run Try.prog W = .ok (.int .i64 a0) W := fun _ _ _ _ => part_int _ _ _ rfl W
  have p1 : ∀ a0 a1 a2 a3 : Int, (part 3 #[.int .i64 a0, .int .i64 a1, .int .i64 a2, .int .i64 a3] 1).run Try.prog W = .ok (.int .i64 a1) W := fun _ _ _ _ => part_int _ _ _ rfl W
  have p2 : ∀ a0 a1 a2 a3 : Int, (part 3 #[.int .i64 a0, .int .i64 a1, .int .i64 a2, .int .i64 a3] 2).run Try.prog W = .ok (.int .i64 a2) W := fun _ _ _ _ => part_int _ _ _ rfl W
  have p3 : ∀ a0 a1 a2 a3 : Int, (part 3 #[.int .i64 a0, .int .i64 a1, .int .i64 a2, .int .i64 a3] 3).run Try.prog W = .ok (.int .i64 a3) W := fun _ _ _ _ => part_int _ _ _ rfl W
  simp only [Op.equalIn, Sem.run_bind, run_underlying Try.underlying88, Result.andThen_ok, hs]
  by_cases h0 : a0 = z0
  · by_cases h1 : a1 = z1
    · by_cases h2 : a2 = z2
      · by_cases h3 : a3 = z3
        · simp [List.range', p0, p1, p2, p3, he, Result.andThen, h0, h1, h2, h3]
        · simp [List.range', p0, p1, p2, p3, he, Result.andThen, h0, h1, h2, h3]
      · simp [List.range', p0, p1, p2, p3, he, Result.andThen, h0, h1, h2]
    · simp [List.range', p0, p1, p2, p3, he, Result.andThen, h0, h1]
  · simp [List.range', p0, p1, p2, p3, he, Result.andThen, h0]
theorem eqFour (a0 a1 a2 a3 z0 z1 z2 z3 : Int) (W : World) : (Op.equalIn 10000 88 (.agg #[.int .i64 a0, .int .i64 a1, .int .i64 a2, .int .i64 a3]) (.agg #[.int .i64 z0, .int .i64 z1, .int .i64 z2, .int .i64 z3])).run Try.prog W = .ok (decide ([a0, a1, a2, a3] = [z0, z1, z2, z3])) W := eqFourD 9999 (fun a b W => eqInt 9998 a b W) a0 a1 a2 a3 z0 z1 z2 z3 W
/-- what stands in contextAgrees -/
structure AgW (w x : World) (R : Array Value) (g : Nat) (zs : List Int) : Prop where
  box : x.heap[w.heap.size]? = some (.cells R 90 (0, 0))
  row : x.heap[g]? = some (.cells (ints zs) 3 (0, 0))
  be : Below w.heap.size w x
  lo : w.heap.size < g
theorem AgW.below {w x y : World} {R : Array Value} {g : Nat} {zs : List Int} (h : AgW w x R g zs) (hb : Below x.heap.size x y) : AgW w y R g zs :=
  ⟨(hb.block _ (Array.getElem?_eq_some_iff.1 h.box).1).trans h.box, (hb.block _ (Array.getElem?_eq_some_iff.1 h.row).1).trans h.row, h.be.trans (hb.mono h.be.size), h.lo⟩
set_option maxHeartbeats 2000000 in
theorem cag_any (w : World) (num age slots c0 : Nat) (c1 c2 : Int) (s0 : Nat) (z0 z1 z2 z3 : Int) (h1 : 1 ≤ slots) (h2 : slots ≤ 16) (h3 : c0 < slots) (h4 : s0 < slots) :
    Calls Try.prog 93 #[.agg (recV num age slots (c0 : Int) c1 c2 (s0 : Int) z0 z1 z2 z3)] w (BoolP w (ctxL (layR ⟨num, age, slots, (c0 : Int), c1, c2, (s0 : Int), [z0, z1, z2, z3]⟩ (List.replicate slots (-1))) s0 = [z0, z1, z2, z3])) := by
  have HFR := hide fun x => freeRow_any x slots h1 h2
  have HLY : Hid (∀ x g, AgW w x (recV num age slots (c0 : Int) c1 c2 (s0 : Int) z0 z1 z2 z3) g (List.replicate slots (-1)) → Calls Try.prog 41 #[.agg (recV num age slots (c0 : Int) c1 c2 (s0 : Int) z0 z1 z2 z3), .slice (some ⟨g, 0, none⟩) slots slots] x fun e y => e = .returned (.tuple #[]) ∧ AgW w y (recV num age slots (c0 : Int) c1 c2 (s0 : Int) z0 z1 z2 z3) g (layR ⟨num, age, slots, (c0 : Int), c1, c2, (s0 : Int), [z0, z1, z2, z3]⟩ (List.replicate slots (-1)))) := hide fun x g hx => by
    have h := lay_any (g := g) (zs := List.replicate slots (-1)) num age slots c0 c1 c2 s0 z0 z1 z2 z3 hx.row (by simpa using h1) (by simpa using h2) (by simpa using h4) (by simpa using h3)
    rw [List.length_replicate] at h
    refine h.mono ?_
    rintro e y ⟨rfl, hr, hc⟩
    have hgl := hx.lo
    exact ⟨rfl, (hc.keep _ (Array.getElem?_eq_some_iff.1 hx.box).1 (by omega)).trans hx.box, hr, hx.be.trans (hc.below hx.be.size fun b e => by omega), hgl⟩
  have HST : Hid (∀ y, y.heap[w.heap.size + 1]? = some (.cells (ints (List.replicate slots (-1))) 3 (0, 0)) → Below (w.heap.size + 1) (w.alloc (.cells (recV num age slots (c0 : Int) c1 c2 (s0 : Int) z0 z1 z2 z3) 90)) y → AgW w y (recV num age slots (c0 : Int) c1 c2 (s0 : Int) z0 z1 z2 z3) (w.heap.size + 1) (List.replicate slots (-1))) := hide fun y hr hb => by
    have hb0 := (Below.refl w.heap.size w).alloc (Nat.le_refl _) (.cells (recV num age slots (c0 : Int) c1 c2 (s0 : Int) z0 z1 z2 z3) 90)
    exact ⟨(hb.block _ (by omega)).trans (Go.heap_alloc_new _ _), hr, hb0.trans (hb.mono (by omega)), by omega⟩
  have HLL : Hid ((layR ⟨num, age, slots, (c0 : Int), c1, c2, (s0 : Int), [z0, z1, z2, z3]⟩ (List.replicate slots (-1))).length = slots) := hide (by rw [layR_len, List.length_replicate])
  generalize layR ⟨num, age, slots, (c0 : Int), c1, c2, (s0 : Int), [z0, z1, z2, z3]⟩ (List.replicate slots (-1)) = LZ at *
  have HCX : Hid (∀ x, AgW w x (recV num age slots (c0 : Int) c1 c2 (s0 : Int) z0 z1 z2 z3) (w.heap.size + 1) LZ → _) := hide fun x (hx : AgW w x (recV num age slots (c0 : Int) c1 c2 (s0 : Int) z0 z1 z2 z3) (w.heap.size + 1) LZ) => ctxF_any (start := s0) hx.row (by rw [HLL.out]; exact h1) (by rw [HLL.out]; exact h2) (by rw [HLL.out]; exact h4)
  rw [HLL.out] at HCX
  have HC4 : Hid (ctxL LZ s0 = [(ctxL LZ s0).getD 0 0, (ctxL LZ s0).getD 1 0, (ctxL LZ s0).getD 2 0, (ctxL LZ s0).getD 3 0]) := hide (by unfold ctxL; rfl)
  generalize ctxL LZ s0 = CC at *
  generalize CC.getD 0 0 = a0 at *
  generalize CC.getD 1 0 = a1 at *
  generalize CC.getD 2 0 = a2 at *
  generalize CC.getD 3 0 = a3 at *
  clear h1 h2 h3 h4
  go_enter Try.func93, Try.ntmps93
  go_wp2_with (first
    | (go_at_call 38; refine (HFR.out _).mono ?_; rintro e y ⟨rfl, hy1, hy2⟩; rw [World.size_alloc] at hy1 hy2; have HA := hide (HST.out _ hy1 hy2); clear hy1 hy2)
    | (go_at_call 41; refine (HLY.out _ _ HA.out).mono ?_; rintro e y2 ⟨rfl, hb2⟩; have HA2 := hide hb2; clear hb2)
    | (refine wpList_load_row rfl 90 (.tmp 1) rfl w.heap.size rfl 90 (recV num age slots (c0 : Int) c1 c2 (s0 : Int) z0 z1 z2 z3) (0, 0) _ HA.out.box Try.underlying90 rfl recSize ?_))
  have d6 : y2.cell? ⟨w.heap.size, 6, none⟩ = some (.int .i64 (s0 : Int)) := cell_of_row _ _ _ _ _ _ HA2.out.box
  have d7 : y2.cell? ⟨w.heap.size, 7, none⟩ = some (.int .i64 z0) := cell_of_row _ _ _ _ _ _ HA2.out.box
  have d8 : y2.cell? ⟨w.heap.size, 8, none⟩ = some (.int .i64 z1) := cell_of_row _ _ _ _ _ _ HA2.out.box
  have d9 : y2.cell? ⟨w.heap.size, 9, none⟩ = some (.int .i64 z2) := cell_of_row _ _ _ _ _ _ HA2.out.box
  have d10 : y2.cell? ⟨w.heap.size, 10, none⟩ = some (.int .i64 z3) := cell_of_row _ _ _ _ _ _ HA2.out.box
  have HD : Hid (∀ x, Below y2.drew.heap.size y2.drew x → x.cell? ⟨w.heap.size, 6, none⟩ = some (.int .i64 (s0 : Int)) ∧ x.cell? ⟨w.heap.size, 7, none⟩ = some (.int .i64 z0) ∧ x.cell? ⟨w.heap.size, 8, none⟩ = some (.int .i64 z1) ∧ x.cell? ⟨w.heap.size, 9, none⟩ = some (.int .i64 z2) ∧ x.cell? ⟨w.heap.size, 10, none⟩ = some (.int .i64 z3)) := hide fun x hx => by
    have hb := (HA2.out.below (y := x) ⟨hx.os, hx.tape, hx.output, hx.size, hx.block⟩).box
    exact ⟨cell_of_row _ _ _ _ _ _ hb, cell_of_row _ _ _ _ _ _ hb, cell_of_row _ _ _ _ _ _ hb, cell_of_row _ _ _ _ _ _ hb, cell_of_row _ _ _ _ _ _ hb⟩
  clear HA HLY HST HFR
  have heq := eqFour a0 a1 a2 a3 z0 z1 z2 z3
  have HAD : Hid (AgW w y2.drew (recV num age slots (c0 : Int) c1 c2 (s0 : Int) z0 z1 z2 z3) (w.heap.size + 1) LZ) := hide ⟨HA2.out.box, HA2.out.row, HA2.out.be.drew, HA2.out.lo⟩
  go_region_held3 (fun x => x.cell? ⟨w.heap.size, 6, none⟩ = some (.int .i64 (s0 : Int)) ∧ x.cell? ⟨w.heap.size, 7, none⟩ = some (.int .i64 z0) ∧ x.cell? ⟨w.heap.size, 8, none⟩ = some (.int .i64 z1) ∧ x.cell? ⟨w.heap.size, 9, none⟩ = some (.int .i64 z2) ∧ x.cell? ⟨w.heap.size, 10, none⟩ = some (.int .i64 z3)) (first | exact ⟨d6, d7, d8, d9, d10⟩ | exact hcs)
    ((go_at_call 78; refine (HCX.out _ HAD.out).mono ?_; rintro e y3 ⟨rfl, hb3⟩; have hcs := HD.out _ hb3; have HB3 := hide (HAD.out.be.trans (hb3.mono HAD.out.be.size)); clear hb3))
  go_wp2_with fail
  go_ret
  exact ⟨_, rfl, by rw [HC4.out]; simp, HB3.out⟩
set_option maxHeartbeats 2000000 in
theorem valid_any (w : World) (num age slots0 : Nat) (c0 c1 c2 st z0 z1 z2 z3 : Int) (slots ext : Nat) (h1 : 1 ≤ slots) (h2 : slots ≤ 16) (h3 : age < 65536) :
    Calls Try.prog 66 #[.agg (recV num age slots0 c0 c1 c2 st z0 z1 z2 z3), .int .i64 (slots : Int), .int .i64 (ext : Int)] w (BoolP w ((Rc.mk num age slots0 c0 c1 c2 st [z0, z1, z2, z3]).Ok slots ext)) := by
  by_cases hall : slots0 = slots ∧ 0 ≤ c0 ∧ c0 < (slots : Int) ∧ 0 ≤ st ∧ st < (slots : Int)
  · obtain ⟨rfl, q1, q2, q3, q4⟩ := hall
    obtain ⟨cn, rfl⟩ : ∃ k : Nat, c0 = (k : Int) := ⟨c0.toNat, by omega⟩
    obtain ⟨sn, rfl⟩ : ∃ k : Nat, st = (k : Int) := ⟨st.toNat, by omega⟩
    have HB0 : Hid (Below w.heap.size w (w.alloc (.cells (recV num age slots0 (cn : Int) c1 c2 (sn : Int) z0 z1 z2 z3) 90)) ∧ (w.alloc (.cells (recV num age slots0 (cn : Int) c1 c2 (sn : Int) z0 z1 z2 z3) 90)).heap[w.heap.size]? = some (.cells (recV num age slots0 (cn : Int) c1 c2 (sn : Int) z0 z1 z2 z3) 90 (0, 0))) := hide ⟨(Below.refl w.heap.size w).alloc (Nat.le_refl _) _, Go.heap_alloc_new _ _⟩
    have HS1 := hide fun x => sfa_any x num age slots0 (cn : Int) c1 c2 (sn : Int) z0 z1 z2 z3 h1 h2 h3
    have HS2 := hide fun x => exb_any x num age slots0 ext (cn : Int) c1 c2 (sn : Int) z0 z1 z2 z3
    have HS3 := hide fun x => cag_any x num age slots0 cn c1 c2 sn z0 z1 z2 z3 h1 h2 (by omega) (by omega)
    have HK : Hid (∀ x y, Below w.heap.size w x ∧ x.heap[w.heap.size]? = some (.cells (recV num age slots0 (cn : Int) c1 c2 (sn : Int) z0 z1 z2 z3) 90 (0, 0)) → Below x.heap.size x y → Below w.heap.size w y ∧ y.heap[w.heap.size]? = some (.cells (recV num age slots0 (cn : Int) c1 c2 (sn : Int) z0 z1 z2 z3) 90 (0, 0))) := hide fun x y hx hb => ⟨hx.1.trans (hb.mono hx.1.size), (hb.block _ (Array.getElem?_eq_some_iff.1 hx.2).1).trans hx.2⟩
    have HOK : Hid ((Rc.mk num age slots0 (cn : Int) c1 c2 (sn : Int) [z0, z1, z2, z3]).Ok slots0 ext ↔ (age = 65535 ∨ (sn : Int) = ((age * 4 % slots0 : Nat) : Int)) ∧ ((∀ i, i < 4 → -1 ≤ [z0, z1, z2, z3].getD i 0 ∧ [z0, z1, z2, z3].getD i 0 < (ext : Int)) ∧ 0 ≤ c1 ∧ c1 < (ext : Int) ∧ -1 ≤ c2 ∧ c2 < (ext : Int) ∧ c2 ≠ c1) ∧ ctxL (layR ⟨num, age, slots0, (cn : Int), c1, c2, (sn : Int), [z0, z1, z2, z3]⟩ (List.replicate slots0 (-1))) sn = [z0, z1, z2, z3]) := hide (by
      constructor
      · intro h
        exact ⟨h.ag, ⟨h.cx, h.e0, h.e1, h.o0, h.o1, h.ne⟩, by simpa using h.ca⟩
      · rintro ⟨g1, ⟨g2, g3, g4, g5, g6, g7⟩, g8⟩
        exact ⟨rfl, q1, q2, q3, q4, g1, g2, g3, g4, g5, g6, g7, by simpa using g8⟩)
    have s1 : (cn : Int) < (slots0 : Int) := q2
    have s2 : (sn : Int) < (slots0 : Int) := q4
    clear h1 h2 h3 q1 q3 q2 q4
    generalize (Rc.mk num age slots0 (cn : Int) c1 c2 (sn : Int) [z0, z1, z2, z3]).Ok slots0 ext = OK at *
    generalize (age = 65535 ∨ (sn : Int) = ((age * 4 % slots0 : Nat) : Int)) = P1 at *
    generalize ((∀ i, i < 4 → -1 ≤ [z0, z1, z2, z3].getD i 0 ∧ [z0, z1, z2, z3].getD i 0 < (ext : Int)) ∧ 0 ≤ c1 ∧ c1 < (ext : Int) ∧ -1 ≤ c2 ∧ c2 < (ext : Int) ∧ c2 ≠ c1) = P2 at *
    generalize (ctxL (layR ⟨num, age, slots0, (cn : Int), c1, c2, (sn : Int), [z0, z1, z2, z3]⟩ (List.replicate slots0 (-1))) sn = [z0, z1, z2, z3]) = P3 at *
    go_enter Try.func66, Try.ntmps66
    go_wp2_with (first
      | (go_at_call 91; refine (HS1.out _).mono ?_; rintro e x1 ⟨b1, rfl, hb1, hx1⟩; have HX1 := hide (HK.out _ _ HB0.out hx1); have HP1 := hide hb1; clear hx1 hb1 HS1; have x10 : x1.cell? ⟨w.heap.size, 0, none⟩ = some (.int .u32 (num : Int)) := cell_of_row _ _ _ _ _ _ HX1.out.2; have x11 : x1.cell? ⟨w.heap.size, 1, none⟩ = some (.int .i64 (age : Int)) := cell_of_row _ _ _ _ _ _ HX1.out.2; have x12 : x1.cell? ⟨w.heap.size, 2, none⟩ = some (.int .i64 (slots0 : Int)) := cell_of_row _ _ _ _ _ _ HX1.out.2; have x13 : x1.cell? ⟨w.heap.size, 3, none⟩ = some (.int .i64 (cn : Int)) := cell_of_row _ _ _ _ _ _ HX1.out.2; have x14 : x1.cell? ⟨w.heap.size, 4, none⟩ = some (.int .i64 c1) := cell_of_row _ _ _ _ _ _ HX1.out.2; have x15 : x1.cell? ⟨w.heap.size, 5, none⟩ = some (.int .i64 c2) := cell_of_row _ _ _ _ _ _ HX1.out.2; have x16 : x1.cell? ⟨w.heap.size, 6, none⟩ = some (.int .i64 (sn : Int)) := cell_of_row _ _ _ _ _ _ HX1.out.2; have x17 : x1.cell? ⟨w.heap.size, 7, none⟩ = some (.int .i64 z0) := cell_of_row _ _ _ _ _ _ HX1.out.2; have x18 : x1.cell? ⟨w.heap.size, 8, none⟩ = some (.int .i64 z1) := cell_of_row _ _ _ _ _ _ HX1.out.2; have x19 : x1.cell? ⟨w.heap.size, 9, none⟩ = some (.int .i64 z2) := cell_of_row _ _ _ _ _ _ HX1.out.2; have x110 : x1.cell? ⟨w.heap.size, 10, none⟩ = some (.int .i64 z3) := cell_of_row _ _ _ _ _ _ HX1.out.2; cases b1)
      | (go_at_call 92; refine (HS2.out _).mono ?_; rintro e x2 ⟨b2, rfl, hb2, hx2⟩; have HX2 := hide (HK.out _ _ HX1.out hx2); have HP2 := hide hb2; clear hx2 hb2 HS2; have x20 : x2.cell? ⟨w.heap.size, 0, none⟩ = some (.int .u32 (num : Int)) := cell_of_row _ _ _ _ _ _ HX2.out.2; have x21 : x2.cell? ⟨w.heap.size, 1, none⟩ = some (.int .i64 (age : Int)) := cell_of_row _ _ _ _ _ _ HX2.out.2; have x22 : x2.cell? ⟨w.heap.size, 2, none⟩ = some (.int .i64 (slots0 : Int)) := cell_of_row _ _ _ _ _ _ HX2.out.2; have x23 : x2.cell? ⟨w.heap.size, 3, none⟩ = some (.int .i64 (cn : Int)) := cell_of_row _ _ _ _ _ _ HX2.out.2; have x24 : x2.cell? ⟨w.heap.size, 4, none⟩ = some (.int .i64 c1) := cell_of_row _ _ _ _ _ _ HX2.out.2; have x25 : x2.cell? ⟨w.heap.size, 5, none⟩ = some (.int .i64 c2) := cell_of_row _ _ _ _ _ _ HX2.out.2; have x26 : x2.cell? ⟨w.heap.size, 6, none⟩ = some (.int .i64 (sn : Int)) := cell_of_row _ _ _ _ _ _ HX2.out.2; have x27 : x2.cell? ⟨w.heap.size, 7, none⟩ = some (.int .i64 z0) := cell_of_row _ _ _ _ _ _ HX2.out.2; have x28 : x2.cell? ⟨w.heap.size, 8, none⟩ = some (.int .i64 z1) := cell_of_row _ _ _ _ _ _ HX2.out.2; have x29 : x2.cell? ⟨w.heap.size, 9, none⟩ = some (.int .i64 z2) := cell_of_row _ _ _ _ _ _ HX2.out.2; have x210 : x2.cell? ⟨w.heap.size, 10, none⟩ = some (.int .i64 z3) := cell_of_row _ _ _ _ _ _ HX2.out.2; cases b2)
      | (go_at_call 93; refine (HS3.out _).mono ?_; rintro e x3 ⟨b3, rfl, hb3, hx3⟩; have HX3 := hide (HK.out _ _ HX2.out hx3); have HP3 := hide hb3; clear hx3 hb3 HS3; cases b3))
    all_goals
      go_ret
      refine ⟨_, rfl, ?_, by first | exact HX3.out.1 | exact HX2.out.1 | exact HX1.out.1⟩
      rw [HOK.out]
      first
        | exact ⟨fun _ => ⟨HP1.out.1 (by first | trivial | rfl), HP2.out.1 (by first | trivial | rfl), HP3.out.1 (by first | trivial | rfl)⟩, fun _ => rfl⟩
        | exact ⟨fun h => absurd (show false = true from h) (by decide), fun h => absurd (HP3.out.2 h.2.2) (by decide)⟩
        | exact ⟨fun h => absurd (show false = true from h) (by decide), fun h => absurd (HP2.out.2 h.2.1) (by decide)⟩
        | exact ⟨fun h => absurd (show false = true from h) (by decide), fun h => absurd (HP1.out.2 h.1) (by decide)⟩
  · have HB0 : Hid (Below w.heap.size w (w.alloc (.cells (recV num age slots0 c0 c1 c2 st z0 z1 z2 z3) 90))) := hide ((Below.refl w.heap.size w).alloc (Nat.le_refl _) _)
    have HNO : Hid (¬ (Rc.mk num age slots0 c0 c1 c2 st [z0, z1, z2, z3]).Ok slots ext) := hide fun h => hall ⟨h.sl, h.a0, h.a1, h.s0, h.s1⟩
    generalize (Rc.mk num age slots0 c0 c1 c2 st [z0, z1, z2, z3]).Ok slots ext = OK at *
    have HALL := hide hall
    clear hall
    go_enter Try.func66, Try.ntmps66
    go_wp2_with fail
    all_goals first
      | (go_ret; exact ⟨false, rfl, by simp only [Bool.false_eq_true, false_iff]; exact HNO.out, HB0.out⟩)
      | (exfalso; have := HALL.out; omega)
end Go.Proofs.Ytlkccencilhacaa
namespace Go.Proofs.Ytlkccencilhacaa
open Go.RowKit Go.Sort
open Num
set_option linter.unusedVariables false
set_option linter.unusedSimpArgs false
set_option maxRecDepth 20000

abbrev zplc : Array Value := #[.int .u32 0, .int .i64 0, .int .i64 0, .int .i64 0, .int .i64 0, .int .i64 0, .int .i64 0, .int .i64 0, .int .i64 0, .int .i64 0, .int .i64 0, .bool false]
def zRc : Rc := ⟨0, 0, 0, 0, 0, 0, 0, [0, 0, 0, 0]⟩
def plR (p : Option Rc) : Rc := p.getD zRc
/-- a place as values -/
def plV (p : Option Rc) : List Value := (recI (plR p)).toList ++ [.bool p.isSome]
theorem plV_len (p : Option Rc) : (plV p).length = 12 := by simp [plV, recI]
theorem placeSize : (Try.prog.info? 135).map (·.size) = some 12 := by kernel_rfl
/-- the places of a ring in memory -/
def HPl (w : World) (g : Nat) (P : List (Option Rc)) : Prop := w.heap[g]? = some (.cells (P.flatMap plV).toArray 135 (0, 0))
theorem HPl.below {w x : World} {g N : Nat} {P : List (Option Rc)} (h : HPl w g P) (hb : Below N w x) (hN : g < N) : HPl x g P := (hb.block g hN).trans h
theorem flatP_get : ∀ (P : List (Option Rc)) (i k : Nat) (p : Option Rc), P[i]? = some p → k < 12 → (P.flatMap plV)[i * 12 + k]? = (plV p)[k]?
  | [], i, k, p, h, _ => by simp at h
  | q :: P, 0, k, p, h, hk => by
    simp only [List.getElem?_cons_zero, Option.some.injEq] at h
    subst h
    rw [List.flatMap_cons, Nat.zero_mul, Nat.zero_add, List.getElem?_append_left (by rw [plV_len]; exact hk)]
  | q :: P, i + 1, k, p, h, hk => by
    rw [List.flatMap_cons, List.getElem?_append_right (by rw [plV_len]; omega), plV_len, show (i + 1) * 12 + k - 12 = i * 12 + k by omega]
    exact flatP_get P i k p (by simpa using h) hk
theorem HPl.range {w : World} {g : Nat} {P : List (Option Rc)} (h : HPl w g P) {i : Nat} {p : Option Rc} (hp : P[i]? = some p) : w.rangeAt g (i * 12) (plV p) := by
  intro j v hj
  have hjl : j < (plV p).length := (List.getElem?_eq_some_iff.1 hj).1
  rw [plV_len] at hjl
  rw [cell_of_row _ _ _ _ _ _ h]
  simp only [List.getElem?_toArray]
  rw [flatP_get P i j p hp hjl]
  exact hj
theorem plV_lit (p : Option Rc) : ∃ num age slots : Nat, ∃ c0 c1 c2 st z0 z1 z2 z3 : Int, ∃ f : Bool, plV p = [.int .u32 (num : Int), .int .i64 (age : Int), .int .i64 (slots : Int), .int .i64 c0, .int .i64 c1, .int .i64 c2, .int .i64 st, .int .i64 z0, .int .i64 z1, .int .i64 z2, .int .i64 z3, .bool f] ∧ (plR p).num = num ∧ p.isSome = f ∧ recI (plR p) = #[.int .u32 (num : Int), .int .i64 (age : Int), .int .i64 (slots : Int), .int .i64 c0, .int .i64 c1, .int .i64 c2, .int .i64 st, .int .i64 z0, .int .i64 z1, .int .i64 z2, .int .i64 z3] := ⟨_, _, _, _, _, _, _, _, _, _, _, _, rfl, rfl, rfl, rfl⟩
set_option maxHeartbeats 1000000 in
theorem hidx_any (w : World) (a : Option Addr) (n num : Nat) (h1 : 1 ≤ n) (h2 : n ≤ 4) (hn : num < 4294967296) :
    Calls Try.prog 67 #[.slice a n n, .int .u32 (num : Int)] w fun e w' => e = .returned (.int .i64 ((num % n : Nat) : Int)) ∧ w' = w := by
  rcases (show n = 1 ∨ n = 2 ∨ n = 3 ∨ n = 4 by omega) with rfl | rfl | rfl | rfl
  all_goals
    go_enter Try.func67, Try.ntmps67
    go_wp2_with fail
    go_ret
    refine ⟨?_, rfl⟩
    first | rfl | (simp; done) | (simp; omega)
theorem results_plc {P : Program} {fn : Func} {p : Tmp} {ty : TypeId} (h : fn.results = #[.cell p ty]) (tmps : Array Value) (w : World) (g : Nat) (t : TypeId) (cs : Array Value) (fr : Nat × Nat) (d : TypeDesc)
    (hp : tmps.getD p undef = .pointer (some ⟨g, 0, none⟩)) (hg : w.heap[g]? = some (.cells cs t fr))
    (hu : P.underlying ty = some d) (hd : (match d with | .struct _ | .array _ _ => true | _ => false) = true) (hi : (P.info? ty).map (·.size) = some cs.size) :
    (results fn tmps).run P w = .ok (.agg cs) w := results_row h tmps w g t cs fr d hp hg hu hd hi
set_option maxHeartbeats 2000000 in
theorem hat_any {w : World} {g : Nat} {P : List (Option Rc)} (h : HPl w g P) (h1 : 1 ≤ P.length) (h2 : P.length ≤ 4) (num : Nat) (hn : num < 4294967296) :
    Calls Try.prog 69 #[.slice (some ⟨g, 0, none⟩) P.length P.length, .int .u32 (num : Int)] w fun e w' => e = .returned (.agg (plV (pAt P num)).toArray) ∧ Below w.heap.size w w' := by
  have hi : num % P.length < P.length := Nat.mod_lt _ (by omega)
  have hp : P[num % P.length]? = some (pAt P num) := by
    unfold pAt
    rw [List.getD_eq_getElem?_getD, List.getElem?_eq_getElem hi]; rfl
  have hgl := (Array.getElem?_eq_some_iff.1 h).1
  have HR : Hid (w.rangeAt g (num % P.length * 12) (plV (pAt P num))) := hide (h.range hp)
  have HI := hide (hidx_any (w.alloc (.cells zplc 135)) (some ⟨g, 0, none⟩) P.length num h1 h2 hn)
  have HB : Hid (Below w.heap.size w (w.alloc (.cells zplc 135))) := hide ((Below.refl _ _).alloc (Nat.le_refl _) _)
  have HZ : Hid ((w.alloc (.cells zplc 135)).heap[w.heap.size]? = some (.cells zplc 135 (0, 0))) := hide (Go.heap_alloc_new _ _)
  obtain ⟨num', age, slots, c0, c1, c2, st, z0, z1, z2, z3, f, e1, -, -, -⟩ := plV_lit (pAt P num)
  rw [e1] at HR
  rw [e1]
  have HRa : Hid ((w.alloc (.cells zplc 135)).rangeAt g (num % P.length * 12) [.int .u32 (num' : Int), .int .i64 (age : Int), .int .i64 (slots : Int), .int .i64 c0, .int .i64 c1, .int .i64 c2, .int .i64 st, .int .i64 z0, .int .i64 z1, .int .i64 z2, .int .i64 z3, .bool f]) := hide fun j v hj => by
    rw [HB.out.cell hgl]; exact HR.out j v hj
  clear h hp hgl HR e1
  generalize num % P.length = ix at *
  generalize P.length = n at *
  have hix : (ix : Int) < (n : Int) := by omega
  clear hi
  go_enter Try.func69, Try.ntmps69
  go_wp2_with (first
    | (go_at_call 67; refine HI.out.mono ?_; rintro e y ⟨rfl, rfl⟩)
    | refine wpList_load_mid rfl 135 (.tmp 9) rfl g (ix * 12) rfl _ _ HRa.out Try.underlying135 rfl placeSize ?_
    | (refine wpList_store_row rfl 135 (.tmp 4) (.tmp 10) rfl w.heap.size #[.int .u32 (num' : Int), .int .i64 (age : Int), .int .i64 (slots : Int), .int .i64 c0, .int .i64 c1, .int .i64 c2, .int .i64 st, .int .i64 z0, .int .i64 z1, .int .i64 z2, .int .i64 z3, .bool f] rfl rfl 135 zplc HZ.out placeSize rfl (by first | kernel_rfl | simp [Value.oneCell']) ?_))
  have HF := hide (setRow_heap _ w.heap.size zplc #[.int .u32 (num' : Int), .int .i64 (age : Int), .int .i64 (slots : Int), .int .i64 c0, .int .i64 c1, .int .i64 c2, .int .i64 st, .int .i64 z0, .int .i64 z1, .int .i64 z2, .int .i64 z3, .bool f] 135 (0, 0) HZ.out)
  refine bodyPost_ret (results_plc (fn := Try.f69) (p := 4) (ty := 135) (by kernel_rfl) _ _ w.heap.size 135 _ (0, 0) _ rfl HF.out Try.underlying135 rfl placeSize) rfl ⟨rfl, HB.out.trans ⟨rfl, rfl, rfl, Nat.le_of_eq (setRow_size ..).symm, fun k hk => setRow_other _ _ _ _ (by omega)⟩⟩
end Go.Proofs.Ytlkccencilhacaa
namespace Go.Proofs.Ytlkccencilhacaa
open Go.RowKit Go.Sort
open Num
set_option linter.unusedVariables false
set_option linter.unusedSimpArgs false
set_option maxRecDepth 20000

/-- bytes' readings stay where the blocks stay -/
theorem BSl.keep {w x : World} {v : Value} {l : List Nat} (h : BSl w v l) (hk : ∀ b, b < w.heap.size → x.heap[b]? = w.heap[b]?) : BSl x v l := by
  obtain ⟨a, cap, rfl, h1, h2, h3, h4, h5⟩ := h
  refine ⟨a, cap, rfl, h1, h2, h3, h4, fun hp => ?_⟩
  obtain ⟨b, off, rfl, hc⟩ := h5 hp
  refine ⟨b, off, rfl, fun i hi => ?_⟩
  have hci := hc i hi
  have hlt : b < w.heap.size := by
    by_cases e : b < w.heap.size
    · exact e
    · simp [World.cell?, Array.getElem?_eq_none (show w.heap.size ≤ b by omega)] at hci
  simp only [World.cell?, hk b hlt] at hci ⊢
  exact hci
theorem BSl.below {w x : World} {v : Value} {l : List Nat} (h : BSl w v l) (hb : Below w.heap.size w x) : BSl x v l := h.keep fun b hlt => hb.block b hlt
/-- a stretch of them -/
theorem BSl.seg {w : World} {g off n cap : Nat} {l : List Nat} (h : BSl w (.slice (some ⟨g, off, none⟩) n cap) l) (i k : Nat) (hik : i + k ≤ n) (hk : 1 ≤ k) : BSl w (.slice (some ⟨g, off + i, none⟩) k (cap - i)) ((l.drop i).take k) := by
  obtain ⟨a, cap', e, h1, h2, h3, h4, h5⟩ := h
  simp only [Value.slice.injEq] at e
  obtain ⟨rfl, rfl, rfl⟩ := e
  have hl : ((l.drop i).take k).length = k := by simp; omega
  refine ⟨_, cap - i, by rw [hl], by rw [hl]; omega, by omega, by simp, fun b hb => h4 b (List.mem_of_mem_drop (List.mem_of_mem_take hb)), fun _ => ⟨g, off + i, rfl, fun j hj => ?_⟩⟩
  rw [hl] at hj
  obtain ⟨b, o, e, hc⟩ := h5 (by omega)
  simp only [Option.some.injEq, Addr.mk.injEq] at e
  obtain ⟨rfl, rfl, -⟩ := e
  have := hc (i + j) (by omega)
  rw [← Nat.add_assoc] at this
  rw [this]
  congr 3
  simp [List.getD, hj, List.getElem?_take, List.getElem?_drop]
theorem BSl.form {w : World} {v : Value} {l : List Nat} (h : BSl w v l) (hl : 1 ≤ l.length) : ∃ g off cap, v = .slice (some ⟨g, off, none⟩) l.length cap ∧ l.length ≤ cap ∧ cap ≤ maxLen ∧ (∀ b ∈ l, b < 256) ∧ ∀ i, i < l.length → w.cell? ⟨g, off + i, none⟩ = some (.int .u8 (l.getD i 0 : Nat)) := by
  obtain ⟨a, cap, rfl, h1, h2, h3, h4, h5⟩ := h
  obtain ⟨b, off, rfl, hc⟩ := h5 (by omega)
  exact ⟨b, off, cap, rfl, h1, h2, h4, hc⟩
theorem shl_or {v x : Nat} (hv : v < 16777216) (hx : x < 256) : bits BinOp.or IntKind.u32 ((v : Int) * 256) (x : Int) = ((v * 256 + x : Nat) : Int) := by
  have h := u32_or_nat (v * 256) x (by omega) (by omega)
  have e : v * 256 ||| x = v * 256 + x := by
    rw [show v * 256 = 2 ^ 8 * v by omega, ← Nat.two_pow_add_eq_or_of_lt (show x < 2 ^ 8 by omega)]
  rw [e] at h
  have e2 : (((v * 256 : Nat)) : Int) = (v : Int) * 256 := by omega
  rw [e2] at h
  exact h
theorem bval_snoc (l : List Nat) (b : Nat) : bval (l ++ [b]) = bval l * 256 + b := by simp [bval]
theorem bval_pre {l : List Nat} {k : Nat} (hb : ∀ b ∈ l, b < 256) (hk : k < l.length) (hl : l.length ≤ 4) : bval (l.take k) < 16777216 := by
  have h := bval_lt (l.take k) (fun b h => hb b (List.mem_of_mem_take h)) 0
  have hk3 : (l.take k).length ≤ 3 := by simp; omega
  have h2 : 256 ^ (l.take k).length ≤ 256 ^ 3 := Nat.pow_le_pow_right (by decide) hk3
  unfold bval
  omega
theorem bval_u32 {l : List Nat} (hb : ∀ b ∈ l, b < 256) (hl : l.length ≤ 4) : bval l < 4294967296 := by
  have h := bval_lt l hb 0
  have h2 : 256 ^ l.length ≤ 256 ^ 4 := Nat.pow_le_pow_right (by decide) hl
  unfold bval
  omega
set_option maxHeartbeats 1000000 in
theorem takeB_any (v : Value) (l : List Nat) (w : World) (hv : BSl w v l) (hl : l.length ≤ 4) :
    Calls Try.prog 88 #[v] w fun e w' => e = .returned (.int .u32 (bval l : Nat)) ∧ w' = w := by
  obtain ⟨a, cap, rfl, hl1, hm, hn, hb, hcell⟩ := hv
  unfold maxLen at hm
  have HB := hide hb
  have HC := hide hcell
  clear hb hcell hn
  go_enter Try.func88, Try.ntmps88
  go_wp2_with fail
  go_loop [3, 8] (fun t i => ∃ k : Nat, k ≤ l.length ∧ i = .int .i64 k ∧ t = .int .u32 (bval (l.take k) : Nat)) (fun _ i => l.length - (intOf i).toNat)
  case atStart => exact ⟨0, Nat.zero_le _, rfl, rfl⟩
  case round =>
    obtain ⟨k, hk, rfl, rfl⟩ := hrel
    by_cases hlt : k < l.length
    · have hy : bval (l.take k) < 16777216 := bval_pre HB.out hlt hl
      have HS : Hid (bval (l.take (k + 1)) = bval (l.take k) * 256 + l.getD k 0) := by rw [take_snoc l 0 k hlt, bval_snoc]; exact hide rfl
      have hx : l.getD k 0 < 256 := HB.out _ (mem_getD hlt)
      obtain ⟨b, off, rfl, hcell⟩ := HC.out (by omega)
      have hck := hcell k hlt
      clear hcell HC
      generalize bval (l.take k) = y at *
      generalize l.getD k 0 = x at *
      have hso := shl_or hy hx
      go_wp2
      go_round
      case rel => exact ⟨k + 1, by omega, by go_num, by rw [HS.out]; first | rfl | (congr 1; omega)⟩
      case measure => simp [intOf]; omega
    · have HE : Hid (bval (l.take k) = bval l) := by rw [List.take_of_length_le (by omega)]; exact hide rfl
      generalize bval (l.take k) = y at *
      go_wp2
      go_ret
      exact ⟨by rw [← HE.out]; rfl, rfl⟩
theorem sg_wrap (n : Nat) (h : n < 4294967296) : IntKind.i32.wrap (n : Int) = sgI n := by
  unfold sgI
  simp [IntKind.wrap, IntKind.bits, IntKind.signed]
  split <;> omega
theorem sgI_rng (n : Nat) (h : n < 4294967296) : -2147483648 ≤ sgI n ∧ sgI n < 2147483648 := by unfold sgI; split <;> omega
set_option maxHeartbeats 1000000 in
theorem signed_any (v : Value) (l : List Nat) (w : World) (hv : BSl w v l) (hl : l.length ≤ 4) :
    Calls Try.prog 89 #[v] w fun e w' => e = .returned (.int .i64 (sgI (bval l))) ∧ w' = w := by
  have HT := hide (takeB_any v l w hv hl)
  have hb : bval l < 4294967296 := by
    obtain ⟨a, cap, rfl, hl1, hm, hn, hb, hcell⟩ := hv
    exact bval_u32 hb hl
  have hw := sg_wrap (bval l) hb
  have hr := sgI_rng (bval l) hb
  have hw2 : IntKind.i64.wrap (sgI (bval l)) = sgI (bval l) := by simp [IntKind.wrap, IntKind.bits, IntKind.signed]; omega
  clear hv
  generalize bval l = y at *
  generalize sgI y = z at *
  go_enter Try.func89, Try.ntmps89
  go_wp2_with (go_at_call 88; refine HT.out.mono ?_; rintro e w' ⟨rfl, rfl⟩)
  go_ret
  exact ⟨rfl, rfl⟩
/-- 'string(b)' -/
theorem convS {W : World} {v : Value} {l : List Nat} (h : BSl W v l) (hl : 1 ≤ l.length) :
    (convert 23 9 v).run Try.prog W = .ok (.string ⟨(l.map UInt8.ofNat).toArray⟩) W := by
  obtain ⟨g, off, cap, rfl, h1, h2, h3, h4⟩ := h.form hl
  have := run_convert_bytes_back (P := Try.prog) W 23 9 5 ⟨g, off, none⟩ cap (l.map UInt8.ofNat) Try.underlying23 Try.underlying5 Try.underlying9 (fun j hj => by
    have hj' : j < l.length := by simpa using hj
    rw [Addr.add_lit, h4 j hj']
    have hlt := h3 _ (List.getElem_mem hj')
    simp [List.getD, hj', Nat.mod_eq_of_lt hlt])
  rw [List.length_map] at this
  exact this
theorem map_u8_inj {a b : List Nat} (ha : ∀ x ∈ a, x < 256) (hb : ∀ x ∈ b, x < 256) (h : a.map UInt8.ofNat = b.map UInt8.ofNat) : a = b := by
  have e : ∀ l : List Nat, (∀ x ∈ l, x < 256) → (l.map UInt8.ofNat).map UInt8.toNat = l := fun l hl => by
    rw [List.map_map]
    refine (List.map_congr_left fun x hx => ?_).trans (List.map_id l)
    simp [Nat.mod_eq_of_lt (hl x hx)]
  rw [← e a ha, ← e b hb, h]
theorem toList_loop (bs : ByteArray) : ∀ n i r, bs.size - i = n → ByteArray.toList.loop bs i r = r.reverse ++ bs.data.toList.drop i := by
  intro n
  induction n with
  | zero =>
    intro i r h
    have h' : bs.data.size ≤ i := by have : bs.size = bs.data.size := rfl; omega
    rw [ByteArray.toList.loop, if_neg (by omega), List.drop_eq_nil_of_le (by simpa using h'), List.append_nil]
  | succ n ih =>
    intro i r h
    have hs : bs.size = bs.data.size := rfl
    have hi : i < bs.data.size := by omega
    rw [ByteArray.toList.loop, if_pos (by omega), ih (i + 1) _ (by omega)]
    have : bs.data.toList.drop i = bs.data.toList[i]'(by simpa using hi) :: bs.data.toList.drop (i + 1) := List.drop_eq_getElem_cons (by simpa using hi)
    rw [this]
    have hg : bs.get! i = bs.data[i] := by
      cases bs
      simp only [ByteArray.get!]
      exact getElem!_pos _ _ _
    simp [hg]
theorem toList_data (bs : ByteArray) : bs.toList = bs.data.toList := by
  have := toList_loop bs _ 0 [] rfl
  simpa [ByteArray.toList] using this
set_option maxHeartbeats 1000000 in
theorem equal_any (va vb : Value) (a b : List Nat) (w : World) (ha : BSl w va a) (hb : BSl w vb b) (hla : 1 ≤ a.length) (hlb : 1 ≤ b.length) :
    Calls Try.prog 90 #[va, vb] w fun e w' => e = .returned (.bool (decide (a = b))) ∧ w' = w := by
  have c1 := convS ha hla
  have c2 := convS hb hlb
  have h3 : ∀ x ∈ a, x < 256 := by obtain ⟨g, off, cap, rfl, h1, h2, h3, h4⟩ := ha.form hla; exact h3
  have h4 : ∀ x ∈ b, x < 256 := by obtain ⟨g, off, cap, rfl, h1, h2, h3, h4⟩ := hb.form hlb; exact h3
  have HD : Hid ((({ data := (a.map UInt8.ofNat).toArray } : ByteArray).toList == ({ data := (b.map UInt8.ofNat).toArray } : ByteArray).toList) = decide (a = b)) := hide (by
    rw [toList_data, toList_data]
    show (a.map UInt8.ofNat == b.map UInt8.ofNat) = decide (a = b)
    by_cases e : a = b
    · subst e; simp
    · rw [decide_eq_false e]
      exact beq_false_of_ne fun e2 => e (map_u8_inj h3 h4 e2))
  clear ha hb h3 h4
  generalize ({ data := (a.map UInt8.ofNat).toArray } : ByteArray) = sa at *
  generalize ({ data := (b.map UInt8.ofNat).toArray } : ByteArray) = sb at *
  go_enter Try.func90, Try.ntmps90
  go_wp2_with fail
  go_ret
  exact ⟨by rw [← HD.out]; rfl, rfl⟩
set_option maxHeartbeats 1000000 in
theorem isBlank_any (v : Value) (l : List Nat) (w : World) (hv : BSl w v l) :
    Calls Try.prog 64 #[v] w fun e w' => e = .returned (.bool (decide (∀ b ∈ l, b = 0))) ∧ w' = w := by
  obtain ⟨a, cap, rfl, hl1, hm, hn, hb, hcell⟩ := hv
  unfold maxLen at hm
  have HB := hide hb
  have HC := hide hcell
  clear hb hcell hn
  go_enter Try.func64, Try.ntmps64
  go_wp2_with fail
  go_loop [7] (fun i => ∃ k : Nat, k ≤ l.length ∧ i = .int .i64 k ∧ ∀ b ∈ l.take k, b = 0) (fun i => l.length - (intOf i).toNat)
  case atStart => exact ⟨0, Nat.zero_le _, rfl, fun b hb => by simp at hb⟩
  case round =>
    obtain ⟨k, hk, rfl, hz⟩ := hrel
    have HZ := hide hz
    clear hz
    by_cases hlt : k < l.length
    · have HS : Hid (l.getD k 0 = 0 → ∀ b ∈ l.take (k + 1), b = 0) := hide (fun e b hb => by
        rw [take_snoc l 0 k hlt] at hb
        rcases List.mem_append.1 hb with h | h
        · exact HZ.out b h
        · rw [List.mem_singleton.1 h, e])
      have HM : Hid (l.getD k 0 ∈ l) := hide (mem_getD hlt)
      obtain ⟨b, off, rfl, hcell⟩ := HC.out (by omega)
      have hck := hcell k hlt
      clear hcell HC
      generalize l.getD k 0 = x at *
      by_cases hx : x = 0
      · subst hx
        go_wp2
        go_round
        case rel => exact ⟨k + 1, by omega, by go_num, HS.out rfl⟩
        case measure => simp [intOf]; omega
      · have hx2 : ¬ (x : Int) = 0 := by omega
        go_wp2
        go_ret
        refine ⟨?_, rfl⟩
        rw [decide_eq_false (fun h => hx (h x HM.out))]; rfl
    · have HE : Hid (∀ b ∈ l, b = 0) := by have := HZ.out; rw [List.take_of_length_le (by omega)] at this; exact hide this
      go_wp2
      go_ret
      exact ⟨by rw [decide_eq_true HE.out]; rfl, rfl⟩
end Go.Proofs.Ytlkccencilhacaa
namespace Go.Proofs.Ytlkccencilhacaa
open Go.RowKit
set_option linter.unusedVariables false

variable {P : Program} {ops : Array Oper} {Q : Exit → Act → World → Prop} {md : Region.Mode}
/-- how many operations have not come up -/
def unl (listed : Array Bool) : Nat := (listed.toList.filter (! ·)).length
theorem filter_set_len : ∀ (l : List Bool) (i : Nat), l[i]? = some false → ((l.set i true).filter (! ·)).length + 1 = (l.filter (! ·)).length
  | [], i, h => by simp at h
  | b :: l, 0, h => by simp at h; simp [h]
  | b :: l, i + 1, h => by
    have ih := filter_set_len l i (by simpa using h)
    cases b <;> simp at ih ⊢ <;> omega
theorem unl_set {listed : Array Bool} {i : Nat} (h : listed[i]? = some false) : unl (listed.setIfInBounds i true) + 1 = unl listed := by
  unfold unl
  rw [Array.toList_setIfInBounds]
  exact filter_set_len _ _ (by simpa using h)
theorem unl_none {listed : Array Bool} {i : Nat} (h : listed[i]? = some false) : 0 < unl listed := by
  have := unl_set h
  omega
/-- a region in whatever order, by what stands when these have come up -/
theorem wpAny_inv (Inv : Array Bool → Act → World → Prop)
    (step : ∀ listed a w i, listed.size = ops.size → Inv listed a w → i ∈ Region.ready md ops listed → wpOp P ops Q i (fun a' w' => Inv (listed.setIfInBounds i true) a' w') a w)
    (done : ∀ listed a w, listed.size = ops.size → Inv listed a w → Region.ready md ops listed = [] → Q .normal a w) :
    ∀ (fuel : Nat) (listed : Array Bool) (a : Act) (w : World), listed.size = ops.size → unl listed ≤ fuel → Inv listed a w → wpAny P md ops Q fuel listed a w := by
  have hready : ∀ (listed : Array Bool) i, listed.size = ops.size → i ∈ Region.ready md ops listed → listed[i]? = some false := by
    intro listed i hs hi
    obtain ⟨h, o, ho, -⟩ := mem_ready.1 hi
    have hlt : i < listed.size := by rw [hs]; exact (Array.getElem?_eq_some_iff.1 ho).1
    simp only [Array.getD, hlt, dite_true] at h
    rw [Array.getElem?_eq_getElem hlt]
    simpa using h
  intro fuel
  induction fuel with
  | zero =>
    intro listed a w hs hu hI
    have : Region.ready md ops listed = [] := List.eq_nil_iff_forall_not_mem.2 fun i hi => by
      have := unl_none (hready listed i hs hi)
      omega
    exact ⟨this, done listed a w hs hI this⟩
  | succ fuel ih =>
    intro listed a w hs hu hI
    refine ⟨fun h => done listed a w hs hI h, fun i hi => ?_⟩
    have h1 := unl_set (hready listed i hs hi)
    exact wpOp_mono (fun a' w' h => ih _ a' w' (by simpa using hs) (by omega) h) (step listed a w i hs hI hi)
theorem unl_rep : ∀ n : Nat, unl (Array.replicate n false) = n := by
  intro n
  simp [unl]
theorem wp_region_inv {id : Nat} {a : Act} {w : World} (hm : P.follows .mixedOrders = true) (Inv : Array Bool → Act → World → Prop)
    (start : Inv (Array.replicate ops.size false) a { w with drawn := w.drawn + 1 })
    (step : ∀ listed a w i, listed.size = ops.size → Inv listed a w → i ∈ Region.ready .any ops listed → wpOp P ops Q i (fun a' w' => Inv (listed.setIfInBounds i true) a' w') a w)
    (done : ∀ listed a w, listed.size = ops.size → Inv listed a w → Region.ready .any ops listed = [] → Q .normal a w) : (Code.region id ops true).wp P Q a w :=
  wp_region_any hm (wpAny_inv Inv step done _ _ _ _ (by simp) (by rw [unl_rep]; exact Nat.le_refl _) start)
/-- where an operation lays its value -/
def dsti (o : Oper) : Nat := o.dst.getD 0
/-- a frame that differs from a0 in the temporaries of the region's first n operations alone -/
structure LowT (n : Nat) (ops : Array Oper) (a0 a : Act) : Prop where
  defers : a.defers = a0.defers
  size : a.tmps.size = a0.tmps.size
  same : ∀ t : Nat, (∀ (i : Nat) (o : Oper), i < n → ops[i]? = some o → dsti o ≠ t) → a.tmps[t]? = a0.tmps[t]?
/-- what operation k waits for -/
def depsOf (ops : Array Oper) (k : Nat) : List Nat := match ops[k]? with
  | some o => (o.after.toList.filter (Region.binds .any)).map (·.on)
  | none => []
/-- all that must have come up ahead, gone through from k - 1 down -/
def reach (ops : Array Oper) : Nat → List Nat → List Nat
  | 0, s => s
  | k + 1, s => reach ops k (if s.contains k then s ++ depsOf ops k else s)
def early (ops : Array Oper) : Bool := (List.range ops.size).all fun i => (depsOf ops i).all fun j => decide (j < i)
def plainT (n N : Nat) (ops : Array Oper) : Bool :=
  (List.range n).all (fun i => match ops[i]? with | some o => o.guard.isNone && o.dst.isSome && decide (dsti o < N) | none => false) &&
  decide (((ops.toList.take n).map dsti).Nodup) && early ops &&
  (List.range ops.size).all (fun k => decide (k < n) || (List.range k).all fun i => (reach ops k (depsOf ops k)).contains i)
theorem reach_listed {listed : Array Bool} (hcl : ∀ i, listed.getD i false = true → ∀ j ∈ depsOf ops i, listed.getD j false = true) : ∀ (k : Nat) (s : List Nat), (∀ j ∈ s, listed.getD j false = true) → ∀ j ∈ reach ops k s, listed.getD j false = true
  | 0, s, h => h
  | k + 1, s, h => by
    unfold reach
    refine reach_listed hcl k _ fun j hj => ?_
    split at hj
    next hc =>
      rcases List.mem_append.1 hj with hj | hj
      · exact h j hj
      · exact hcl k (h k (by simpa using hc)) j hj
    next => exact h j hj
theorem mem_deps {k j : Nat} : j ∈ depsOf ops k ↔ ∃ o e, ops[k]? = some o ∧ e ∈ o.after ∧ Region.binds .any e = true ∧ e.on = j := by
  unfold depsOf
  cases h : ops[k]? with
  | none => simp
  | some o =>
    simp only [List.mem_map, List.mem_filter, Array.mem_toList_iff, Option.some.injEq]
    constructor
    · rintro ⟨e, ⟨h1, h2⟩, h3⟩; exact ⟨o, e, rfl, h1, h2, h3⟩
    · rintro ⟨o', e, rfl, h1, h2, h3⟩; exact ⟨e, ⟨h1, h2⟩, h3⟩
theorem getD_set_same {listed : Array Bool} {i : Nat} (hi : i < listed.size) : (listed.setIfInBounds i true).getD i false = true := by
  simp [Array.getD, hi]
theorem getD_set_ne' {listed : Array Bool} {i j : Nat} (h : i ≠ j) : (listed.setIfInBounds i true).getD j false = listed.getD j false := by
  simp [Array.getD_eq_getD_getElem?, Array.getElem?_setIfInBounds_ne h]
def plainG (n N : Nat) (ops : Array Oper) : Bool :=
  (List.range n).all (fun i => match ops[i]? with | some o => o.dst.isSome && decide (dsti o < N) | none => false) &&
  decide (((ops.toList.take n).map dsti).Nodup) && early ops &&
  (List.range ops.size).all (fun k => decide (k < n) || (List.range k).all fun i => (reach ops k (depsOf ops k)).contains i)
/-- a region in whatever order whose last operations come in theirs: the first n by what each one's value is, the rest as they stand -/
theorem wp_region_specG {id : Nat} {a0 : Act} {w0 : World} (hm : P.follows .mixedOrders = true) (n : Nat) (hn : n ≤ ops.size) (hp : plainG n a0.tmps.size ops = true)
    (G : World → World → Prop) (hG0 : G w0 { w0 with drawn := w0.drawn + 1 }) (hGt : ∀ x y z, G x y → G y z → G x z)
    (Sp : Nat → Value → World → Prop) (hSp : ∀ i v w w', Sp i v w → G w w' → Sp i v w')
    (step : ∀ (i : Nat) (o : Oper) (a : Act) (w : World), i < n → ops[i]? = some o → LowT n ops a0 a → G w0 w → (∀ j ∈ depsOf ops i, ∀ o', ops[j]? = some o' → Sp j (a.eval (.tmp (dsti o'))) w) →
      o.wp P a w (fun a' w' => ∃ v, a' = a.put o.dst v ∧ Sp i v w' ∧ G w w') Q)
    (gd : ∀ (i : Nat) (o : Oper) (j : Nat) (b : Bool), i < n → ops[i]? = some o → o.guard = some (j, b) → j ∈ depsOf ops i ∧ ∀ v w, Sp j v w → v = .bool b)
    (tail : ∀ (a : Act) (w : World), LowT n ops a0 a → G w0 w → (∀ (i : Nat) (o : Oper), i < n → ops[i]? = some o → Sp i (a.eval (.tmp (dsti o))) w) → wpList P ops Q (ops.toList.drop n) a w) :
    (Code.region id ops true).wp P Q a0 w0 := by
  unfold plainG at hp
  simp only [Bool.and_eq_true, decide_eq_true_eq] at hp
  obtain ⟨⟨⟨hp1, hp2⟩, hp3⟩, hp4⟩ := hp
  have hev : ∀ (a : Act) t, a.eval (.tmp t) = a.tmps.getD t undef := fun a t => by first | rfl | simp [Act.eval]
  have hdst : ∀ (i : Nat) (o : Oper), i < n → ops[i]? = some o → o.dst = some (dsti o) ∧ dsti o < a0.tmps.size := by
    intro i o hi ho
    have := List.all_eq_true.1 hp1 i (List.mem_range.2 hi)
    rw [ho] at this
    simp only [Bool.and_eq_true, decide_eq_true_eq] at this
    obtain ⟨h2, h3⟩ := this
    refine ⟨?_, h3⟩
    obtain ⟨d, hd⟩ := Option.isSome_iff_exists.1 h2
    rw [hd]
    simp [dsti, hd]
  have hnod : ∀ (i j : Nat) (o o' : Oper), i < n → j < n → ops[i]? = some o → ops[j]? = some o' → dsti o = dsti o' → i = j := by
    intro i j o o' hi hj ho ho' he
    obtain ⟨hi', e1⟩ := Array.getElem?_eq_some_iff.1 ho
    obtain ⟨hj', e2⟩ := Array.getElem?_eq_some_iff.1 ho'
    have hpw := List.pairwise_iff_getElem.1 hp2
    have l1 : i < ((ops.toList.take n).map dsti).length := by simp; omega
    have l2 : j < ((ops.toList.take n).map dsti).length := by simp; omega
    have g1 : ((ops.toList.take n).map dsti)[i] = dsti o := by simp [e1]
    have g2 : ((ops.toList.take n).map dsti)[j] = dsti o' := by simp [e2]
    rcases Nat.lt_trichotomy i j with h | h | h
    · exact (hpw i j l1 l2 h (by rw [g1, g2, he])).elim
    · exact h
    · exact (hpw j i l2 l1 h (by rw [g1, g2, he])).elim
  have hearly : ∀ i, i < ops.size → ∀ j ∈ depsOf ops i, j < i := by
    intro i hi j hj
    have := List.all_eq_true.1 hp3 i (List.mem_range.2 hi)
    simpa using List.all_eq_true.1 this j hj
  have htl : ∀ k, n ≤ k → k < ops.size → ∀ i, i < k → i ∈ reach ops k (depsOf ops k) := by
    intro k hk hs i hi
    have := List.all_eq_true.1 hp4 k (List.mem_range.2 hs)
    simp only [Bool.or_eq_true, decide_eq_true_eq] at this
    rcases this with h | h
    · omega
    · simpa using List.all_eq_true.1 h i (List.mem_range.2 hi)
  let Cl : Array Bool → Prop := fun listed => ∀ i, listed.getD i false = true → ∀ j ∈ depsOf ops i, listed.getD j false = true
  let S1 : Array Bool → Act → World → Prop := fun listed a w => (∀ k, n ≤ k → listed.getD k false = false) ∧ LowT n ops a0 a ∧ G w0 w ∧ ∀ i o, i < n → ops[i]? = some o → listed.getD i false = true → Sp i (a.eval (.tmp (dsti o))) w
  let S2 : Array Bool → Act → World → Prop := fun listed a w => ∃ k, n ≤ k ∧ k ≤ ops.size ∧ (∀ i, i < k → listed.getD i false = true) ∧ (∀ j, k ≤ j → listed.getD j false = false) ∧ wpList P ops Q (ops.toList.drop k) a w
  have hready : ∀ (listed : Array Bool) i, listed.size = ops.size → (i ∈ Region.ready .any ops listed ↔ i < ops.size ∧ listed.getD i false = false ∧ ∀ j ∈ depsOf ops i, listed.getD j false = true) := by
    intro listed i hs
    constructor
    · intro hi
      obtain ⟨h, o, ho, hd⟩ := mem_ready.1 hi
      have hlt : i < ops.size := (Array.getElem?_eq_some_iff.1 ho).1
      refine ⟨hlt, ?_, fun j hj => ?_⟩
      · have hl : i < listed.size := by omega
        simp only [Array.getD, hl, dite_true] at h ⊢
        exact h
      · obtain ⟨o', e, ho', h1, h2, h3⟩ := mem_deps.1 hj
        rw [ho] at ho'
        cases ho'
        rw [← h3]
        exact hd e h1 h2
    · rintro ⟨hlt, h, hd⟩
      refine mem_ready.2 ⟨?_, ops[i], Array.getElem?_eq_getElem hlt, fun e he hb => hd _ (mem_deps.2 ⟨_, e, Array.getElem?_eq_getElem hlt, he, hb, rfl⟩)⟩
      have hl : i < listed.size := by omega
      simp only [Array.getD, hl, dite_true] at h ⊢
      exact h
  have to2 : ∀ listed a w, S1 listed a w → (∀ i, i < n → listed.getD i false = true) → S2 listed a w := fun listed a w ⟨h1, h2, h3, h4⟩ hall =>
    ⟨n, Nat.le_refl _, hn, hall, h1, tail a w h2 h3 fun i o hi ho => h4 i o hi ho (hall i hi)⟩
  have hcl' : ∀ (listed : Array Bool) i, listed.size = ops.size → Cl listed → (∀ j ∈ depsOf ops i, listed.getD j false = true) → i < ops.size → Cl (listed.setIfInBounds i true) := by
    intro listed i hs hc hd hi k hk j hj
    by_cases ek : i = k
    · subst ek
      by_cases ej : i = j
      · subst ej; exact getD_set_same (by omega)
      · rw [getD_set_ne' ej]; exact hd j hj
    · rw [getD_set_ne' ek] at hk
      by_cases ej : i = j
      · subst ej; exact getD_set_same (by omega)
      · rw [getD_set_ne' ej]; exact hc k hk j hj
  have step2 : ∀ listed a w i, listed.size = ops.size → Cl listed → S2 listed a w → i ∈ Region.ready .any ops listed → wpOp P ops Q i (fun a' w' => S2 (listed.setIfInBounds i true) a' w') a w := by
    rintro listed a w i hs hc ⟨k, hk1, hk2, hk3, hk4, hk5⟩ hi
    obtain ⟨hi1, hi2, hi3⟩ := (hready listed i hs).1 hi
    have hik : k ≤ i := by
      rcases Nat.lt_or_ge i k with h | h
      · rw [hk3 i h] at hi2; cases hi2
      · exact h
    have hik2 : i = k := by
      rcases Nat.lt_or_ge k i with h | h
      · have h1 := reach_listed hc i _ hi3 k (htl i (by omega) hi1 k h)
        rw [hk4 k (Nat.le_refl _)] at h1; cases h1
      · omega
    subst hik2
    have hcons : ops.toList.drop i = ops[i] :: ops.toList.drop (i + 1) := by
      rw [List.drop_eq_getElem_cons (by simpa using hi1)]; simp
    rw [hcons] at hk5
    unfold wpOp
    rw [Array.getElem?_eq_getElem hi1]
    have post : ∀ a' w', wpList P ops Q (ops.toList.drop (i + 1)) a' w' → S2 (listed.setIfInBounds i true) a' w' := fun a' w' h => ⟨i + 1, by omega, by omega, fun j hj => by
        by_cases e : i = j
        · subst e; exact getD_set_same (by omega)
        · rw [getD_set_ne' e]; exact hk3 j (by omega), fun j hj => by rw [getD_set_ne' (by omega)]; exact hk4 j (by omega), h⟩
    unfold wpList at hk5
    show if Region.wanted ops[i] (yielded ops a.tmps) = true then _ else _
    by_cases hw : Region.wanted ops[i] (yielded ops a.tmps) = true
    · rw [if_pos hw] at hk5 ⊢
      rcases hk5 with h | h
      · exact .inl (Oper.wp_mono post h)
      · exact .inr h
    · rw [if_neg hw] at hk5 ⊢
      exact post _ _ hk5
  refine wp_region_inv hm (fun listed a w => Cl listed ∧ (S1 listed a w ∨ S2 listed a w)) ?_ ?_ ?_
  · refine ⟨fun i hi => ?_, .inl ⟨fun k _ => by simp [Array.getD], ⟨rfl, rfl, fun _ _ => rfl⟩, hG0, fun i o _ ho hl => ?_⟩⟩
    · simp [Array.getD] at hi
    · simp [Array.getD] at hl
  · rintro listed a w i hs ⟨hc, hS⟩ hi
    obtain ⟨hi1, hi2, hi3⟩ := (hready listed i hs).1 hi
    have hC' := hcl' listed i hs hc hi3 hi1
    rcases hS with hS | hS
    · by_cases hin : i < n
      · obtain ⟨h1, hL, hG, hS'⟩ := hS
        have ho : ops[i]? = some ops[i] := Array.getElem?_eq_getElem hi1
        obtain ⟨g2, g3⟩ := hdst i _ hin ho
        have hwant : Region.wanted ops[i] (yielded ops a.tmps) = true := by
          unfold Region.wanted
          cases hgu : ops[i].guard with
          | none => rfl
          | some jb =>
            obtain ⟨j, b⟩ := jb
            obtain ⟨q1, q2⟩ := gd i _ j b hin ho hgu
            have hji := hearly i hi1 j q1
            have hoj : ops[j]? = some ops[j] := Array.getElem?_eq_getElem (by omega)
            have q3 := q2 _ _ (hS' j _ (by omega) hoj (hi3 j q1))
            obtain ⟨d1, d2⟩ := hdst j _ (by omega) hoj
            have hsz : dsti ops[j] < a.tmps.size := by rw [hL.size]; exact d2
            have q4 : a.tmps[dsti ops[j]]? = some (.bool b) := by
              rw [hev] at q3
              rw [Array.getD_eq_getD_getElem?, Array.getElem?_eq_getElem hsz] at q3
              rw [Array.getElem?_eq_getElem hsz]
              simpa using q3
            simp only [yielded, hoj, Option.bind_some, d1, q4]
            simp
        have h2 := step i _ a w hin ho hL hG fun j hj o' ho' => hS' j o' (by have := hearly i hi1 j hj; omega) ho' (hi3 j hj)
        unfold wpOp
        simp only [ho]
        rw [if_pos hwant]
        refine .inl (Oper.wp_mono ?_ h2)
        rintro a' w' ⟨v, rfl, hv, hg⟩
        refine ⟨hC', .inl ⟨fun k hk => by rw [getD_set_ne' (by omega)]; exact h1 k hk, ⟨?_, ?_, fun t ht => ?_⟩, hGt _ _ _ hG hg, fun j o' hj ho' hl => ?_⟩⟩
        · rw [g2]; exact hL.defers
        · rw [g2]; simpa [Act.put] using hL.size
        · rw [g2]
          simp only [Act.put]
          rw [Array.getElem?_setIfInBounds_ne (ht i _ hin ho)]
          exact hL.same t ht
        · rw [g2, hev]
          by_cases e : i = j
          · subst e
            rw [ho] at ho'
            cases ho'
            have : (a.put (some (dsti ops[i])) v).tmps.getD (dsti ops[i]) undef = v := by
              simp [Act.put, Array.getD, hL.size, g3]
            rw [this]
            exact hv
          · have hne : dsti ops[i] ≠ dsti o' := fun h => e (hnod i j _ o' hin hj ho ho' h)
            have h3 : (a.put (some (dsti ops[i])) v).tmps.getD (dsti o') undef = a.tmps.getD (dsti o') undef := by
              simp only [Act.put, Array.getD_eq_getD_getElem?]
              rw [Array.getElem?_setIfInBounds_ne hne]
            rw [h3, ← hev]
            rw [getD_set_ne' e] at hl
            exact hSp _ _ _ _ (hS' j o' hj ho' hl) hg
      · have hall : ∀ j, j < n → listed.getD j false = true := fun j hj => reach_listed hc i _ hi3 j (htl i (by omega) hi1 j (by omega))
        have := step2 listed a w i hs hc (to2 listed a w hS hall) hi
        exact wpOp_mono (fun a' w' h => ⟨hC', .inr h⟩) this
    · exact wpOp_mono (fun a' w' h => ⟨hC', .inr h⟩) (step2 listed a w i hs hc hS hi)
  · rintro listed a w hs ⟨hc, hS⟩ hr
    have hall : ∀ i : Nat, i < ops.size → listed.getD i false = true := by
      intro i
      induction i using Nat.strongRecOn with
      | _ i ih =>
        intro hi
        cases hl : listed.getD i false with
        | true => rfl
        | false =>
          have hmem : i ∈ Region.ready .any ops listed := (hready listed i hs).2 ⟨hi, hl, fun j hj => ih j (hearly i hi j hj) (by have := hearly i hi j hj; omega)⟩
          rw [hr] at hmem
          cases hmem
    have fin2 : S2 listed a w → Q .normal a w := by
      rintro ⟨k, hk1, hk2, hk3, hk4, hk5⟩
      have hk : k = ops.size := by
        rcases Nat.lt_or_ge k ops.size with h | h
        · have := hall k h
          rw [hk4 k (Nat.le_refl _)] at this; cases this
        · omega
      subst hk
      rw [List.drop_eq_nil_of_le (by simp)] at hk5
      exact hk5
    rcases hS with hS | hS
    · exact fin2 (to2 listed a w hS fun i hi => hall i (by omega))
    · exact fin2 hS
/-- a region in whatever order whose last operations come in theirs: the first n by what each one's value is, the rest as they stand -/
theorem wp_region_specU {id : Nat} {a0 : Act} {w0 : World} (hm : P.follows .mixedOrders = true) (n : Nat) (un : Nat → Bool) (hn : n ≤ ops.size) (hp : plainG n a0.tmps.size ops = true)
    (G : World → World → Prop) (hG0 : G w0 { w0 with drawn := w0.drawn + 1 }) (hGt : ∀ x y z, G x y → G y z → G x z) (hGr : ∀ x, G x x)
    (Sp : Nat → Value → World → Prop) (hSp : ∀ i v w w', Sp i v w → G w w' → Sp i v w')
    (step : ∀ (i : Nat) (o : Oper) (a : Act) (w : World), i < n → un i = false → ops[i]? = some o → LowT n ops a0 a → G w0 w → (∀ j ∈ depsOf ops i, ∀ o', ops[j]? = some o' → Sp j (a.eval (.tmp (dsti o'))) w) →
      o.wp P a w (fun a' w' => ∃ v, a' = a.put o.dst v ∧ Sp i v w' ∧ G w w') Q)
    (gd : ∀ (i : Nat) (o : Oper), i < n → ops[i]? = some o → (o.guard = none → un i = false) ∧ ∀ (j : Nat) (b : Bool), o.guard = some (j, b) → j ∈ depsOf ops i ∧ (un i = false → ∀ v w, Sp j v w → v = .bool b) ∧ (un i = true → (∀ v w, Sp j v w → v = .bool (!b)) ∧ ∀ w, Sp i undef w))
    (tail : ∀ (a : Act) (w : World), LowT n ops a0 a → G w0 w → (∀ (i : Nat) (o : Oper), i < n → ops[i]? = some o → Sp i (a.eval (.tmp (dsti o))) w) → wpList P ops Q (ops.toList.drop n) a w) :
    (Code.region id ops true).wp P Q a0 w0 := by
  unfold plainG at hp
  simp only [Bool.and_eq_true, decide_eq_true_eq] at hp
  obtain ⟨⟨⟨hp1, hp2⟩, hp3⟩, hp4⟩ := hp
  have hev : ∀ (a : Act) t, a.eval (.tmp t) = a.tmps.getD t undef := fun a t => by first | rfl | simp [Act.eval]
  have hdst : ∀ (i : Nat) (o : Oper), i < n → ops[i]? = some o → o.dst = some (dsti o) ∧ dsti o < a0.tmps.size := by
    intro i o hi ho
    have := List.all_eq_true.1 hp1 i (List.mem_range.2 hi)
    rw [ho] at this
    simp only [Bool.and_eq_true, decide_eq_true_eq] at this
    obtain ⟨h2, h3⟩ := this
    refine ⟨?_, h3⟩
    obtain ⟨d, hd⟩ := Option.isSome_iff_exists.1 h2
    rw [hd]
    simp [dsti, hd]
  have hnod : ∀ (i j : Nat) (o o' : Oper), i < n → j < n → ops[i]? = some o → ops[j]? = some o' → dsti o = dsti o' → i = j := by
    intro i j o o' hi hj ho ho' he
    obtain ⟨hi', e1⟩ := Array.getElem?_eq_some_iff.1 ho
    obtain ⟨hj', e2⟩ := Array.getElem?_eq_some_iff.1 ho'
    have hpw := List.pairwise_iff_getElem.1 hp2
    have l1 : i < ((ops.toList.take n).map dsti).length := by simp; omega
    have l2 : j < ((ops.toList.take n).map dsti).length := by simp; omega
    have g1 : ((ops.toList.take n).map dsti)[i] = dsti o := by simp [e1]
    have g2 : ((ops.toList.take n).map dsti)[j] = dsti o' := by simp [e2]
    rcases Nat.lt_trichotomy i j with h | h | h
    · exact (hpw i j l1 l2 h (by rw [g1, g2, he])).elim
    · exact h
    · exact (hpw j i l2 l1 h (by rw [g1, g2, he])).elim
  have hearly : ∀ i, i < ops.size → ∀ j ∈ depsOf ops i, j < i := by
    intro i hi j hj
    have := List.all_eq_true.1 hp3 i (List.mem_range.2 hi)
    simpa using List.all_eq_true.1 this j hj
  have htl : ∀ k, n ≤ k → k < ops.size → ∀ i, i < k → i ∈ reach ops k (depsOf ops k) := by
    intro k hk hs i hi
    have := List.all_eq_true.1 hp4 k (List.mem_range.2 hs)
    simp only [Bool.or_eq_true, decide_eq_true_eq] at this
    rcases this with h | h
    · omega
    · simpa using List.all_eq_true.1 h i (List.mem_range.2 hi)
  let Cl : Array Bool → Prop := fun listed => ∀ i, listed.getD i false = true → ∀ j ∈ depsOf ops i, listed.getD j false = true
  let S1 : Array Bool → Act → World → Prop := fun listed a w => (∀ k, n ≤ k → listed.getD k false = false) ∧ LowT n ops a0 a ∧ G w0 w ∧ ∀ i o, i < n → ops[i]? = some o → listed.getD i false = true → Sp i (a.eval (.tmp (dsti o))) w
  let S2 : Array Bool → Act → World → Prop := fun listed a w => ∃ k, n ≤ k ∧ k ≤ ops.size ∧ (∀ i, i < k → listed.getD i false = true) ∧ (∀ j, k ≤ j → listed.getD j false = false) ∧ wpList P ops Q (ops.toList.drop k) a w
  have hready : ∀ (listed : Array Bool) i, listed.size = ops.size → (i ∈ Region.ready .any ops listed ↔ i < ops.size ∧ listed.getD i false = false ∧ ∀ j ∈ depsOf ops i, listed.getD j false = true) := by
    intro listed i hs
    constructor
    · intro hi
      obtain ⟨h, o, ho, hd⟩ := mem_ready.1 hi
      have hlt : i < ops.size := (Array.getElem?_eq_some_iff.1 ho).1
      refine ⟨hlt, ?_, fun j hj => ?_⟩
      · have hl : i < listed.size := by omega
        simp only [Array.getD, hl, dite_true] at h ⊢
        exact h
      · obtain ⟨o', e, ho', h1, h2, h3⟩ := mem_deps.1 hj
        rw [ho] at ho'
        cases ho'
        rw [← h3]
        exact hd e h1 h2
    · rintro ⟨hlt, h, hd⟩
      refine mem_ready.2 ⟨?_, ops[i], Array.getElem?_eq_getElem hlt, fun e he hb => hd _ (mem_deps.2 ⟨_, e, Array.getElem?_eq_getElem hlt, he, hb, rfl⟩)⟩
      have hl : i < listed.size := by omega
      simp only [Array.getD, hl, dite_true] at h ⊢
      exact h
  have to2 : ∀ listed a w, S1 listed a w → (∀ i, i < n → listed.getD i false = true) → S2 listed a w := fun listed a w ⟨h1, h2, h3, h4⟩ hall =>
    ⟨n, Nat.le_refl _, hn, hall, h1, tail a w h2 h3 fun i o hi ho => h4 i o hi ho (hall i hi)⟩
  have hcl' : ∀ (listed : Array Bool) i, listed.size = ops.size → Cl listed → (∀ j ∈ depsOf ops i, listed.getD j false = true) → i < ops.size → Cl (listed.setIfInBounds i true) := by
    intro listed i hs hc hd hi k hk j hj
    by_cases ek : i = k
    · subst ek
      by_cases ej : i = j
      · subst ej; exact getD_set_same (by omega)
      · rw [getD_set_ne' ej]; exact hd j hj
    · rw [getD_set_ne' ek] at hk
      by_cases ej : i = j
      · subst ej; exact getD_set_same (by omega)
      · rw [getD_set_ne' ej]; exact hc k hk j hj
  have step2 : ∀ listed a w i, listed.size = ops.size → Cl listed → S2 listed a w → i ∈ Region.ready .any ops listed → wpOp P ops Q i (fun a' w' => S2 (listed.setIfInBounds i true) a' w') a w := by
    rintro listed a w i hs hc ⟨k, hk1, hk2, hk3, hk4, hk5⟩ hi
    obtain ⟨hi1, hi2, hi3⟩ := (hready listed i hs).1 hi
    have hik : k ≤ i := by
      rcases Nat.lt_or_ge i k with h | h
      · rw [hk3 i h] at hi2; cases hi2
      · exact h
    have hik2 : i = k := by
      rcases Nat.lt_or_ge k i with h | h
      · have h1 := reach_listed hc i _ hi3 k (htl i (by omega) hi1 k h)
        rw [hk4 k (Nat.le_refl _)] at h1; cases h1
      · omega
    subst hik2
    have hcons : ops.toList.drop i = ops[i] :: ops.toList.drop (i + 1) := by
      rw [List.drop_eq_getElem_cons (by simpa using hi1)]; simp
    rw [hcons] at hk5
    unfold wpOp
    rw [Array.getElem?_eq_getElem hi1]
    have post : ∀ a' w', wpList P ops Q (ops.toList.drop (i + 1)) a' w' → S2 (listed.setIfInBounds i true) a' w' := fun a' w' h => ⟨i + 1, by omega, by omega, fun j hj => by
        by_cases e : i = j
        · subst e; exact getD_set_same (by omega)
        · rw [getD_set_ne' e]; exact hk3 j (by omega), fun j hj => by rw [getD_set_ne' (by omega)]; exact hk4 j (by omega), h⟩
    unfold wpList at hk5
    show if Region.wanted ops[i] (yielded ops a.tmps) = true then _ else _
    by_cases hw : Region.wanted ops[i] (yielded ops a.tmps) = true
    · rw [if_pos hw] at hk5 ⊢
      rcases hk5 with h | h
      · exact .inl (Oper.wp_mono post h)
      · exact .inr h
    · rw [if_neg hw] at hk5 ⊢
      exact post _ _ hk5
  refine wp_region_inv hm (fun listed a w => Cl listed ∧ (S1 listed a w ∨ S2 listed a w)) ?_ ?_ ?_
  · refine ⟨fun i hi => ?_, .inl ⟨fun k _ => by simp [Array.getD], ⟨rfl, rfl, fun _ _ => rfl⟩, hG0, fun i o _ ho hl => ?_⟩⟩
    · simp [Array.getD] at hi
    · simp [Array.getD] at hl
  · rintro listed a w i hs ⟨hc, hS⟩ hi
    obtain ⟨hi1, hi2, hi3⟩ := (hready listed i hs).1 hi
    have hC' := hcl' listed i hs hc hi3 hi1
    rcases hS with hS | hS
    · by_cases hin : i < n
      · obtain ⟨h1, hL, hG, hS'⟩ := hS
        have ho : ops[i]? = some ops[i] := Array.getElem?_eq_getElem hi1
        obtain ⟨g2, g3⟩ := hdst i _ hin ho
        have hyl : ∀ j b, ops[i].guard = some (j, b) → ∀ c : Bool, (∀ v w, Sp j v w → v = .bool c) → yielded ops a.tmps j = some c := by
          intro j b hgu c hc
          obtain ⟨q1, -, -⟩ := (gd i _ hin ho).2 j b hgu
          have hji := hearly i hi1 j q1
          have hoj : ops[j]? = some ops[j] := Array.getElem?_eq_getElem (by omega)
          have q3 := hc _ _ (hS' j _ (by omega) hoj (hi3 j q1))
          obtain ⟨d1, d2⟩ := hdst j _ (by omega) hoj
          have hsz : dsti ops[j] < a.tmps.size := by rw [hL.size]; exact d2
          have q4 : a.tmps[dsti ops[j]]? = some (.bool c) := by
            rw [hev] at q3
            rw [Array.getD_eq_getD_getElem?, Array.getElem?_eq_getElem hsz] at q3
            rw [Array.getElem?_eq_getElem hsz]
            simpa using q3
          simp only [yielded, hoj, Option.bind_some, d1, q4]
        have post : ∀ v w', Sp i v w' → G w w' → Cl (listed.setIfInBounds i true) ∧ (S1 (listed.setIfInBounds i true) (a.put ops[i].dst v) w' ∨ S2 (listed.setIfInBounds i true) (a.put ops[i].dst v) w') := by
          intro v w' hv hg
          refine ⟨hC', .inl ⟨fun k hk => by rw [getD_set_ne' (by omega)]; exact h1 k hk, ⟨?_, ?_, fun t ht => ?_⟩, hGt _ _ _ hG hg, fun j o' hj ho' hl => ?_⟩⟩
          · rw [g2]; exact hL.defers
          · rw [g2]; simpa [Act.put] using hL.size
          · rw [g2]
            simp only [Act.put]
            rw [Array.getElem?_setIfInBounds_ne (ht i _ hin ho)]
            exact hL.same t ht
          · rw [g2, hev]
            by_cases e : i = j
            · subst e
              rw [ho] at ho'
              cases ho'
              have : (a.put (some (dsti ops[i])) v).tmps.getD (dsti ops[i]) undef = v := by
                simp [Act.put, Array.getD, hL.size, g3]
              rw [this]
              exact hv
            · have hne : dsti ops[i] ≠ dsti o' := fun h => e (hnod i j _ o' hin hj ho ho' h)
              have h3 : (a.put (some (dsti ops[i])) v).tmps.getD (dsti o') undef = a.tmps.getD (dsti o') undef := by
                simp only [Act.put, Array.getD_eq_getD_getElem?]
                rw [Array.getElem?_setIfInBounds_ne hne]
              rw [h3, ← hev]
              rw [getD_set_ne' e] at hl
              exact hSp _ _ _ _ (hS' j o' hj ho' hl) hg
        unfold wpOp
        simp only [ho]
        cases hun : un i with
        | false =>
          have hwant : Region.wanted ops[i] (yielded ops a.tmps) = true := by
            unfold Region.wanted
            cases hgu : ops[i].guard with
            | none => rfl
            | some jb =>
              obtain ⟨j, b⟩ := jb
              simp only
              rw [hyl j b hgu b (((gd i _ hin ho).2 j b hgu).2.1 hun)]
              simp
          have h2 := step i _ a w hin hun ho hL hG fun j hj o' ho' => hS' j o' (by have := hearly i hi1 j hj; omega) ho' (hi3 j hj)
          rw [if_pos hwant]
          refine .inl (Oper.wp_mono ?_ h2)
          rintro a' w' ⟨v, rfl, hv, hg⟩
          exact post v w' hv hg
        | true =>
          cases hgu : ops[i].guard with
          | none => have := (gd i _ hin ho).1 hgu; rw [hun] at this; cases this
          | some jb =>
            obtain ⟨j, b⟩ := jb
            obtain ⟨-, -, q⟩ := (gd i _ hin ho).2 j b hgu
            obtain ⟨q5, q6⟩ := q hun
            have hnw : ¬ Region.wanted ops[i] (yielded ops a.tmps) = true := by
              unfold Region.wanted
              rw [hgu]
              simp only
              rw [hyl j b hgu (!b) q5]
              cases b <;> simp
            rw [if_neg hnw]
            exact post undef w (q6 w) (hGr w)
      · have hall : ∀ j, j < n → listed.getD j false = true := fun j hj => reach_listed hc i _ hi3 j (htl i (by omega) hi1 j (by omega))
        have := step2 listed a w i hs hc (to2 listed a w hS hall) hi
        exact wpOp_mono (fun a' w' h => ⟨hC', .inr h⟩) this
    · exact wpOp_mono (fun a' w' h => ⟨hC', .inr h⟩) (step2 listed a w i hs hc hS hi)
  · rintro listed a w hs ⟨hc, hS⟩ hr
    have hall : ∀ i : Nat, i < ops.size → listed.getD i false = true := by
      intro i
      induction i using Nat.strongRecOn with
      | _ i ih =>
        intro hi
        cases hl : listed.getD i false with
        | true => rfl
        | false =>
          have hmem : i ∈ Region.ready .any ops listed := (hready listed i hs).2 ⟨hi, hl, fun j hj => ih j (hearly i hi j hj) (by have := hearly i hi j hj; omega)⟩
          rw [hr] at hmem
          cases hmem
    have fin2 : S2 listed a w → Q .normal a w := by
      rintro ⟨k, hk1, hk2, hk3, hk4, hk5⟩
      have hk : k = ops.size := by
        rcases Nat.lt_or_ge k ops.size with h | h
        · have := hall k h
          rw [hk4 k (Nat.le_refl _)] at this; cases this
        · omega
      subst hk
      rw [List.drop_eq_nil_of_le (by simp)] at hk5
      exact hk5
    rcases hS with hS | hS
    · exact fin2 (to2 listed a w hS fun i hi => hall i (by omega))
    · exact fin2 hS
theorem plainT_G {n N : Nat} {ops : Array Oper} (h : plainT n N ops = true) : plainG n N ops = true := by
  unfold plainT at h
  unfold plainG
  simp only [Bool.and_eq_true] at h ⊢
  refine ⟨⟨⟨?_, h.1.1.2⟩, h.1.2⟩, h.2⟩
  refine List.all_eq_true.2 fun i hi => ?_
  have := List.all_eq_true.1 h.1.1.1 i hi
  cases ho : ops[i]? with
  | none => rw [ho] at this; simp at this
  | some o => rw [ho] at this; simp only [Bool.and_eq_true] at this ⊢; exact ⟨this.1.2, this.2⟩
/-- a region in whatever order whose last operations come in theirs: the first n by what each one's value is, the rest as they stand -/
theorem wp_region_specT {id : Nat} {a0 : Act} {w0 : World} (hm : P.follows .mixedOrders = true) (n : Nat) (hn : n ≤ ops.size) (hp : plainT n a0.tmps.size ops = true)
    (G : World → World → Prop) (hG0 : G w0 { w0 with drawn := w0.drawn + 1 }) (hGt : ∀ x y z, G x y → G y z → G x z)
    (Sp : Nat → Value → World → Prop) (hSp : ∀ i v w w', Sp i v w → G w w' → Sp i v w')
    (step : ∀ (i : Nat) (o : Oper) (a : Act) (w : World), i < n → ops[i]? = some o → LowT n ops a0 a → G w0 w → (∀ j ∈ depsOf ops i, ∀ o', ops[j]? = some o' → Sp j (a.eval (.tmp (dsti o'))) w) →
      o.wp P a w (fun a' w' => ∃ v, a' = a.put o.dst v ∧ Sp i v w' ∧ G w w') Q)
    (tail : ∀ (a : Act) (w : World), LowT n ops a0 a → G w0 w → (∀ (i : Nat) (o : Oper), i < n → ops[i]? = some o → Sp i (a.eval (.tmp (dsti o))) w) → wpList P ops Q (ops.toList.drop n) a w) :
    (Code.region id ops true).wp P Q a0 w0 := by
  refine wp_region_specG hm n hn (plainT_G hp) G hG0 hGt Sp hSp step (fun i o j b hi ho hg => ?_) tail
  unfold plainT at hp
  simp only [Bool.and_eq_true] at hp
  have := List.all_eq_true.1 hp.1.1.1 i (List.mem_range.2 hi)
  rw [ho] at this
  simp only [Bool.and_eq_true, Option.isNone_iff_eq_none] at this
  rw [this.1.1] at hg
  cases hg
theorem ev_tmp (a : Act) (t : Nat) : a.eval (.tmp t) = a.tmps.getD t undef := by
  simp [Act.eval, Array.getD_eq_getD_getElem?]
/-- a temporary that the region does not lay -/
theorem LowT.ev {n : Nat} {ops : Array Oper} {a0 a : Act} (h : LowT n ops a0 a) (t : Nat) (hc : (ops.toList.take n).all (fun o => dsti o != t) = true) {v : Value} (hv : a0.eval (.tmp t) = v) : a.eval (.tmp t) = v := by
  rw [← hv, ev_tmp, ev_tmp, Array.getD_eq_getD_getElem?, Array.getD_eq_getD_getElem?, h.same t fun i o hi ho => ?_]
  have hm : o ∈ ops.toList.take n := by
    obtain ⟨hl, e⟩ := Array.getElem?_eq_some_iff.1 ho
    exact List.mem_take_iff_getElem.2 ⟨i, by simp; omega, by simpa using e⟩
  simpa using List.all_eq_true.1 hc o hm
theorem act_lit {a : Act} {n : Nat} (hs : a.tmps.size = n) (hd : a.defers = []) : a = ⟨((List.range n).map fun i => a.eval (.tmp i)).toArray, []⟩ := by
  cases a with
  | mk t d =>
    simp only at hd hs
    subst hd
    congr 1
    apply Array.ext_getElem?
    intro i
    by_cases hi : i < t.size
    · simp [ev_tmp, hi, hs ▸ hi, Array.getD]
    · rw [Array.getElem?_eq_none (by omega), Array.getElem?_eq_none (by simp; omega)]
/-- what an operation's value is: this very one; or a new box -/
inductive Dv where
  | ex (v : Value)
  | new (lo : Nat) (cs : Array Value) (t : TypeId)
  | of (p : Value → World → Prop) (hp : ∀ v w w', p v w → Below w.heap.size w w' → p v w')
def Dv.holds : Dv → Value → World → Prop
  | .ex v0, v, _ => v = v0
  | .new lo cs t, v, w => ∃ q, v = .pointer (some ⟨q, 0, none⟩) ∧ lo ≤ q ∧ w.heap[q]? = some (.cells cs t (0, 0))
  | .of p _, v, w => p v w
theorem Dv.stays {d : Dv} {v : Value} {w w' : World} (h : d.holds v w) (hb : Below w.heap.size w w') : d.holds v w' := by
  cases d with
  | ex v0 => exact h
  | new lo cs t =>
    obtain ⟨q, h1, h2, h3⟩ := h
    exact ⟨q, h1, h2, (hb.block _ (Array.getElem?_eq_some_iff.1 h3).1).trans h3⟩
  | of p hp => exact hp v w w' h hb
theorem opv {o : Oper} {a : Act} {w w' : World} {K : Act → World → Prop} {v : Value} (h : (execOp a.eval o).run P w = .ok (.value v) w') (hk : K (a.put o.dst v) w') : o.wp P a w K Q := by
  unfold Oper.wp
  rw [h]
  exact hk
theorem opc {o : Oper} {a : Act} {w : World} {K : Act → World → Prop} (f : FuncId) (args : Array Value) (hrun : (execOp a.eval o).run P w = .ok (.enter f args) w)
    {post : Ending → World → Prop} (hc : Calls P f args w post) (hp : ∀ e w', post e w' → ∃ v, e = .returned v ∧ K (a.put o.dst v) w') : o.wp P a w K Q := by
  unfold Oper.wp
  rw [hrun, Oper.upon_enter]
  refine hc.mono fun e w'' hh => ?_
  obtain ⟨v, rfl, hk⟩ := hp e w'' hh
  exact hk
end Go.Proofs.Ytlkccencilhacaa
namespace Go.Proofs.Ytlkccencilhacaa
open Go.RowKit Go.Sort
open Num
set_option linter.unusedVariables false
set_option linter.unusedSimpArgs false
set_option maxRecDepth 20000

theorem ctxWordO_any (w : World) (g off n cap i : Nat) (hi : i < 4) (hn : 44 ≤ n) (hc : n ≤ cap) (hc2 : cap ≤ maxLen) :
    Calls Try.prog 80 #[.slice (some ⟨g, off, none⟩) n cap, .int .i64 (i : Int)] w fun e w' => e = .returned (.slice (some ⟨g, off + (28 + i * 4), none⟩) 4 (cap - (28 + i * 4))) ∧ w' = w := by
  unfold maxLen at hc2
  go_enter Try.func80, Try.ntmps80
  go_wp2_with fail
  go_ret
  refine ⟨?_, rfl⟩
  have e : 28 + i * 4 + 4 - (28 + i * 4) = 4 := by omega
  show Ending.returned (.slice (some ⟨g, off + (28 + i * 4), none⟩) (28 + i * 4 + 4 - (28 + i * 4)) (cap - (28 + i * 4))) = _
  rw [e]
theorem r_mov (ev : Operand → Value) (w : World) (o : Oper) (x : Operand) (v : Value) (ho : o.op = .move x) (h : ev x = v) : (execOp ev o).run Try.prog w = .ok (.value v) w := by
  cases o
  cases ho
  simp [execOp, h, go_sem]
theorem r_slice (ev : Operand → Value) (w : World) (o : Oper) (t lo hi g off n cap : Nat) (ho : o.op = .slice 23 (.tmp t) (some (.const (.int .i64 (lo : Int)))) (some (.const (.int .i64 (hi : Int)))) none) (h1 : lo ≤ hi) (h2 : hi ≤ cap) (h3 : lo < cap) (h : ev (.tmp t) = .slice (some ⟨g, off, none⟩) n cap) (c1 : ev (.const (.int .i64 (lo : Int))) = .int .i64 (lo : Int)) (c2 : ev (.const (.int .i64 (hi : Int))) = .int .i64 (hi : Int)) : (execOp ev o).run Try.prog w = .ok (.value (.slice (some ⟨g, off + lo, none⟩) (hi - lo) (cap - lo))) w := by
  cases o
  cases ho
  have b1 : (lo : Int) ≤ (hi : Int) := by omega
  have b2 : (hi : Int) ≤ (cap : Int) := by omega
  have b3 : ¬ cap = lo := by omega
  simp [execOp, h, c1, c2, go_sem, b1, b2, b3, h1, h2]
theorem r_conv (ev : Operand → Value) (w : World) (o : Oper) (t : Nat) (x : Nat) (ho : o.op = .convert 26 3 (.tmp t)) (h : ev (.tmp t) = .int .u32 (x : Int)) (hx : x < 4294967296) : (execOp ev o).run Try.prog w = .ok (.value (.int .i64 (x : Int))) w := by
  cases o
  cases ho
  have hw : IntKind.i64.wrap (x : Int) = (x : Int) := by simp [IntKind.wrap, IntKind.bits, IntKind.signed]; omega
  simp [execOp, h, go_sem, hw]
theorem r_call1 (ev : Operand → Value) (w : World) (o : Oper) (f t : Nat) (v : Value) (ho : o.op = .call { callee := .value (.func f), args := #[.tmp t], argTypes := #[23] }) (h : ev (.tmp t) = v) (hf : f = 88 ∨ f = 89) (h2 : ev (.func f) = .func (.func f) #[] #[]) : (execOp ev o).run Try.prog w = .ok (.enter f #[v]) w := by
  cases o
  cases ho
  rcases hf with rfl | rfl <;> simp [execOp, h, h2, go_sem]
theorem r_change (ev : Operand → Value) (w : World) (o : Oper) (x y z : Int) (ho : o.op = .build 48 #[(0, .tmp 19), (1, .tmp 22), (2, .tmp 25)]) (h1 : ev (.tmp 19) = .int .i64 x) (h2 : ev (.tmp 22) = .int .i64 y) (h3 : ev (.tmp 25) = .int .i64 z) : (execOp ev o).run Try.prog w = .ok (.value (.agg #[.int .i64 x, .int .i64 y, .int .i64 z])) w := by
  cases o
  cases ho
  simp [execOp, h1, h2, h3, go_sem]
theorem r_record (ev : Operand → Value) (w : World) (o : Oper) (n a s x y z t : Int) (ho : o.op = .build 90 #[(0, .tmp 8), (1, .tmp 12), (2, .tmp 16), (3, .tmp 26), (4, .tmp 29)]) (h1 : ev (.tmp 8) = .int .u32 n) (h2 : ev (.tmp 12) = .int .i64 a) (h3 : ev (.tmp 16) = .int .i64 s) (h4 : ev (.tmp 26) = .agg #[.int .i64 x, .int .i64 y, .int .i64 z]) (h5 : ev (.tmp 29) = .int .i64 t) : (execOp ev o).run Try.prog w = .ok (.value (.agg #[.int .u32 n, .int .i64 a, .int .i64 s, .int .i64 x, .int .i64 y, .int .i64 z, .int .i64 t, .int .i64 0, .int .i64 0, .int .i64 0, .int .i64 0])) w := by
  cases o
  cases ho
  simp [execOp, h1, h2, h3, h4, h5, go_sem]
theorem r_alloc (ev : Operand → Value) (w : World) (o : Oper) (ho : o.op = .alloc 90) : (execOp ev o).run Try.prog w = .ok (.value (.pointer (some ⟨w.heap.size, 0, none⟩))) (w.alloc (.cells zrec 90)) := by
  cases o
  cases ho
  simp [execOp, go_sem]
theorem r_len (ev : Operand → Value) (w : World) (o : Oper) (t : Nat) (a : Option Addr) (n c : Nat) (ho : o.op = .call { callee := .builtin .len, args := #[.tmp t], argTypes := #[23] }) (h : ev (.tmp t) = .slice a n c) : (execOp ev o).run Try.prog w = .ok (.value (.int .i64 (n : Int))) w := by
  cases o
  cases ho
  simp [execOp, h, go_sem]
theorem r_call2 (ev : Operand → Value) (w : World) (o : Oper) (x y : Value) (ho : o.op = .call { callee := .value (.func 50), args := #[.tmp 44, .tmp 46], argTypes := #[90, 3] }) (h1 : ev (.tmp 44) = x) (h2 : ev (.tmp 46) = y) (h3 : ev (.func 50) = .func (.func 50) #[] #[]) : (execOp ev o).run Try.prog w = .ok (.enter 50 #[x, y]) w := by
  cases o
  cases ho
  simp [execOp, h1, h2, h3, go_sem]
theorem r_call3 (ev : Operand → Value) (w : World) (o : Oper) (x y : Value) (ho : o.op = .call { callee := .value (.func 90), args := #[.tmp 43, .tmp 47], argTypes := #[23, 23] }) (h1 : ev (.tmp 43) = x) (h2 : ev (.tmp 47) = y) (h3 : ev (.func 90) = .func (.func 90) #[] #[]) : (execOp ev o).run Try.prog w = .ok (.enter 90 #[x, y]) w := by
  cases o
  cases ho
  simp [execOp, h1, h2, h3, go_sem]
theorem bsl_row {w : World} {g n : Nat} {l : List Nat} (h : w.heap[g]? = some (.cells (byts l) 5 (0, 0))) (hl : l.length = n) (hn : n ≤ maxLen) (hb : ∀ b ∈ l, b < 256) : BSl w (.slice (some ⟨g, 0, none⟩) n n) l := by
  subst hl
  refine ⟨_, _, rfl, Nat.le_refl _, hn, fun e => (by cases e), hb, fun _ => ⟨g, 0, rfl, fun i hi => ?_⟩⟩
  rw [cell_of_row _ _ _ _ _ _ h]
  simp [byts, byV, hi, List.getD]
theorem results_row_tmp1 {P : Program} {fn : Func} {p u : Tmp} {ty : TypeId} (h : fn.results = #[.cell p ty, .tmp u]) (tmps : Array Value) (w : World) (g : Nat) (t : TypeId) (cs : Array Value) (fr : Nat × Nat) (d : TypeDesc)
    (hp : tmps.getD p undef = .pointer (some ⟨g, 0, none⟩)) (hg : w.heap[g]? = some (.cells cs t fr))
    (hu : P.underlying ty = some d) (hd : (match d with | .struct _ | .array _ _ => true | _ => false) = true) (hi : (P.info? ty).map (·.size) = some cs.size) :
    (results fn tmps).run P w = .ok (.tuple #[.agg cs, tmps.getD u undef]) w := by
  have hp' : tmps[p]?.getD undef = .pointer (some ⟨g, 0, none⟩) := by simpa using hp
  simp [results, h, hp', asAddr, run_loadVar_row w g t ty cs fr d hg hu hd hi]
/-- the record as it is read, i words of its context -/
def prI (l : List Nat) (i : Nat) : Rc := { prs l with C := (List.range 4).map fun j => if j < i then sgI (bvA l (28 + j * 4) 4) else 0 }
theorem prI_four (l : List Nat) : prI l 4 = prs l := rfl
theorem prI_step (l : List Nat) (i : Nat) (h : i < 4) : (recI (prI l i)).setIfInBounds (7 + i) (.int .i64 (sgI (bvA l (28 + i * 4) 4))) = recI (prI l (i + 1)) := by
  rcases (show i = 0 ∨ i = 1 ∨ i = 2 ∨ i = 3 by omega) with rfl | rfl | rfl | rfl <;> rfl
/-- while parse reads -/
structure PaW (w x : World) (q : Nat) (l : List Nat) (i : Nat) : Prop where
  row : x.heap[q]? = some (.cells (recI (prI l i)) 90 (0, 0))
  res : x.heap[w.heap.size]? = some (.cells zrec 90 (0, 0))
  lo : w.heap.size < q
  be : Below w.heap.size w x
theorem PaW.cell {w x : World} {q : Nat} {l : List Nat} {i : Nat} (h : PaW w x q l i) (j : Nat) (hj : j < 4) : ∃ z, x.cell? ⟨q, 7 + j, none⟩ = some (.int .i64 z) := by
  rw [cell_of_row _ _ _ _ _ _ h.row]
  rcases (show j = 0 ∨ j = 1 ∨ j = 2 ∨ j = 3 by omega) with rfl | rfl | rfl | rfl <;> exact ⟨_, rfl⟩
theorem PaW.step {w x : World} {q : Nat} {l : List Nat} {i : Nat} (h : PaW w x q l i) (hi : i < 4) : PaW w (x.setCell ⟨q, 7 + i, none⟩ (.int .i64 (sgI (bvA l (28 + i * 4) 4)))) q l (i + 1) := by
  refine ⟨?_, ?_, h.lo, h.be.trans ⟨rfl, rfl, rfl, by rw [World.size_setCell]; exact Nat.le_refl _, fun b hb => Go.heap_setCell_other _ _ _ _ (by show b ≠ q; have := h.lo; omega)⟩⟩
  · rw [Go.heap_setCell_same _ _ _ _ _ _ h.row, prI_step l i hi]
  · rw [Go.heap_setCell_other _ _ _ _ (by show w.heap.size ≠ q; have := h.lo; omega)]; exact h.res
set_option maxHeartbeats 4000000 in
theorem parse_any (w : World) (v : Value) (l : List Nat) (hv : BSl w v l) (hsz : vsz l.length) :
    Calls Try.prog 65 #[v] w fun e w' => e = .returned (.tuple #[.agg (recI (prs l)), .bool (decide (l = (prs l).bytes l.length))]) ∧ Below w.heap.size w w' := by
  have hs := hsz.ge
  obtain ⟨g, off, cap, rfl, h1, h2, h3, h4⟩ := hv.form (by omega)
  have HV := hide hv
  unfold maxLen at h2
  clear hv h4
  generalize hN : l.length = size at *
  obtain ⟨hs1, hs2⟩ := hs

  have HT : Hid (∀ x, Below w.heap.size w x → ∀ i k c, i + k ≤ size → 1 ≤ k → k ≤ 4 → c = cap - i → Calls Try.prog 88 #[.slice (some ⟨g, off + i, none⟩) k c] x fun e w' => e = .returned (.int .u32 ((bvA l i k : Nat) : Int)) ∧ w' = x) := hide fun x hx i k c h1 h2 h3 h4 => by
    rw [h4]
    exact takeB_any _ _ x (BSl.below (HV.out.seg i k h1 h2) hx) (by simp; omega)
  have HS : Hid (∀ x, Below w.heap.size w x → ∀ i k c, i + k ≤ size → 1 ≤ k → k ≤ 4 → c = cap - i → Calls Try.prog 89 #[.slice (some ⟨g, off + i, none⟩) k c] x fun e w' => e = .returned (.int .i64 (sgI (bvA l i k))) ∧ w' = x) := hide fun x hx i k c h1 h2 h3 h4 => by
    rw [h4]
    exact signed_any _ _ x (BSl.below (HV.out.seg i k h1 h2) hx) (by simp; omega)
  have HBV : Hid (∀ i k : Nat, k ≤ 4 → bvA l i k < 4294967296) := hide fun i k hk => bval_u32 (fun b hb => h3 b (List.mem_of_mem_drop (List.mem_of_mem_take hb))) (by simp; omega)
  have HB0 : Hid (Below w.heap.size w (w.alloc (.cells zrec 90))) := hide ((Below.refl _ _).alloc (Nat.le_refl _) _)
  go_enter Try.func65, Try.ntmps65
  go_wp2_with fail
  generalize hw0 : w.alloc _ = w0 at *
  have HW0 := hide hw0
  clear hw0
  refine wp_region_specT (by kernel_rfl) 26 (by decide) (by kernel_rfl) (fun x y => Below x.heap.size x y) ⟨rfl, rfl, rfl, Nat.le_refl _, fun _ _ => rfl⟩ (fun x y z h k => h.trans (k.mono h.size))
    (fun i v x => (([.ex (.slice (some ⟨g, off, none⟩) size cap),
    .ex (.slice (some ⟨g, off + 4, none⟩) 4 (cap - 4)),
    .ex (.int .u32 ((bvA l 4 4 : Nat) : Int)),
    .ex (.slice (some ⟨g, off, none⟩) size cap),
    .ex (.slice (some ⟨g, off + 8, none⟩) 2 (cap - 8)),
    .ex (.int .u32 ((bvA l 8 2 : Nat) : Int)),
    .ex (.int .i64 ((bvA l 8 2 : Nat) : Int)),
    .ex (.slice (some ⟨g, off, none⟩) size cap),
    .ex (.slice (some ⟨g, off + 10, none⟩) 2 (cap - 10)),
    .ex (.int .u32 ((bvA l 10 2 : Nat) : Int)),
    .ex (.int .i64 ((bvA l 10 2 : Nat) : Int)),
    .ex (.slice (some ⟨g, off, none⟩) size cap),
    .ex (.slice (some ⟨g, off + 12, none⟩) 4 (cap - 12)),
    .ex (.int .i64 (sgI (bvA l 12 4))),
    .ex (.slice (some ⟨g, off, none⟩) size cap),
    .ex (.slice (some ⟨g, off + 16, none⟩) 4 (cap - 16)),
    .ex (.int .i64 (sgI (bvA l 16 4))),
    .ex (.slice (some ⟨g, off, none⟩) size cap),
    .ex (.slice (some ⟨g, off + 20, none⟩) 4 (cap - 20)),
    .ex (.int .i64 (sgI (bvA l 20 4))),
    .ex (.agg #[.int .i64 (sgI (bvA l 12 4)), .int .i64 (sgI (bvA l 16 4)), .int .i64 (sgI (bvA l 20 4))]),
    .ex (.slice (some ⟨g, off, none⟩) size cap),
    .ex (.slice (some ⟨g, off + 24, none⟩) 4 (cap - 24)),
    .ex (.int .i64 (sgI (bvA l 24 4))),
    .ex (.agg #[.int .u32 ((bvA l 4 4 : Nat) : Int), .int .i64 ((bvA l 8 2 : Nat) : Int), .int .i64 ((bvA l 10 2 : Nat) : Int), .int .i64 (sgI (bvA l 12 4)), .int .i64 (sgI (bvA l 16 4)), .int .i64 (sgI (bvA l 20 4)), .int .i64 (sgI (bvA l 24 4)), .int .i64 0, .int .i64 0, .int .i64 0, .int .i64 0]),
    .new w0.heap.size zrec 90] : List Dv).getD i (.of (fun _ _ => True) (fun _ _ _ _ _ => trivial))).holds v x) (fun i v x y h hb => Dv.stays h hb) ?step ?tail
  case step =>
    intro i o a w1 hi ho hL hG hd
    have hd' : ∀ j, (depsOf _ i).contains j = true → _ := fun j hj => hd j (by simpa using hj)
    have h0 : a.eval (.tmp 0) = .slice (some ⟨g, off, none⟩) size cap := hL.ev 0 (by kernel_rfl) rfl
    clear hd hL
    rcases (show i = 0 ∨ i = 1 ∨ i = 2 ∨ i = 3 ∨ i = 4 ∨ i = 5 ∨ i = 6 ∨ i = 7 ∨ i = 8 ∨ i = 9 ∨ i = 10 ∨ i = 11 ∨ i = 12 ∨ i = 13 ∨ i = 14 ∨ i = 15 ∨ i = 16 ∨ i = 17 ∨ i = 18 ∨ i = 19 ∨ i = 20 ∨ i = 21 ∨ i = 22 ∨ i = 23 ∨ i = 24 ∨ i = 25 by omega) with rfl | rfl | rfl | rfl | rfl | rfl | rfl | rfl | rfl | rfl | rfl | rfl | rfl | rfl | rfl | rfl | rfl | rfl | rfl | rfl | rfl | rfl | rfl | rfl | rfl | rfl
    · cases ho; exact opv (r_mov _ w1 _ (.tmp 0) _ rfl h0) ⟨_, rfl, rfl, Below.refl _ _⟩
    · cases ho; have e := hd' 0 (by kernel_rfl) _ rfl; exact opv (r_slice _ w1 _ 6 4 8 _ _ _ _ rfl (by omega) (by omega) (by omega) e rfl rfl) ⟨_, rfl, rfl, Below.refl _ _⟩
    · cases ho; have e := hd' 1 (by kernel_rfl) _ rfl; exact opc 88 _ (r_call1 _ w1 _ 88 _ _ rfl e (by first | exact .inl rfl | exact .inr rfl) rfl) (HT.out _ (HB0.out.trans (hG.mono HB0.out.size)) 4 4 _ (by omega) (by omega) (by omega) rfl) (fun e w2 h => ⟨_, h.1, _, rfl, rfl, h.2 ▸ Below.refl _ _⟩)
    · cases ho; exact opv (r_mov _ w1 _ (.tmp 0) _ rfl h0) ⟨_, rfl, rfl, Below.refl _ _⟩
    · cases ho; have e := hd' 3 (by kernel_rfl) _ rfl; exact opv (r_slice _ w1 _ 9 8 10 _ _ _ _ rfl (by omega) (by omega) (by omega) e rfl rfl) ⟨_, rfl, rfl, Below.refl _ _⟩
    · cases ho; have e := hd' 4 (by kernel_rfl) _ rfl; exact opc 88 _ (r_call1 _ w1 _ 88 _ _ rfl e (by first | exact .inl rfl | exact .inr rfl) rfl) (HT.out _ (HB0.out.trans (hG.mono HB0.out.size)) 8 2 _ (by omega) (by omega) (by omega) rfl) (fun e w2 h => ⟨_, h.1, _, rfl, rfl, h.2 ▸ Below.refl _ _⟩)
    · cases ho; have e := hd' 5 (by kernel_rfl) _ rfl; exact opv (r_conv _ w1 _ _ _ rfl e (HBV.out _ _ (by omega))) ⟨_, rfl, rfl, Below.refl _ _⟩
    · cases ho; exact opv (r_mov _ w1 _ (.tmp 0) _ rfl h0) ⟨_, rfl, rfl, Below.refl _ _⟩
    · cases ho; have e := hd' 7 (by kernel_rfl) _ rfl; exact opv (r_slice _ w1 _ 13 10 12 _ _ _ _ rfl (by omega) (by omega) (by omega) e rfl rfl) ⟨_, rfl, rfl, Below.refl _ _⟩
    · cases ho; have e := hd' 8 (by kernel_rfl) _ rfl; exact opc 88 _ (r_call1 _ w1 _ 88 _ _ rfl e (by first | exact .inl rfl | exact .inr rfl) rfl) (HT.out _ (HB0.out.trans (hG.mono HB0.out.size)) 10 2 _ (by omega) (by omega) (by omega) rfl) (fun e w2 h => ⟨_, h.1, _, rfl, rfl, h.2 ▸ Below.refl _ _⟩)
    · cases ho; have e := hd' 9 (by kernel_rfl) _ rfl; exact opv (r_conv _ w1 _ _ _ rfl e (HBV.out _ _ (by omega))) ⟨_, rfl, rfl, Below.refl _ _⟩
    · cases ho; exact opv (r_mov _ w1 _ (.tmp 0) _ rfl h0) ⟨_, rfl, rfl, Below.refl _ _⟩
    · cases ho; have e := hd' 11 (by kernel_rfl) _ rfl; exact opv (r_slice _ w1 _ 17 12 16 _ _ _ _ rfl (by omega) (by omega) (by omega) e rfl rfl) ⟨_, rfl, rfl, Below.refl _ _⟩
    · cases ho; have e := hd' 12 (by kernel_rfl) _ rfl; exact opc 89 _ (r_call1 _ w1 _ 89 _ _ rfl e (by first | exact .inl rfl | exact .inr rfl) rfl) (HS.out _ (HB0.out.trans (hG.mono HB0.out.size)) 12 4 _ (by omega) (by omega) (by omega) rfl) (fun e w2 h => ⟨_, h.1, _, rfl, rfl, h.2 ▸ Below.refl _ _⟩)
    · cases ho; exact opv (r_mov _ w1 _ (.tmp 0) _ rfl h0) ⟨_, rfl, rfl, Below.refl _ _⟩
    · cases ho; have e := hd' 14 (by kernel_rfl) _ rfl; exact opv (r_slice _ w1 _ 20 16 20 _ _ _ _ rfl (by omega) (by omega) (by omega) e rfl rfl) ⟨_, rfl, rfl, Below.refl _ _⟩
    · cases ho; have e := hd' 15 (by kernel_rfl) _ rfl; exact opc 89 _ (r_call1 _ w1 _ 89 _ _ rfl e (by first | exact .inl rfl | exact .inr rfl) rfl) (HS.out _ (HB0.out.trans (hG.mono HB0.out.size)) 16 4 _ (by omega) (by omega) (by omega) rfl) (fun e w2 h => ⟨_, h.1, _, rfl, rfl, h.2 ▸ Below.refl _ _⟩)
    · cases ho; exact opv (r_mov _ w1 _ (.tmp 0) _ rfl h0) ⟨_, rfl, rfl, Below.refl _ _⟩
    · cases ho; have e := hd' 17 (by kernel_rfl) _ rfl; exact opv (r_slice _ w1 _ 23 20 24 _ _ _ _ rfl (by omega) (by omega) (by omega) e rfl rfl) ⟨_, rfl, rfl, Below.refl _ _⟩
    · cases ho; have e := hd' 18 (by kernel_rfl) _ rfl; exact opc 89 _ (r_call1 _ w1 _ 89 _ _ rfl e (by first | exact .inl rfl | exact .inr rfl) rfl) (HS.out _ (HB0.out.trans (hG.mono HB0.out.size)) 20 4 _ (by omega) (by omega) (by omega) rfl) (fun e w2 h => ⟨_, h.1, _, rfl, rfl, h.2 ▸ Below.refl _ _⟩)
    · cases ho; have e1 := hd' 13 (by kernel_rfl) _ rfl; have e2 := hd' 16 (by kernel_rfl) _ rfl; have e3 := hd' 19 (by kernel_rfl) _ rfl; exact opv (r_change _ w1 _ _ _ _ rfl e1 e2 e3) ⟨_, rfl, rfl, Below.refl _ _⟩
    · cases ho; exact opv (r_mov _ w1 _ (.tmp 0) _ rfl h0) ⟨_, rfl, rfl, Below.refl _ _⟩
    · cases ho; have e := hd' 21 (by kernel_rfl) _ rfl; exact opv (r_slice _ w1 _ 27 24 28 _ _ _ _ rfl (by omega) (by omega) (by omega) e rfl rfl) ⟨_, rfl, rfl, Below.refl _ _⟩
    · cases ho; have e := hd' 22 (by kernel_rfl) _ rfl; exact opc 89 _ (r_call1 _ w1 _ 89 _ _ rfl e (by first | exact .inl rfl | exact .inr rfl) rfl) (HS.out _ (HB0.out.trans (hG.mono HB0.out.size)) 24 4 _ (by omega) (by omega) (by omega) rfl) (fun e w2 h => ⟨_, h.1, _, rfl, rfl, h.2 ▸ Below.refl _ _⟩)
    · cases ho; have e1 := hd' 2 (by kernel_rfl) _ rfl; have e2 := hd' 6 (by kernel_rfl) _ rfl; have e3 := hd' 10 (by kernel_rfl) _ rfl; have e4 := hd' 20 (by kernel_rfl) _ rfl; have e5 := hd' 23 (by kernel_rfl) _ rfl; exact opv (r_record _ w1 _ _ _ _ _ _ _ _ rfl e1 e2 e3 e4 e5) ⟨_, rfl, rfl, Below.refl _ _⟩
    · cases ho; exact opv (r_alloc _ w1 _ rfl) ⟨_, rfl, ⟨_, rfl, hG.size, Go.heap_alloc_new _ _⟩, (Below.refl _ _).alloc (Nat.le_refl _) _⟩
  case tail =>
    intro a w1 hL hG hA
    have e0 : a.eval (.tmp 0) = .slice (some ⟨g, off, none⟩) size cap := hL.ev 0 (by kernel_rfl) rfl
    have e2 : a.eval (.tmp 2) = .pointer (some ⟨w.heap.size, 0, none⟩) := hL.ev 2 (by kernel_rfl) rfl
    have e3 : a.eval (.tmp 3) = .bool false := hL.ev 3 (by kernel_rfl) rfl
    obtain ⟨q, e4', hq, hrow⟩ := hA 25 _ (by decide) rfl
    have e4 : a.eval (.tmp 4) = .pointer (some ⟨q, 0, none⟩) := e4'
    clear e4'
    have e30 : a.eval (.tmp 30) = .agg #[.int .u32 ((bvA l 4 4 : Nat) : Int), .int .i64 ((bvA l 8 2 : Nat) : Int), .int .i64 ((bvA l 10 2 : Nat) : Int), .int .i64 (sgI (bvA l 12 4)), .int .i64 (sgI (bvA l 16 4)), .int .i64 (sgI (bvA l 20 4)), .int .i64 (sgI (bvA l 24 4)), .int .i64 0, .int .i64 0, .int .i64 0, .int .i64 0] := hA 24 _ (by decide) rfl
    obtain ⟨u1, hu1⟩ : ∃ u, a.eval (.tmp 1) = u := ⟨_, rfl⟩
    obtain ⟨u5, hu5⟩ : ∃ u, a.eval (.tmp 5) = u := ⟨_, rfl⟩
    obtain ⟨u6, hu6⟩ : ∃ u, a.eval (.tmp 6) = u := ⟨_, rfl⟩
    obtain ⟨u7, hu7⟩ : ∃ u, a.eval (.tmp 7) = u := ⟨_, rfl⟩
    obtain ⟨u8, hu8⟩ : ∃ u, a.eval (.tmp 8) = u := ⟨_, rfl⟩
    obtain ⟨u9, hu9⟩ : ∃ u, a.eval (.tmp 9) = u := ⟨_, rfl⟩
    obtain ⟨u10, hu10⟩ : ∃ u, a.eval (.tmp 10) = u := ⟨_, rfl⟩
    obtain ⟨u11, hu11⟩ : ∃ u, a.eval (.tmp 11) = u := ⟨_, rfl⟩
    obtain ⟨u12, hu12⟩ : ∃ u, a.eval (.tmp 12) = u := ⟨_, rfl⟩
    obtain ⟨u13, hu13⟩ : ∃ u, a.eval (.tmp 13) = u := ⟨_, rfl⟩
    obtain ⟨u14, hu14⟩ : ∃ u, a.eval (.tmp 14) = u := ⟨_, rfl⟩
    obtain ⟨u15, hu15⟩ : ∃ u, a.eval (.tmp 15) = u := ⟨_, rfl⟩
    obtain ⟨u16, hu16⟩ : ∃ u, a.eval (.tmp 16) = u := ⟨_, rfl⟩
    obtain ⟨u17, hu17⟩ : ∃ u, a.eval (.tmp 17) = u := ⟨_, rfl⟩
    obtain ⟨u18, hu18⟩ : ∃ u, a.eval (.tmp 18) = u := ⟨_, rfl⟩
    obtain ⟨u19, hu19⟩ : ∃ u, a.eval (.tmp 19) = u := ⟨_, rfl⟩
    obtain ⟨u20, hu20⟩ : ∃ u, a.eval (.tmp 20) = u := ⟨_, rfl⟩
    obtain ⟨u21, hu21⟩ : ∃ u, a.eval (.tmp 21) = u := ⟨_, rfl⟩
    obtain ⟨u22, hu22⟩ : ∃ u, a.eval (.tmp 22) = u := ⟨_, rfl⟩
    obtain ⟨u23, hu23⟩ : ∃ u, a.eval (.tmp 23) = u := ⟨_, rfl⟩
    obtain ⟨u24, hu24⟩ : ∃ u, a.eval (.tmp 24) = u := ⟨_, rfl⟩
    obtain ⟨u25, hu25⟩ : ∃ u, a.eval (.tmp 25) = u := ⟨_, rfl⟩
    obtain ⟨u26, hu26⟩ : ∃ u, a.eval (.tmp 26) = u := ⟨_, rfl⟩
    obtain ⟨u27, hu27⟩ : ∃ u, a.eval (.tmp 27) = u := ⟨_, rfl⟩
    obtain ⟨u28, hu28⟩ : ∃ u, a.eval (.tmp 28) = u := ⟨_, rfl⟩
    obtain ⟨u29, hu29⟩ : ∃ u, a.eval (.tmp 29) = u := ⟨_, rfl⟩
    obtain ⟨u31, hu31⟩ : ∃ u, a.eval (.tmp 31) = u := ⟨_, rfl⟩
    obtain ⟨u32, hu32⟩ : ∃ u, a.eval (.tmp 32) = u := ⟨_, rfl⟩
    obtain ⟨u33, hu33⟩ : ∃ u, a.eval (.tmp 33) = u := ⟨_, rfl⟩
    obtain ⟨u34, hu34⟩ : ∃ u, a.eval (.tmp 34) = u := ⟨_, rfl⟩
    obtain ⟨u35, hu35⟩ : ∃ u, a.eval (.tmp 35) = u := ⟨_, rfl⟩
    obtain ⟨u36, hu36⟩ : ∃ u, a.eval (.tmp 36) = u := ⟨_, rfl⟩
    obtain ⟨u37, hu37⟩ : ∃ u, a.eval (.tmp 37) = u := ⟨_, rfl⟩
    obtain ⟨u38, hu38⟩ : ∃ u, a.eval (.tmp 38) = u := ⟨_, rfl⟩
    obtain ⟨u39, hu39⟩ : ∃ u, a.eval (.tmp 39) = u := ⟨_, rfl⟩
    obtain ⟨u40, hu40⟩ : ∃ u, a.eval (.tmp 40) = u := ⟨_, rfl⟩
    obtain ⟨u41, hu41⟩ : ∃ u, a.eval (.tmp 41) = u := ⟨_, rfl⟩
    obtain ⟨u42, hu42⟩ : ∃ u, a.eval (.tmp 42) = u := ⟨_, rfl⟩
    obtain ⟨u43, hu43⟩ : ∃ u, a.eval (.tmp 43) = u := ⟨_, rfl⟩
    obtain ⟨u44, hu44⟩ : ∃ u, a.eval (.tmp 44) = u := ⟨_, rfl⟩
    obtain ⟨u45, hu45⟩ : ∃ u, a.eval (.tmp 45) = u := ⟨_, rfl⟩
    obtain ⟨u46, hu46⟩ : ∃ u, a.eval (.tmp 46) = u := ⟨_, rfl⟩
    obtain ⟨u47, hu47⟩ : ∃ u, a.eval (.tmp 47) = u := ⟨_, rfl⟩
    obtain ⟨u48, hu48⟩ : ∃ u, a.eval (.tmp 48) = u := ⟨_, rfl⟩
    have hact : a = { tmps := #[.slice (some ⟨g, off, none⟩) size cap, u1, .pointer (some ⟨w.heap.size, 0, none⟩), .bool false, .pointer (some ⟨q, 0, none⟩), u5, u6, u7, u8, u9, u10, u11, u12, u13, u14, u15, u16, u17, u18, u19, u20, u21, u22, u23, u24, u25, u26, u27, u28, u29, .agg #[.int .u32 ((bvA l 4 4 : Nat) : Int), .int .i64 ((bvA l 8 2 : Nat) : Int), .int .i64 ((bvA l 10 2 : Nat) : Int), .int .i64 (sgI (bvA l 12 4)), .int .i64 (sgI (bvA l 16 4)), .int .i64 (sgI (bvA l 20 4)), .int .i64 (sgI (bvA l 24 4)), .int .i64 0, .int .i64 0, .int .i64 0, .int .i64 0], u31, u32, u33, u34, u35, u36, u37, u38, u39, u40, u41, u42, u43, u44, u45, u46, u47, u48], defers := [] } := by
      refine (act_lit hL.size hL.defers).trans ?_
      congr 1
      simp only [List.size_toArray, List.length_cons, List.length_nil, List.range, List.range.loop, Nat.reduceAdd, List.map, e0, e2, e3, e4, e30, hu1, hu5, hu6, hu7, hu8, hu9, hu10, hu11, hu12, hu13, hu14, hu15, hu16, hu17, hu18, hu19, hu20, hu21, hu22, hu23, hu24, hu25, hu26, hu27, hu28, hu29, hu31, hu32, hu33, hu34, hu35, hu36, hu37, hu38, hu39, hu40, hu41, hu42, hu43, hu44, hu45, hu46, hu47, hu48]
    clear hA
    have hlo : w0.heap.size = w.heap.size + 1 := by rw [← HW0.out]; simp
    have HPA : Hid (PaW w (w1.setRow q #[.int .u32 ((bvA l 4 4 : Nat) : Int), .int .i64 ((bvA l 8 2 : Nat) : Int), .int .i64 ((bvA l 10 2 : Nat) : Int), .int .i64 (sgI (bvA l 12 4)), .int .i64 (sgI (bvA l 16 4)), .int .i64 (sgI (bvA l 20 4)), .int .i64 (sgI (bvA l 24 4)), .int .i64 0, .int .i64 0, .int .i64 0, .int .i64 0]) q l 0) := hide (by
      have hb1 : Below w.heap.size w w1 := HB0.out.trans (hG.mono HB0.out.size)
      have hql := (Array.getElem?_eq_some_iff.1 hrow).1
      refine ⟨?_, ?_, by omega, hb1.trans ⟨rfl, rfl, rfl, Nat.le_of_eq (setRow_size ..).symm, fun k hk => setRow_other _ _ _ _ (by omega)⟩⟩
      · rw [setRow_heap _ _ _ _ _ _ hrow]; rfl
      · rw [setRow_other _ _ _ _ (by omega), hG.block _ (by omega), ← HW0.out]
        exact Go.heap_alloc_new _ _)
    rw [hact]
    clear hact e0 e2 e3 e4 e30 hL hu1 hu5 hu6 hu7 hu8 hu9 hu10 hu11 hu12 hu13 hu14 hu15 hu16 hu17 hu18 hu19 hu20 hu21 hu22 hu23 hu24 hu25 hu26 hu27 hu28 hu29 hu31 hu32 hu33 hu34 hu35 hu36 hu37 hu38 hu39 hu40 hu41 hu42 hu43 hu44 hu45 hu46 hu47 hu48
    clear a
    refine wpList_store_row rfl 90 (.tmp 4) (.tmp 30) rfl q #[.int .u32 ((bvA l 4 4 : Nat) : Int), .int .i64 ((bvA l 8 2 : Nat) : Int), .int .i64 ((bvA l 10 2 : Nat) : Int), .int .i64 (sgI (bvA l 12 4)), .int .i64 (sgI (bvA l 16 4)), .int .i64 (sgI (bvA l 20 4)), .int .i64 (sgI (bvA l 24 4)), .int .i64 0, .int .i64 0, .int .i64 0, .int .i64 0] rfl rfl 90 zrec hrow recSize rfl (by first | kernel_rfl | simp [Value.oneCell']) ?_
    clear hrow hG hq hlo HW0 HB0
    generalize w1.setRow q #[.int .u32 ((bvA l 4 4 : Nat) : Int), .int .i64 ((bvA l 8 2 : Nat) : Int), .int .i64 ((bvA l 10 2 : Nat) : Int), .int .i64 (sgI (bvA l 12 4)), .int .i64 (sgI (bvA l 16 4)), .int .i64 (sgI (bvA l 20 4)), .int .i64 (sgI (bvA l 24 4)), .int .i64 0, .int .i64 0, .int .i64 0, .int .i64 0] = w2 at *
    clear w1 w0
    rename_i Q' K hK
    refine hK _ _ ?_
    clear hK K
    simp only [Act.put]
    go_wp2_with fail
    go_loopw [31] (fun x wr => ∃ i : Nat, i ≤ 4 ∧ x = .int .i64 (i : Int) ∧ PaW w wr q l i) (fun x _ => 4 - (intOf x).toNat)
    case atStart => exact ⟨0, by omega, rfl, HPA.out⟩
    case round =>
      clear HPA
      obtain ⟨i, hi, rfl, hb⟩ := hrel
      have HB := hide hb
      by_cases hlt : i < 4
      · have c1 := hb.cell i hlt
        obtain ⟨z, c1⟩ := c1
        have c2 := frozen_of_row _ _ (7 + i) _ 90 hb.row
        have HN := hide (hb.step hlt)
        have HBE := hide hb.be
        clear hb
        have hil : (i : Int) < 4 := by omega
        have HCW := hide fun x => ctxWordO_any x g off size cap i hlt (by omega) h1 (by unfold maxLen; omega)
        have HSG := hide (HS.out wr HBE.out (28 + i * 4) 4 _ (by omega) (by omega) (by omega) rfl)
        clear HS HT
        generalize sgI (bvA l (28 + i * 4) 4) = zz at *
        go_wp2_with (first
          | (go_at_call 80; refine (HCW.out _).mono ?_; rintro e y ⟨rfl, rfl⟩)
          | (go_at_call 89; refine HSG.out.mono ?_; rintro e y ⟨rfl, rfl⟩))
        go_roundw
        case rel => exact ⟨i + 1, by omega, by go_num, HN.out⟩
        case measure => simp [intOf]; omega
      · have e4 : i = 4 := by omega
        subst e4
        go_wp2_with fail
        have HROW := hide hb.row
        rw [prI_four] at HROW
        have hql := (Array.getElem?_eq_some_iff.1 hb.row).1
        have HBL := hide hb.be
        have HRES := hide hb.res
        have hqlo := hb.lo
        clear hb HS HT HB
        generalize hRI : recI (prs l) = RI at *
        have HRI := hide hRI
        clear hRI
        refine wp_region_specT (by kernel_rfl) 7 (by decide) (by kernel_rfl) (fun x y => Below x.heap.size x y) ⟨rfl, rfl, rfl, Nat.le_refl _, fun _ _ => rfl⟩ (fun x y z h k => h.trans (k.mono h.size))
          (fun i v x => (([.ex (.agg RI), .ex (.slice (some ⟨g, off, none⟩) size cap), .ex (.agg RI), .ex (.slice (some ⟨g, off, none⟩) size cap), .ex (.int .i64 (size : Int)), .of (fun v x => BSl x v ((prs l).bytes size)) (fun v x y h hb => h.below hb), .ex (.bool (decide (l = (prs l).bytes size)))] : List Dv).getD i (.of (fun _ _ => True) (fun _ _ _ _ _ => trivial))).holds v x) (fun i v x y h hb => Dv.stays h hb) ?step2 ?tail2
        case step2 =>
          intro i o a w1 hi ho hL hG hd
          have hd' : ∀ j, (depsOf _ i).contains j = true → _ := fun j hj => hd j (by simpa using hj)
          have h0 : a.eval (.tmp 0) = .slice (some ⟨g, off, none⟩) size cap := hL.ev 0 (by kernel_rfl) rfl
          have h4 : a.eval (.tmp 4) = .pointer (some ⟨q, 0, none⟩) := hL.ev 4 (by kernel_rfl) rfl
          have hrow : w1.heap[q]? = some (.cells RI 90 (0, 0)) := (hG.block q hql).trans HROW.out
          have hRsz : (Try.prog.info? 90).map (·.size) = some RI.size := by rw [← HRI.out]; exact recSize
          clear hd hL
          rcases (show i = 0 ∨ i = 1 ∨ i = 2 ∨ i = 3 ∨ i = 4 ∨ i = 5 ∨ i = 6 by omega) with rfl | rfl | rfl | rfl | rfl | rfl | rfl
          · cases ho; exact wp_load_row 90 (.tmp 4) rfl q h4 90 RI (0, 0) _ hrow Try.underlying90 rfl hRsz ⟨_, rfl, rfl, Below.refl _ _⟩
          · cases ho; exact opv (r_mov _ w1 _ (.tmp 0) _ rfl h0) ⟨_, rfl, rfl, Below.refl _ _⟩
          · cases ho; exact wp_load_row 90 (.tmp 4) rfl q h4 90 RI (0, 0) _ hrow Try.underlying90 rfl hRsz ⟨_, rfl, rfl, Below.refl _ _⟩
          · cases ho; exact opv (r_mov _ w1 _ (.tmp 0) _ rfl h0) ⟨_, rfl, rfl, Below.refl _ _⟩
          · cases ho; have e := hd' 3 (by kernel_rfl) _ rfl; exact opv (r_len _ w1 _ _ _ _ _ rfl e) ⟨_, rfl, rfl, Below.refl _ _⟩
          · cases ho
            have e1 := hd' 2 (by kernel_rfl) _ rfl
            have e2 := hd' 4 (by kernel_rfl) _ rfl
            have hc := blockI_any w1 size (prs l).num (prs l).age (prs l).slots (prs l).c0 (prs l).c1 (prs l).c2 (prs l).st (prs l).C hsz (HBV.out 4 4 (by omega)) (HBV.out 8 2 (by omega)) (HBV.out 10 2 (by omega))
            rw [show Rc.mk (prs l).num (prs l).age (prs l).slots (prs l).c0 (prs l).c1 (prs l).c2 (prs l).st (prs l).C = prs l from rfl, HRI.out] at hc
            exact opc 50 _ (r_call2 _ w1 _ _ _ rfl e1 e2 rfl) hc (fun e w2 h => ⟨_, h.1, _, rfl, bsl_row h.2.1 (bytes_len _ _ (by omega)) (by unfold maxLen; omega) (bytes_lt _ _), h.2.2⟩)
          · cases ho
            have e1 := hd' 1 (by kernel_rfl) _ rfl
            have e2 : BSl w1 _ _ := hd' 5 (by kernel_rfl) _ rfl
            exact opc 90 _ (r_call3 _ w1 _ _ _ rfl e1 rfl rfl) (equal_any _ _ l ((prs l).bytes size) w1 (HV.out.below (HBL.out.trans (hG.mono HBL.out.size))) e2 (by omega) (by rw [bytes_len _ _ (by omega)]; omega)) (fun e w2 h => ⟨_, h.1, _, rfl, rfl, h.2 ▸ Below.refl _ _⟩)
        case tail2 =>
          intro a w1 hL hG hA
          have e2 : a.eval (.tmp 2) = .pointer (some ⟨w.heap.size, 0, none⟩) := hL.ev 2 (by kernel_rfl) rfl
          have e42 : a.eval (.tmp 42) = .agg RI := hA 0 _ (by decide) rfl
          have e48 : a.eval (.tmp 48) = .bool (decide (l = (prs l).bytes size)) := hA 6 _ (by decide) rfl
          obtain ⟨t0, ht0⟩ : ∃ u, a.eval (.tmp 0) = u := ⟨_, rfl⟩
          obtain ⟨t1, ht1⟩ : ∃ u, a.eval (.tmp 1) = u := ⟨_, rfl⟩
          obtain ⟨t3, ht3⟩ : ∃ u, a.eval (.tmp 3) = u := ⟨_, rfl⟩
          obtain ⟨t4, ht4⟩ : ∃ u, a.eval (.tmp 4) = u := ⟨_, rfl⟩
          obtain ⟨t5, ht5⟩ : ∃ u, a.eval (.tmp 5) = u := ⟨_, rfl⟩
          obtain ⟨t6, ht6⟩ : ∃ u, a.eval (.tmp 6) = u := ⟨_, rfl⟩
          obtain ⟨t7, ht7⟩ : ∃ u, a.eval (.tmp 7) = u := ⟨_, rfl⟩
          obtain ⟨t8, ht8⟩ : ∃ u, a.eval (.tmp 8) = u := ⟨_, rfl⟩
          obtain ⟨t9, ht9⟩ : ∃ u, a.eval (.tmp 9) = u := ⟨_, rfl⟩
          obtain ⟨t10, ht10⟩ : ∃ u, a.eval (.tmp 10) = u := ⟨_, rfl⟩
          obtain ⟨t11, ht11⟩ : ∃ u, a.eval (.tmp 11) = u := ⟨_, rfl⟩
          obtain ⟨t12, ht12⟩ : ∃ u, a.eval (.tmp 12) = u := ⟨_, rfl⟩
          obtain ⟨t13, ht13⟩ : ∃ u, a.eval (.tmp 13) = u := ⟨_, rfl⟩
          obtain ⟨t14, ht14⟩ : ∃ u, a.eval (.tmp 14) = u := ⟨_, rfl⟩
          obtain ⟨t15, ht15⟩ : ∃ u, a.eval (.tmp 15) = u := ⟨_, rfl⟩
          obtain ⟨t16, ht16⟩ : ∃ u, a.eval (.tmp 16) = u := ⟨_, rfl⟩
          obtain ⟨t17, ht17⟩ : ∃ u, a.eval (.tmp 17) = u := ⟨_, rfl⟩
          obtain ⟨t18, ht18⟩ : ∃ u, a.eval (.tmp 18) = u := ⟨_, rfl⟩
          obtain ⟨t19, ht19⟩ : ∃ u, a.eval (.tmp 19) = u := ⟨_, rfl⟩
          obtain ⟨t20, ht20⟩ : ∃ u, a.eval (.tmp 20) = u := ⟨_, rfl⟩
          obtain ⟨t21, ht21⟩ : ∃ u, a.eval (.tmp 21) = u := ⟨_, rfl⟩
          obtain ⟨t22, ht22⟩ : ∃ u, a.eval (.tmp 22) = u := ⟨_, rfl⟩
          obtain ⟨t23, ht23⟩ : ∃ u, a.eval (.tmp 23) = u := ⟨_, rfl⟩
          obtain ⟨t24, ht24⟩ : ∃ u, a.eval (.tmp 24) = u := ⟨_, rfl⟩
          obtain ⟨t25, ht25⟩ : ∃ u, a.eval (.tmp 25) = u := ⟨_, rfl⟩
          obtain ⟨t26, ht26⟩ : ∃ u, a.eval (.tmp 26) = u := ⟨_, rfl⟩
          obtain ⟨t27, ht27⟩ : ∃ u, a.eval (.tmp 27) = u := ⟨_, rfl⟩
          obtain ⟨t28, ht28⟩ : ∃ u, a.eval (.tmp 28) = u := ⟨_, rfl⟩
          obtain ⟨t29, ht29⟩ : ∃ u, a.eval (.tmp 29) = u := ⟨_, rfl⟩
          obtain ⟨t30, ht30⟩ : ∃ u, a.eval (.tmp 30) = u := ⟨_, rfl⟩
          obtain ⟨t31, ht31⟩ : ∃ u, a.eval (.tmp 31) = u := ⟨_, rfl⟩
          obtain ⟨t32, ht32⟩ : ∃ u, a.eval (.tmp 32) = u := ⟨_, rfl⟩
          obtain ⟨t33, ht33⟩ : ∃ u, a.eval (.tmp 33) = u := ⟨_, rfl⟩
          obtain ⟨t34, ht34⟩ : ∃ u, a.eval (.tmp 34) = u := ⟨_, rfl⟩
          obtain ⟨t35, ht35⟩ : ∃ u, a.eval (.tmp 35) = u := ⟨_, rfl⟩
          obtain ⟨t36, ht36⟩ : ∃ u, a.eval (.tmp 36) = u := ⟨_, rfl⟩
          obtain ⟨t37, ht37⟩ : ∃ u, a.eval (.tmp 37) = u := ⟨_, rfl⟩
          obtain ⟨t38, ht38⟩ : ∃ u, a.eval (.tmp 38) = u := ⟨_, rfl⟩
          obtain ⟨t39, ht39⟩ : ∃ u, a.eval (.tmp 39) = u := ⟨_, rfl⟩
          obtain ⟨t40, ht40⟩ : ∃ u, a.eval (.tmp 40) = u := ⟨_, rfl⟩
          obtain ⟨t41, ht41⟩ : ∃ u, a.eval (.tmp 41) = u := ⟨_, rfl⟩
          obtain ⟨t43, ht43⟩ : ∃ u, a.eval (.tmp 43) = u := ⟨_, rfl⟩
          obtain ⟨t44, ht44⟩ : ∃ u, a.eval (.tmp 44) = u := ⟨_, rfl⟩
          obtain ⟨t45, ht45⟩ : ∃ u, a.eval (.tmp 45) = u := ⟨_, rfl⟩
          obtain ⟨t46, ht46⟩ : ∃ u, a.eval (.tmp 46) = u := ⟨_, rfl⟩
          obtain ⟨t47, ht47⟩ : ∃ u, a.eval (.tmp 47) = u := ⟨_, rfl⟩
          have hact : a = { tmps := #[t0, t1, .pointer (some ⟨w.heap.size, 0, none⟩), t3, t4, t5, t6, t7, t8, t9, t10, t11, t12, t13, t14, t15, t16, t17, t18, t19, t20, t21, t22, t23, t24, t25, t26, t27, t28, t29, t30, t31, t32, t33, t34, t35, t36, t37, t38, t39, t40, t41, .agg RI, t43, t44, t45, t46, t47, .bool (decide (l = (prs l).bytes size))], defers := [] } := by
            refine (act_lit hL.size hL.defers).trans ?_
            congr 1
            simp only [List.size_toArray, List.length_cons, List.length_nil, List.range, List.range.loop, Nat.reduceAdd, List.map, e2, e42, e48, ht0, ht1, ht3, ht4, ht5, ht6, ht7, ht8, ht9, ht10, ht11, ht12, ht13, ht14, ht15, ht16, ht17, ht18, ht19, ht20, ht21, ht22, ht23, ht24, ht25, ht26, ht27, ht28, ht29, ht30, ht31, ht32, ht33, ht34, ht35, ht36, ht37, ht38, ht39, ht40, ht41, ht43, ht44, ht45, ht46, ht47]
          have hres : w1.heap[w.heap.size]? = some (.cells zrec 90 (0, 0)) := (hG.block _ (by omega)).trans HRES.out
          have hRs : RI.size = 11 := by rw [← HRI.out]; rfl
          have hRo : RI.all (·.oneCell') = true := by rw [← HRI.out]; simp [recI, Value.oneCell']
          have hrow := setRow_heap w1 w.heap.size zrec RI 90 (0, 0) hres
          have hbF : Below w.heap.size w (w1.setRow w.heap.size RI) := (HBL.out.trans (hG.mono HBL.out.size)).trans ⟨rfl, rfl, rfl, Nat.le_of_eq (setRow_size ..).symm, fun k hk => setRow_other _ _ _ _ (by omega)⟩
          rw [hact]
          clear hact e2 e42 e48 hL hA ht0 ht1 ht3 ht4 ht5 ht6 ht7 ht8 ht9 ht10 ht11 ht12 ht13 ht14 ht15 ht16 ht17 ht18 ht19 ht20 ht21 ht22 ht23 ht24 ht25 ht26 ht27 ht28 ht29 ht30 ht31 ht32 ht33 ht34 ht35 ht36 ht37 ht38 ht39 ht40 ht41 ht43 ht44 ht45 ht46 ht47
          clear a
          refine wpList_store_row rfl 90 (.tmp 2) (.tmp 42) rfl w.heap.size RI rfl rfl 90 zrec hres (by rw [hRs]; exact recSize) (by rw [hRs]; rfl) hRo ?_
          have HROW := hide hrow
          have HBF := hide hbF
          clear hrow hbF hres hG
          generalize w1.setRow w.heap.size RI = wF at *
          simp only [Act.put]
          go_wp2_with fail
          refine bodyPost_ret (results_row_tmp1 (fn := Try.f65) (p := 2) (u := 3) (ty := 90) (by kernel_rfl) _ _ w.heap.size 90 RI (0, 0) _ rfl HROW.out Try.underlying90 rfl (by rw [hRs]; exact recSize)) rfl ⟨?_, HBF.out⟩
          rw [HRI.out]
          rfl
end Go.Proofs.Ytlkccencilhacaa
namespace Go.Proofs.Ytlkccencilhacaa
open Go.RowKit Go.Sort
open Num
set_option linter.unusedVariables false
set_option linter.unusedSimpArgs false
set_option maxRecDepth 20000

theorem rangeTake {w : World} {b : Nat} {cs : Array Value} {t : TypeId} {fr : Nat × Nat} {l : List Value} (h : w.heap[b]? = some (.cells cs t fr)) (hl : cs.toList.take l.length = l) : w.rangeAt b 0 l := fun j v hj => by
  have hjl : j < l.length := (List.getElem?_eq_some_iff.1 hj).1
  rw [cell_of_row _ _ _ _ _ _ h, Nat.zero_add]
  rw [← hl, List.getElem?_take_of_lt hjl] at hj
  simpa using hj
theorem isSome_no {p : Option Rc} (h : p.isSome = false) : p = none := by cases p <;> simp_all
set_option maxHeartbeats 2000000 in
theorem hblank_any {w : World} {g : Nat} {P : List (Option Rc)} (h : HPl w g P) (h2 : P.length ≤ 4) :
    Calls Try.prog 37 #[.slice (some ⟨g, 0, none⟩) P.length P.length] w (BoolP w (∀ p ∈ P, p = none)) := by
  have HH := hide h
  have HGL := hide ((Array.getElem?_eq_some_iff.1 h).1)
  clear h
  generalize hn : P.length = n at *
  have HN := hide hn
  clear hn
  go_enter Try.func37, Try.ntmps37
  go_wp2_with fail
  go_loopw [7] (fun x wr => ∃ i : Nat, i ≤ n ∧ x = .int .i64 (i : Int) ∧ Below w.heap.size w wr ∧ ∀ p ∈ P.take i, p = none) (fun x _ => n - (intOf x).toNat)
  case atStart => exact ⟨0, Nat.zero_le _, rfl, Below.refl _ _, fun p hp => by simp at hp⟩
  case round =>
    obtain ⟨i, hi, rfl, hb, ha⟩ := hrel
    have HB := hide hb
    have HA := hide ha
    clear hb ha
    by_cases hlt : i < n
    · obtain ⟨p, hp⟩ : ∃ p, P[i]? = some p := ⟨_, List.getElem?_eq_getElem (by rw [HN.out]; exact hlt)⟩
      have HR : Hid (wr.rangeAt g (i * 12) (plV p)) := hide ((HH.out.below HB.out HGL.out).range hp)
      obtain ⟨num, age, slots, c0, c1, c2, st, z0, z1, z2, z3, f, e1, -, e2, -⟩ := plV_lit p
      rw [e1] at HR
      have HS : Hid (f = false → ∀ q ∈ P.take (i + 1), q = none) := hide fun hf q hq => by
        have hl : i < P.length := by rw [HN.out]; exact hlt
        rw [List.take_succ_eq_append_getElem hl] at hq
        rcases List.mem_append.1 hq with hq | hq
        · exact HA.out q hq
        · rw [List.mem_singleton.1 hq]
          have : P[i] = p := by rw [List.getElem?_eq_getElem hl] at hp; exact Option.some.inj hp
          rw [this]
          exact isSome_no (by rw [e2, hf])
      have HM : Hid (f = true → ¬ ∀ q ∈ P, q = none) := hide fun hf hall => by
        have := hall p (List.mem_of_getElem? hp)
        rw [this, hf] at e2
        simp at e2
      have hil : (i : Int) < (n : Int) := by omega
      have HZ : Hid ((wr.alloc (.cells zplc 135)).heap[wr.heap.size]? = some (.cells zplc 135 (0, 0))) := hide (Go.heap_alloc_new _ _)
      have HBN : Hid (Below w.heap.size w (wr.alloc (.cells #[.int .u32 (num : Int), .int .i64 (age : Int), .int .i64 (slots : Int), .int .i64 c0, .int .i64 c1, .int .i64 c2, .int .i64 st, .int .i64 z0, .int .i64 z1, .int .i64 z2, .int .i64 z3, .bool f] 135))) := hide (HB.out.alloc HB.out.size _)
      clear e1 e2 hp HA
      cases f with
      | false =>
        go_wp2_with (first
          | refine wpList_load_mid rfl 135 (.tmp 9) rfl g (i * 12) rfl _ _ HR.out Try.underlying135 rfl placeSize ?_
          | (refine wpList_store_row rfl 135 (.tmp 4) (.tmp 10) rfl wr.heap.size _ rfl rfl 135 zplc HZ.out placeSize rfl (by first | kernel_rfl | simp [Value.oneCell']) ?_; rw [World.setRow_alloc_new]))
        go_roundw
        case rel => exact ⟨i + 1, by omega, by go_num, HBN.out, HS.out rfl⟩
        case measure => simp [intOf]; omega
      | true =>
        go_wp2_with (first
          | refine wpList_load_mid rfl 135 (.tmp 9) rfl g (i * 12) rfl _ _ HR.out Try.underlying135 rfl placeSize ?_
          | (refine wpList_store_row rfl 135 (.tmp 4) (.tmp 10) rfl wr.heap.size _ rfl rfl 135 zplc HZ.out placeSize rfl (by first | kernel_rfl | simp [Value.oneCell']) ?_; rw [World.setRow_alloc_new]))
        go_ret
        exact ⟨false, rfl, by simp only [Bool.false_eq_true, false_iff]; exact HM.out (by first | trivial | rfl), HBN.out⟩
    · have HE : Hid (∀ p ∈ P, p = none) := hide (by have := HA.out; rwa [List.take_of_length_le (by rw [HN.out]; omega)] at this)
      go_wp2_with fail
      go_ret
      exact ⟨true, rfl, by simp only [true_iff]; exact HE.out, HB.out⟩
/-- while endAt goes back -/
structure EaW (w wr : World) (P : List (Option Rc)) (num i : Nat) (bl : Bool) : Prop where
  be : Below w.heap.size w wr
  ok : ∀ b, b < i → ∀ r, pAt P (wd num b) = some r → r.num = wd num b ∧ ∀ b', b' < b → pAt P (wd num b') ≠ none
  bl : bl = true ↔ ∃ b, b < i ∧ pAt P (wd num b) = none
set_option maxHeartbeats 2000000 in
theorem hend_any {w : World} {g : Nat} {P : List (Option Rc)} (h : HPl w g P) (h1 : 1 ≤ P.length) (h2 : P.length ≤ 4) (nm : Nat) (hnm : nm < 4294967296) :
    Calls Try.prog 68 #[.slice (some ⟨g, 0, none⟩) P.length P.length, .int .u32 (nm : Int)] w (BoolP w (EndAt P nm)) := by
  have HAT : Hid (∀ x, Below w.heap.size w x → ∀ m, m < 4294967296 → _) := hide fun x (hx : Below w.heap.size w x) m (hm : m < 4294967296) => hat_any (h.below hx (Array.getElem?_eq_some_iff.1 h).1) h1 h2 m hm
  have HE0 : Hid (EaW w w P nm 0 false) := hide ⟨Below.refl _ _, fun b hb => by omega, by simp⟩
  have HED : Hid (EndAt P nm ↔ ∀ b, b < P.length → ∀ r, pAt P (wd nm b) = some r → r.num = wd nm b ∧ ∀ b', b' < b → pAt P (wd nm b') ≠ none) := hide Iff.rfl
  clear h h1
  generalize hn : P.length = n at *
  have HN := hide hn
  clear hn
  generalize EndAt P nm = ED at *
  go_enter Try.func68, Try.ntmps68
  go_wp2_with fail
  go_loopw [5, 11] (fun y x wr => ∃ i : Nat, ∃ bl : Bool, i ≤ n ∧ x = .int .i64 (i : Int) ∧ y = .bool bl ∧ EaW w wr P nm i bl) (fun _ x _ => n - (intOf x).toNat)
  case atStart => exact ⟨0, false, Nat.zero_le _, rfl, rfl, HE0.out⟩
  case round =>
    clear HE0
    obtain ⟨i, bl, hi, rfl, rfl, hea⟩ := hrel
    have HEA := hide hea
    clear hea
    by_cases hlt : i < n
    · have HCA := hide (HAT.out wr HEA.out.be (wd nm i) (by unfold wd; omega))
      have hil : (i : Int) < (n : Int) := by omega
      have hsb : IntKind.u32.wrap ((nm : Int) - (i : Int)) = ((wd nm i : Nat) : Int) := by unfold wd; simp [IntKind.wrap, IntKind.bits, IntKind.signed]; omega
      have hsb2 : ((nm : Int) - (i : Int)) % 4294967296 = ((wd nm i : Nat) : Int) := by unfold wd; omega
      have hci : IntKind.u32.wrap (i : Int) = (i : Int) := by simp [IntKind.wrap, IntKind.bits, IntKind.signed]; omega
      have hci2 : (i : Int) % 4294967296 = (i : Int) := by omega
      have HWD : Hid (wd nm i < 4294967296) := hide (by unfold wd; omega)
      obtain ⟨p, hp⟩ : ∃ p, pAt P (wd nm i) = p := ⟨_, rfl⟩
      obtain ⟨num, age, slots, c0, c1, c2, st, z0, z1, z2, z3, f, e1, e2, e3, -⟩ := plV_lit p
      rw [hp, e1] at HCA
      have HNX : Hid (∀ wy, Below w.heap.size w wy → (f = true → num = wd nm i ∧ bl = false) → EaW w wy P nm (i + 1) (bl || !f)) := hide fun wy hy hf => by
        refine ⟨hy, fun b hb r hr => ?_, ?_⟩
        · by_cases eb : b = i
          · subst eb
            rw [hp] at hr
            subst hr
            obtain ⟨q1, q2⟩ := hf (by rw [← e3]; rfl)
            refine ⟨by rw [← q1, ← e2]; rfl, fun b' hb' hnn => ?_⟩
            have := HEA.out.bl.2 ⟨b', hb', hnn⟩
            rw [q2] at this; cases this
          · exact HEA.out.ok b (by omega) r hr
        · rw [Bool.or_eq_true, HEA.out.bl]
          constructor
          · rintro (⟨b, q1, q2⟩ | q)
            · exact ⟨b, by omega, q2⟩
            · exact ⟨i, by omega, by rw [hp]; exact isSome_no (by rw [e3]; simpa using q)⟩
          · rintro ⟨b, q1, q2⟩
            by_cases eb : b = i
            · subst eb
              right
              rw [hp] at q2
              rw [q2] at e3
              simp [← e3]
            · exact .inl ⟨b, by omega, q2⟩
      have HNO : Hid (f = true → ¬ (num = wd nm i ∧ bl = false) → ¬ ED) := hide fun hf hne hE => by
        obtain ⟨r, rfl⟩ : ∃ r, p = some r := Option.isSome_iff_exists.1 (by rw [e3, hf])
        obtain ⟨q1, q2⟩ := HED.out.1 hE i hlt r hp
        refine hne ⟨by rw [← e2]; exact q1, ?_⟩
        cases hbl : bl with
        | false => rfl
        | true =>
          obtain ⟨b', q3, q4⟩ := HEA.out.bl.1 hbl
          exact absurd q4 (q2 b' q3)
      clear hp e1 e2 e3
      generalize wd nm i = nx at *
      have HZ : Hid (∀ wy : World, (wy.alloc (.cells zplc 135)).heap[wy.heap.size]? = some (.cells zplc 135 (0, 0))) := hide fun wy => Go.heap_alloc_new _ _
      have HBE := hide HEA.out.be
      clear HEA HED
      go_wp2_with (first
        | (go_at_call 69; refine HCA.out.mono ?_; rintro e wy ⟨rfl, hby⟩; have HBY := hide (HBE.out.trans (hby.mono HBE.out.size)); have HBZ := hide (HBY.out.alloc HBY.out.size (.cells #[.int .u32 (num : Int), .int .i64 (age : Int), .int .i64 (slots : Int), .int .i64 c0, .int .i64 c1, .int .i64 c2, .int .i64 st, .int .i64 z0, .int .i64 z1, .int .i64 z2, .int .i64 z3, .bool f] 135)); clear hby HCA)
        | (refine wpList_store_row rfl 135 (.tmp 8) (.tmp 20) rfl wy.heap.size _ rfl rfl 135 zplc (HZ.out _) placeSize rfl (by first | kernel_rfl | simp [Value.oneCell']) ?_; rw [World.setRow_alloc_new]; cases f <;> cases bl))
      all_goals clear HAT HN hnm HZ HBE
      · go_roundw
        case rel => exact ⟨i + 1, true, by omega, by go_num, rfl, HNX.out _ HBZ.out (fun h => by cases h)⟩
        case measure => simp [intOf]; omega
      · go_roundw
        case rel => exact ⟨i + 1, true, by omega, by go_num, rfl, HNX.out _ HBZ.out (fun h => by cases h)⟩
        case measure => simp [intOf]; omega
      · rename_i hne
        have hne : ¬ num = nx := by intro e; rw [e] at hne; simp at hne
        go_ret
        exact ⟨false, rfl, by simp only [Bool.false_eq_true, false_iff]; exact HNO.out (by first | trivial | rfl) (fun h => hne h.1), HBZ.out⟩
      · rename_i hne
        have hne : num = nx := by have : (num : Int) = (nx : Int) := by simpa using hne
                                  omega
        go_roundw
        case rel => exact ⟨i + 1, false, by omega, by go_num, rfl, HNX.out _ HBZ.out (fun _ => ⟨hne, by first | trivial | rfl⟩)⟩
        case measure => simp [intOf]; omega
      · go_ret
        exact ⟨false, rfl, by simp only [Bool.false_eq_true, false_iff]; exact HNO.out (by first | trivial | rfl) (fun h => by cases h.2), HBZ.out⟩
    · have HF : Hid (ED) := hide (HED.out.2 fun b hb => HEA.out.ok b (by omega))
      go_wp2_with fail
      go_ret
      exact ⟨true, rfl, by simp only [true_iff]; exact HF.out, HEA.out.be⟩
/-- what newest answers -/
def NewP (w : World) (P : List (Option Rc)) (e : Ending) (w' : World) : Prop := ((∃ r, Newest P r ∧ e = .returned (.tuple #[.agg (recI r), .bool true])) ∨ ((∀ r, ¬ Newest P r) ∧ e = .returned (.tuple #[.agg zrec, .bool false]))) ∧ Below w.heap.size w w'
structure NwW (w wr : World) (P : List (Option Rc)) (i : Nat) : Prop where
  be : Below w.heap.size w wr
  res : wr.heap[w.heap.size]? = some (.cells zrec 90 (0, 0))
  no : ∀ (j : Nat) (r : Rc), j < i → P[j]? = some (some r) → ¬ EndAt P r.num
theorem NwW.below {w x y : World} {P : List (Option Rc)} {i : Nat} (h : NwW w x P i) (hb : Below x.heap.size x y) : NwW w y P i :=
  ⟨h.be.trans (hb.mono h.be.size), (hb.block _ (Array.getElem?_eq_some_iff.1 h.res).1).trans h.res, h.no⟩
set_option maxHeartbeats 2000000 in
theorem hnew_any {w : World} {g : Nat} {P : List (Option Rc)} (h : HPl w g P) (h1 : 1 ≤ P.length) (h2 : P.length ≤ 4) (hnm : ∀ (i : Nat) (r : Rc), P[i]? = some (some r) → r.num < 4294967296) :
    Calls Try.prog 39 #[.slice (some ⟨g, 0, none⟩) P.length P.length] w (NewP w P) := by
  have HGL := hide ((Array.getElem?_eq_some_iff.1 h).1)
  have HH := hide h
  have HNM := hide hnm
  have HEN : Hid (∀ x, Below w.heap.size w x → ∀ m, m < 4294967296 → _) := hide fun x (hx : Below w.heap.size w x) m (hm : m < 4294967296) => hend_any (h.below hx (Array.getElem?_eq_some_iff.1 h).1) h1 h2 m hm
  have HW0 : Hid (NwW w (w.alloc (.cells zrec 90)) P 0) := hide ⟨(Below.refl _ _).alloc (Nat.le_refl _) _, Go.heap_alloc_new _ _, fun j r hj => by omega⟩
  clear h h1 hnm
  generalize hn : P.length = n at *
  have HN := hide hn
  clear hn
  go_enter Try.func39, Try.ntmps39
  go_wp2_with fail
  go_loopw [8] (fun x wr => ∃ i : Nat, i ≤ n ∧ x = .int .i64 (i : Int) ∧ NwW w wr P i) (fun x _ => n - (intOf x).toNat)
  case atStart => exact ⟨0, Nat.zero_le _, rfl, HW0.out⟩
  case round =>
    clear HW0
    obtain ⟨i, hi, rfl, hea⟩ := hrel
    have HEA := hide hea
    clear hea
    by_cases hlt : i < n
    · obtain ⟨p, hp⟩ : ∃ p, P[i]? = some p := ⟨_, List.getElem?_eq_getElem (by rw [HN.out]; exact hlt)⟩
      have HR : Hid (wr.rangeAt g (i * 12) (plV p)) := hide ((HH.out.below HEA.out.be HGL.out).range hp)
      obtain ⟨num, age, slots, c0, c1, c2, st, z0, z1, z2, z3, f, e1, e2, e3, e4⟩ := plV_lit p
      rw [e1] at HR
      have hil : (i : Int) < (n : Int) := by omega
      have HZ : Hid ((wr.alloc (.cells zplc 135)).heap[wr.heap.size]? = some (.cells zplc 135 (0, 0))) := hide (Go.heap_alloc_new _ _)
      have HBN : Hid (NwW w (wr.alloc (.cells #[.int .u32 (num : Int), .int .i64 (age : Int), .int .i64 (slots : Int), .int .i64 c0, .int .i64 c1, .int .i64 c2, .int .i64 st, .int .i64 z0, .int .i64 z1, .int .i64 z2, .int .i64 z3, .bool f] 135)) P i ∧ (wr.alloc (.cells #[.int .u32 (num : Int), .int .i64 (age : Int), .int .i64 (slots : Int), .int .i64 c0, .int .i64 c1, .int .i64 c2, .int .i64 st, .int .i64 z0, .int .i64 z1, .int .i64 z2, .int .i64 z3, .bool f] 135)).heap[wr.heap.size]? = some (.cells #[.int .u32 (num : Int), .int .i64 (age : Int), .int .i64 (slots : Int), .int .i64 c0, .int .i64 c1, .int .i64 c2, .int .i64 st, .int .i64 z0, .int .i64 z1, .int .i64 z2, .int .i64 z3, .bool f] 135 (0, 0)) ∧ w.heap.size < wr.heap.size) := hide ⟨HEA.out.below ((Below.refl _ _).alloc (Nat.le_refl _) _), Go.heap_alloc_new _ _, (Array.getElem?_eq_some_iff.1 HEA.out.res).1⟩
      have HNX : Hid (∀ wy, NwW w wy P i → (f = true → ¬ EndAt P num) → NwW w wy P (i + 1)) := hide fun wy hy hf => ⟨hy.be, hy.res, fun j r hj hr => by
        by_cases ej : j = i
        · subst ej
          rw [hp] at hr
          have hr := Option.some.inj hr
          subst hr
          have q := hf (by rw [← e3]; rfl)
          rw [← e2] at q
          exact q
        · exact hy.no j r (by omega) hr⟩
      have HYE : Hid (∀ wy, NwW w wy P i → f = true → EndAt P num → ∃ r, Newest P r ∧ recI r = #[.int .u32 (num : Int), .int .i64 (age : Int), .int .i64 (slots : Int), .int .i64 c0, .int .i64 c1, .int .i64 c2, .int .i64 st, .int .i64 z0, .int .i64 z1, .int .i64 z2, .int .i64 z3]) := hide fun wy hy hf hE => by
        obtain ⟨r, rfl⟩ : ∃ r, p = some r := Option.isSome_iff_exists.1 (by rw [e3, hf])
        exact ⟨r, ⟨i, hp, by rw [← e2] at hE; exact hE, hy.no⟩, e4⟩
      have HLT : Hid (f = true → num < 4294967296) := hide fun hf => by
        obtain ⟨r, rfl⟩ : ∃ r, p = some r := Option.isSome_iff_exists.1 (by rw [e3, hf])
        rw [← e2]; exact HNM.out i r hp
      clear e1 e2 e3 e4 hp HEA
      cases f with
      | false =>
        go_wp2_with (first
          | refine wpList_load_mid rfl 135 (.tmp 10) rfl g (i * 12) rfl _ _ HR.out Try.underlying135 rfl placeSize ?_
          | (refine wpList_store_row rfl 135 (.tmp 5) (.tmp 11) rfl wr.heap.size _ rfl rfl 135 zplc HZ.out placeSize rfl (by first | kernel_rfl | simp [Value.oneCell']) ?_; rw [World.setRow_alloc_new]))
        go_roundw
        case rel => exact ⟨i + 1, by omega, by go_num, HNX.out _ HBN.out.1 (fun h => by first | (cases h; done) | exact h.elim)⟩
        case measure => simp [intOf]; omega
      | true =>
        have HCE := hide (HEN.out _ HBN.out.1.be num (HLT.out rfl))
        go_wp2_with (first
          | refine wpList_load_mid rfl 135 (.tmp 10) rfl g (i * 12) rfl _ _ HR.out Try.underlying135 rfl placeSize ?_
          | (refine wpList_store_row rfl 135 (.tmp 5) (.tmp 11) rfl wr.heap.size _ rfl rfl 135 zplc HZ.out placeSize rfl (by first | kernel_rfl | simp [Value.oneCell']) ?_; rw [World.setRow_alloc_new])
          | (refine wpList_load_mid rfl 90 (.tmp 21) rfl wr.heap.size 0 rfl [.int .u32 (num : Int), .int .i64 (age : Int), .int .i64 (slots : Int), .int .i64 c0, .int .i64 c1, .int .i64 c2, .int .i64 st, .int .i64 z0, .int .i64 z1, .int .i64 z2, .int .i64 z3] _ HRG.out Try.underlying90 rfl recSize ?_)
          | (refine wpList_store_row rfl 90 (.tmp 2) (.tmp 22) rfl w.heap.size #[.int .u32 (num : Int), .int .i64 (age : Int), .int .i64 (slots : Int), .int .i64 c0, .int .i64 c1, .int .i64 c2, .int .i64 st, .int .i64 z0, .int .i64 z1, .int .i64 z2, .int .i64 z3] rfl rfl 90 zrec HBY.out.res recSize rfl (by first | kernel_rfl | simp [Value.oneCell']) ?_)
          | (go_at_call 68; refine HCE.out.mono ?_; rintro e wy ⟨b, rfl, hb, hby⟩; have HBY := hide (HBN.out.1.below hby); have HRY := hide ((hby.block _ (Array.getElem?_eq_some_iff.1 HBN.out.2.1).1).trans HBN.out.2.1); have HEB := hide hb; have HRG : Hid (wy.rangeAt wr.heap.size 0 [.int .u32 (num : Int), .int .i64 (age : Int), .int .i64 (slots : Int), .int .i64 c0, .int .i64 c1, .int .i64 c2, .int .i64 st, .int .i64 z0, .int .i64 z1, .int .i64 z2, .int .i64 z3]) := hide (rangeTake HRY.out rfl); clear hb hby HCE; cases b))
        · go_roundw
          case rel => exact ⟨i + 1, by omega, by go_num, HNX.out _ HBY.out (fun _ hE => by have := HEB.out.2 hE; first | (cases this; done) | exact this.elim)⟩
          case measure => simp [intOf]; omega
        · obtain ⟨r, hr1, hr2⟩ := HYE.out _ HBY.out (by first | trivial | rfl) (HEB.out.1 (by first | trivial | rfl))
          have HF := hide (setRow_heap _ w.heap.size zrec #[.int .u32 (num : Int), .int .i64 (age : Int), .int .i64 (slots : Int), .int .i64 c0, .int .i64 c1, .int .i64 c2, .int .i64 st, .int .i64 z0, .int .i64 z1, .int .i64 z2, .int .i64 z3] 90 (0, 0) HBY.out.res)
          refine bodyPost_ret (results_row_tmp1 (fn := Try.f39) (p := 2) (u := 3) (ty := 90) (by kernel_rfl) _ _ w.heap.size 90 _ (0, 0) _ rfl HF.out Try.underlying90 rfl recSize) rfl ⟨.inl ⟨r, hr1, by rw [hr2]; rfl⟩, HBY.out.be.trans ⟨rfl, rfl, rfl, Nat.le_of_eq (setRow_size ..).symm, fun k hk => setRow_other _ _ _ _ (by omega)⟩⟩
    · have HF : Hid (∀ r, ¬ Newest P r) := hide fun r ⟨j, hj1, hj2, _⟩ => HEA.out.no j r (by have := (List.getElem?_eq_some_iff.1 hj1).1; rw [HN.out] at this; omega) hj1 hj2
      go_wp2_with (refine wpList_store_row rfl 90 (.tmp 2) (.tmp 24) rfl w.heap.size zrec rfl rfl 90 zrec HEA.out.res recSize rfl (by first | kernel_rfl | simp [Value.oneCell']) ?_)
      have HG := hide (setRow_heap _ w.heap.size zrec zrec 90 (0, 0) HEA.out.res)
      refine bodyPost_ret (results_row_tmp1 (fn := Try.f39) (p := 2) (u := 3) (ty := 90) (by kernel_rfl) _ _ w.heap.size 90 _ (0, 0) _ rfl HG.out Try.underlying90 rfl recSize) rfl ⟨.inr ⟨HF.out, rfl⟩, HEA.out.be.trans ⟨rfl, rfl, rfl, Nat.le_of_eq (setRow_size ..).symm, fun k hk => setRow_other _ _ _ _ (by omega)⟩⟩
end Go.Proofs.Ytlkccencilhacaa
namespace Go.Proofs.Ytlkccencilhacaa
open Go.RowKit Go.Sort
open Num
set_option linter.unusedVariables false
set_option linter.unusedSimpArgs false
set_option maxRecDepth 20000

set_option maxHeartbeats 2000000 in
theorem fol_any (w : World) (num age slots : Nat) (c0 c1 c2 st z0 z1 z2 z3 : Int) (num' age' slots' : Nat) (c0' c1' c2' : Int) (s' : Nat) (z0' z1' z2' z3' : Int) (h1 : 1 ≤ slots) (h2 : slots ≤ 16) (h3 : age' < 65536) (h4 : s' < 65536) :
    Calls Try.prog 70 #[.agg (recV num age slots c0 c1 c2 st z0 z1 z2 z3), .agg (recV num' age' slots' c0' c1' c2' (s' : Int) z0' z1' z2' z3')] w (BoolP w (age = min (age' + 1) 65535 ∧ st = (((s' + 4) % slots : Nat) : Int))) := by
  have HB : Hid (∀ k, Below w.heap.size w (((w.alloc (.cells (recV num age slots c0 c1 c2 st z0 z1 z2 z3) 90)).alloc (.cells (recV num' age' slots' c0' c1' c2' (s' : Int) z0' z1' z2' z3') 90)).drewN k)) := hide fun k => by
    have hb := ((Below.refl w.heap.size w).alloc (Nat.le_refl _) (.cells (recV num age slots c0 c1 c2 st z0 z1 z2 z3) 90)).alloc (by simp) (.cells (recV num' age' slots' c0' c1' c2' (s' : Int) z0' z1' z2' z3') 90)
    exact hb.trans (((Qt.refl _).drewN k).2.mono hb.size)
  have hrow1 : ((w.alloc (.cells (recV num age slots c0 c1 c2 st z0 z1 z2 z3) 90)).alloc (.cells (recV num' age' slots' c0' c1' c2' (s' : Int) z0' z1' z2' z3') 90)).heap[w.heap.size]? = some (.cells (recV num age slots c0 c1 c2 st z0 z1 z2 z3) 90 (0, 0)) := by
    rw [Below.heap_alloc _ _ _ (by simp)]; exact Go.heap_alloc_new _ _
  have hrow2 : ((w.alloc (.cells (recV num age slots c0 c1 c2 st z0 z1 z2 z3) 90)).alloc (.cells (recV num' age' slots' c0' c1' c2' (s' : Int) z0' z1' z2' z3') 90)).heap[w.heap.size + 1]? = some (.cells (recV num' age' slots' c0' c1' c2' (s' : Int) z0' z1' z2' z3') 90 (0, 0)) := by
    have := Go.heap_alloc_new (w.alloc (.cells (recV num age slots c0 c1 c2 st z0 z1 z2 z3) 90)) (.cells (recV num' age' slots' c0' c1' c2' (s' : Int) z0' z1' z2' z3') 90)
    rw [World.size_alloc] at this
    exact this
  generalize hw1 : (w.alloc (.cells (recV num age slots c0 c1 c2 st z0 z1 z2 z3) 90)).alloc (.cells (recV num' age' slots' c0' c1' c2' (s' : Int) z0' z1' z2' z3') 90) = w1 at *
  have d1 : w1.cell? ⟨w.heap.size, 1, none⟩ = some (.int .i64 (age : Int)) := cell_of_row _ _ _ _ _ _ hrow1
  have d2 : w1.cell? ⟨w.heap.size, 2, none⟩ = some (.int .i64 (slots : Int)) := cell_of_row _ _ _ _ _ _ hrow1
  have d6 : w1.cell? ⟨w.heap.size, 6, none⟩ = some (.int .i64 st) := cell_of_row _ _ _ _ _ _ hrow1
  have e1 : w1.cell? ⟨w.heap.size + 1, 1, none⟩ = some (.int .i64 (age' : Int)) := cell_of_row _ _ _ _ _ _ hrow2
  have e6 : w1.cell? ⟨w.heap.size + 1, 6, none⟩ = some (.int .i64 (s' : Int)) := cell_of_row _ _ _ _ _ _ hrow2
  clear hrow1 hrow2
  have a0 : IntKind.i64.wrap ((age' : Int) + 1) = (age' : Int) + 1 := by simp [IntKind.wrap, IntKind.bits, IntKind.signed]; omega
  have a2 : ¬ (slots : Int) = 0 := by omega
  have a3 : IntKind.i64.wrap ((s' : Int) + 4) = (s' : Int) + 4 := by simp [IntKind.wrap, IntKind.bits, IntKind.signed]; omega
  have a4 : ((s' : Int) + 4).tmod (slots : Int) = (((s' + 4) % slots : Nat) : Int) := by rw [Int.tmod_eq_emod_of_nonneg (by omega)]; simp
  have hrr : (((s' + 4) % slots : Nat) : Int) < 16 := by have := Nat.mod_lt (s' + 4) (show 0 < slots by omega); omega
  have hrr0 : 0 ≤ (((s' + 4) % slots : Nat) : Int) := by omega
  have a5 : ((s' : Int) + 4) % (slots : Int) = (((s' + 4) % slots : Nat) : Int) := by simp
  have HMN : Hid (∀ x : Int, x = min ((age' : Int) + 1) 65535 → (age = min (age' + 1) 65535 ↔ (age : Int) = x)) := hide fun x hx => by omega
  generalize (((s' + 4) % slots : Nat) : Int) = rr at *
  have a6 : IntKind.i64.wrap rr = rr := by simp [IntKind.wrap, IntKind.bits, IntKind.signed]; omega
  have a7 : IntKind.i64.wrap (((s' : Int) + 4) % (slots : Int)) = rr := by rw [a5, a6]
  have a8 : ¬ slots = 0 := by omega
  obtain ⟨mm, hmm⟩ : ∃ mm : Int, min ((age' : Int) + 1) 65535 = mm := ⟨_, rfl⟩
  have HM2 : Hid (age = min (age' + 1) 65535 ↔ (age : Int) = mm) := hide (HMN.out mm hmm.symm)
  clear HMN h1 h2 h3 h4
  generalize (age = min (age' + 1) 65535) = PA at *
  by_cases ha : (age : Int) = mm
  · have b0 : ((age : Int) == mm) = true := by simp [ha]
    have HA : Hid (PA) := hide (HM2.out.2 ha)
    clear ha
    go_enter Try.func70, Try.ntmps70
    go_wp2_with fail
    try clear hw1
    go_quiet (fail)
    go_wp2_with fail
    go_ret
    exact ⟨_, rfl, by simp [HA.out, b0], HB.out _⟩
  · have b0 : ((age : Int) == mm) = false := by simp [ha]
    have HA : Hid (¬ PA) := hide fun h => ha (HM2.out.1 h)
    clear ha
    go_enter Try.func70, Try.ntmps70
    go_wp2_with fail
    try clear hw1
    go_quiet (fail)
    go_wp2_with fail
    go_ret
    exact ⟨_, rfl, by simp [HA.out, b0], HB.out _⟩
end Go.Proofs.Ytlkccencilhacaa
namespace Go.Proofs.Ytlkccencilhacaa
open Go.RowKit
set_option linter.unusedVariables false
set_option linter.unusedSimpArgs false
set_option maxRecDepth 20000

section
/-- an append: v the list ahead, v' behind: in new memory, or in place -/
def UponC (w w' : World) (v v' : Value) : Prop := (v'.ownBlock = some w.heap.size ∧ w.grownBy w' none) ∨ (∃ g, v.ownBlock = some g ∧ v'.ownBlock = some g ∧ w.grownBy w' (some g))
theorem UponC.block {w w' : World} {v v' : Value} (h : UponC w w' v v') : ∀ b, b < w.heap.size → v.ownBlock ≠ some b → w'.heap[b]? = w.heap[b]? := fun b hb hne => by
  rcases h with ⟨_, h⟩ | ⟨g, h1, _, h⟩
  · exact h.block b hb (by simp)
  · exact h.block b hb (by rw [← h1]; exact Ne.symm hne)
theorem UponC.size {w w' : World} {v v' : Value} (h : UponC w w' v v') : w.heap.size ≤ w'.heap.size := by rcases h with ⟨_, h⟩ | ⟨g, _, _, h⟩ <;> exact h.size
theorem UponC.same {w w' : World} {v v' : Value} (h : UponC w w' v v') : w'.os = w.os ∧ w'.tape = w.tape ∧ w'.output = w.output := by rcases h with ⟨_, h⟩ | ⟨g, _, _, h⟩ <;> exact ⟨h.os, h.tape, h.output⟩
theorem UponC.loc {w w' : World} {v v' : Value} (h : UponC w w' v v') : ∀ b, v'.ownBlock = some b → v.ownBlock = some b ∨ b = w.heap.size := fun b hb => by
  rcases h with ⟨e, _⟩ | ⟨g, e1, e2, _⟩
  · rw [e] at hb; exact .inr (Option.some.inj hb).symm
  · rw [e2] at hb; rw [e1]; exact .inl hb
theorem run_appendC {P : Program} (w : World) (t ty e : TypeId) (i : TypeInfo) (z : Value) (size bytes : Nat) (ht : P.underlying t = some (.slice e)) (hi : P.info? e = some i) (hz : i.zero = some z) (hsize : i.size = size) (hby : i.bytes = bytes) (hzs : z.cells.size = size) (hsz : 0 < size)
    (v : Value) (n : Nat) (xs : List Value) (hown : w.ownsRow 0 e size v n xs) (a : Addr) (m c : Nat) (news : List Value) (hl : news.length = m * size) (hm : 0 < m) (hnews : ∀ j u, news[j]? = some u → w.cell? (a.add j) = some u) (h1 : ∀ u ∈ news, u.oneCell' = true) (h63 : n + m ≤ maxLen) (hbytes : ((n + m) + (n + m) / 4 + 192) * bytes ≤ 281474976710656) :
    ∃ v' w', (Builtin.append_ #[t, t] ty #[v, .slice (some a) m c]).run P w = .ok v' w' ∧ w'.ownsRow 0 e size v' (n + m) (xs ++ news) ∧ UponC w w' v v' := by
  obtain ⟨v', w', hr, ho, hg, -⟩ := run_append_own_wide (P := P) w 0 t ty e i z size bytes ht hi hz hsize hby hzs hsz v n xs hown a m c news hl hnews h1 h63 hbytes (Nat.zero_le _)
  refine ⟨v', w', hr, ho, ?_⟩
  have h63' : n + m ≤ 9223372036854775807 := by simp only [maxLen] at h63; omega
  subst hsize
  rcases hown.2 with ⟨rfl, rfl⟩ | ⟨g, cap, cur, rfl, hbg, hgc, hnc, hcm, hcs, htake⟩
  · have hr2 := run_append_nil (P := P) w t ty e i z ht hi hz a m c news hl hnews hm (by omega) (by
      rw [hby]
      exact Nat.le_trans (Nat.mul_le_mul_right _ (by omega)) hbytes)
    rw [hr] at hr2
    injection hr2 with e1 e2
    subst e1 e2
    exact .inl ⟨rfl, ⟨rfl, rfl, rfl, by simp, fun k hk _ => Go.heap_alloc_old w.drew _ hk⟩⟩
  · by_cases hroom : n + m ≤ cap
    · have hr2 := run_append_room (P := P) w t ty e i ht hi g n cap cur hgc a m c news hl hnews h1 hroom (by rw [hl, hcs, ← Nat.add_mul]; exact Nat.mul_le_mul_right _ hroom)
      rw [hr] at hr2
      injection hr2 with e1 e2
      exact .inr ⟨g, rfl, by rw [e1]; rfl, hg⟩
    · have holds : ∀ j u, xs[j]? = some u → w.cell? ((⟨g, 0, none⟩ : Addr).add j) = some u := hown.cells (g := g) rfl
      have hr2 := run_append_grow (P := P) w t ty e i z ht hi hz ⟨g, 0, none⟩ n cap xs hown.1 holds a m c news hl hnews (by omega) (by omega) (by rw [hby]; exact growslice_fits_wide (by omega) hbytes)
      rw [hr] at hr2
      injection hr2 with e1 e2
      subst e1 e2
      exact .inl ⟨rfl, ⟨rfl, rfl, rfl, by simp, fun k hk _ => Go.heap_alloc_old w.drew _ hk⟩⟩
theorem wpList_appendC {P : Program} (w : World) {ops : Array Oper} {rest : List Oper} {o : Oper} {a : Act} {Q : Exit → Act → World → Prop} (hgd : o.guard = none) (s x : Operand) (t : TypeId)
    (ho : o.op = .call { callee := .builtin .append, args := #[s, x], argTypes := #[t, t] })
    (e : TypeId) (i : TypeInfo) (z : Value) (size bytes : Nat) (ht : P.underlying t = some (.slice e)) (hi : P.info? e = some i) (hz : i.zero = some z) (hsize : i.size = size) (hby : i.bytes = bytes) (hzs : z.cells.size = size) (hsz : 0 < size)
    (v : Value) (n : Nat) (xs : List Value) (hs : a.eval s = v) (hown : w.ownsRow 0 e size v n xs) (ad : Addr) (m c : Nat) (news : List Value) (hx : a.eval x = .slice (some ad) m c) (hl : news.length = m * size) (hm : 0 < m) (hnews : ∀ j u, news[j]? = some u → w.cell? (ad.add j) = some u) (h1 : ∀ u ∈ news, u.oneCell' = true) (h63 : n + m ≤ maxLen) (hbytes : ((n + m) + (n + m) / 4 + 192) * bytes ≤ 281474976710656)
    (h : ∀ v' w', w'.ownsRow 0 e size v' (n + m) (xs ++ news) → UponC w w' v v' → wpList P ops Q rest (a.put o.dst v') w') :
    wpList P ops Q (o :: rest) a w := by
  refine wpList_plain hgd fun K hK => ?_
  obtain ⟨v', w', hr, h2, h3⟩ := run_appendC (P := P) w t o.type e i z size bytes ht hi hz hsize hby hzs hsz v n xs hown ad m c news hl hm hnews h1 h63 hbytes
  unfold Oper.wp execOp
  simp only [ho, resolve, invoke, builtin, Sem.run_bind, Sem.run_pure, Result.andThen_ok, List.map_toArray, List.map_cons, List.map_nil, hs, hx, hr]
  exact hK _ _ (h v' w' h2 h3)
end
end Go.Proofs.Ytlkccencilhacaa
namespace Go.Proofs.Ytlkccencilhacaa
open Go.RowKit Go.Sort
open Num
set_option linter.unusedVariables false
set_option linter.unusedSimpArgs false
set_option maxRecDepth 20000

def flR (rs : List Rc) : List Value := rs.flatMap fun r => (recI r).toList
theorem recI_len (r : Rc) : (recI r).toList.length = 11 := by simp [recI]
theorem flR_len : ∀ rs : List Rc, (flR rs).length = rs.length * 11
  | [] => rfl
  | r :: rs => by
    have := flR_len rs
    unfold flR at this ⊢
    rw [List.flatMap_cons, List.length_append, this, recI_len, List.length_cons]
    omega
theorem flR_get : ∀ (rs : List Rc) (i j : Nat) (r : Rc), rs[i]? = some r → j < 11 → (flR rs)[i * 11 + j]? = (recI r).toList[j]?
  | [], i, j, r, h, _ => by simp at h
  | q :: rs, 0, j, r, h, hj => by
    simp only [List.getElem?_cons_zero, Option.some.injEq] at h
    subst h
    unfold flR
    rw [List.flatMap_cons, Nat.zero_mul, Nat.zero_add, List.getElem?_append_left (by rw [recI_len]; exact hj)]
  | q :: rs, i + 1, j, r, h, hj => by
    have ih := flR_get rs i j r (by simpa using h) hj
    unfold flR at ih ⊢
    rw [List.flatMap_cons, List.getElem?_append_right (by rw [recI_len]; omega), recI_len, show (i + 1) * 11 + j - 11 = i * 11 + j by omega]
    exact ih
/-- records in a row -/
def RRow (w : World) (v : Value) (rs : List Rc) : Prop := w.ownsRow 0 90 11 v rs.length (flR rs)
theorem RRow.range {w : World} {g cap : Nat} {rs : List Rc} (h : RRow w (.slice (some ⟨g, 0, none⟩) rs.length cap) rs) {i : Nat} {r : Rc} (hr : rs[i]? = some r) : w.rangeAt g (i * 11) (recI r).toList := by
  intro j v hj
  have hjl : j < 11 := by rw [← recI_len r]; exact (List.getElem?_eq_some_iff.1 hj).1
  have hi : i < rs.length := (List.getElem?_eq_some_iff.1 hr).1
  rw [h.cellAt (i * 11 + j) (by omega), flR_get rs i j r hr hjl]
  exact hj
/-- what is known of a record that was read -/
structure GdR (r : Rc) (slots : Nat) : Prop where
  n : r.num < 4294967296
  a : r.age < 65536
  s : r.slots = slots
  s0 : 0 ≤ r.st
  s1 : r.st < 65536
  c : r.C.length = 4
theorem recI_lit (r : Rc) (h : r.C.length = 4) : recI r = recV r.num r.age r.slots r.c0 r.c1 r.c2 r.st (r.C.getD 0 0) (r.C.getD 1 0) (r.C.getD 2 0) (r.C.getD 3 0) := rfl
/-- what run answers -/
def RunP (w : World) (P : List (Option Rc)) (r : Rc) (e : Ending) (w' : World) : Prop := ((∃ rs v, Run P r rs ∧ e = .returned (.tuple #[v, .bool true]) ∧ RRow w' v rs ∧ ∀ b, v.ownBlock = some b → w.heap.size ≤ b) ∨ (RunBad P r ∧ e = .returned (.tuple #[.slice none 0 0, .bool false]))) ∧ Below w.heap.size w w'
/-- while run gathers -/
structure RuW (w wr : World) (P : List (Option Rc)) (r : Rc) (rs : List Rc) (v : Value) : Prop where
  be : Below w.heap.size w wr
  box : wr.heap[w.heap.size]? = some (.cells (recI r) 90 (0, 0))
  row : RRow wr v rs
  own : ∀ b, v.ownBlock = some b → w.heap.size < b
  pl : ∀ k q, rs[k]? = some q → (k = 0 → q = r) ∧ (0 < k → pAt P (wd r.num k) = some q)
  fo : ∀ k q q', rs[k]? = some q → rs[k + 1]? = some q' → Fol q q'
theorem RuW.below {w x y : World} {P : List (Option Rc)} {r : Rc} {rs : List Rc} {v : Value} (h : RuW w x P r rs v) (hb : Below x.heap.size x y) : RuW w y P r rs v := by
  refine ⟨h.be.trans (hb.mono h.be.size), (hb.block _ (Array.getElem?_eq_some_iff.1 h.box).1).trans h.box, rowKept h.row fun g hg => ?_, h.own, h.pl, h.fo⟩
  obtain ⟨cs, hc⟩ := rowCells h.row hg
  exact hb.block _ (Array.getElem?_eq_some_iff.1 hc).1
theorem RuW.more {w x w6 : World} {P : List (Option Rc)} {r q : Rc} {rs : List Rc} {v v6 : Value} {o : Obj} (h : RuW w x P r rs v) (hl : 1 ≤ rs.length) (ho : w6.ownsRow 0 90 11 v6 (rs.length + 1) (flR rs ++ (recI q).toList)) (hu : UponC (x.alloc o) w6 v v6) (hq : pAt P (wd r.num rs.length) = some q) (hf : ∀ q1, rs[rs.length - 1]? = some q1 → Fol q1 q) : RuW w w6 P r (rs ++ [q]) v6 := by
  have hb0 := (Below.refl x.heap.size x).alloc (Nat.le_refl _) o
  have hb : Below (w.heap.size + 1) x w6 := by
    obtain ⟨e1, e2, e3⟩ := hu.same
    refine ⟨e1, e2, e3, Nat.le_trans (by simp) hu.size, fun b hb => ?_⟩
    have hbx := (Array.getElem?_eq_some_iff.1 h.box).1
    rw [hu.block b (by simp; omega) (fun e => by have := h.own b e; omega)]
    exact hb0.block b (by omega)
  refine ⟨h.be.trans (hb.mono (by omega)), (hb.block _ (by omega)).trans h.box, by unfold RRow; rw [List.length_append]; simpa [flR] using ho, fun b e => ?_, fun k q' hk => ?_, fun k a b hka hkb => ?_⟩
  · rcases hu.loc b e with h1 | h1
    · exact h.own b h1
    · have hbx := (Array.getElem?_eq_some_iff.1 h.box).1
      rw [h1]; simp; omega
  · by_cases e : k < rs.length
    · rw [List.getElem?_append_left e] at hk
      exact h.pl k q' hk
    · rw [List.getElem?_append_right (by omega)] at hk
      have hk0 : k = rs.length := by
        rcases Nat.lt_or_ge rs.length k with h9 | h9
        · rw [List.getElem?_eq_none (by simp; omega)] at hk; cases hk
        · omega
      subst hk0
      simp at hk
      subst hk
      exact ⟨fun h => by omega, fun _ => hq⟩
  · by_cases e : k + 1 < rs.length
    · rw [List.getElem?_append_left (by omega)] at hka
      rw [List.getElem?_append_left e] at hkb
      exact h.fo k a b hka hkb
    · have hk0 : k + 1 = rs.length := by
        rcases Nat.lt_or_ge rs.length (k + 1) with h9 | h9
        · rw [List.getElem?_eq_none (by simp; omega)] at hkb; cases hkb
        · omega
      rw [List.getElem?_append_left (by omega)] at hka
      rw [List.getElem?_append_right (by omega), show k + 1 - rs.length = 0 by omega] at hkb
      simp at hkb
      subst hkb
      exact hf a (by rw [← hk0]; simpa using hka)
theorem r_pickC (ev : Operand → Value) (w : World) (o : Oper) (t s : Nat) (ho : o.op = .pick (.tmp t) (.const (.bool true)) (.tmp s)) (h : ev (.tmp t) = .bool true) (h3 : ev (.const (.bool true)) = .bool true) : (execOp ev o).run Try.prog w = .ok (.value (.bool true)) w := by
  cases o
  cases ho
  simp [execOp, h, h3, go_sem]
theorem r_fldP (ev : Operand → Value) (w : World) (o : Oper) (t b k : Nat) (hk : k = 0 ∨ k = 1) (ho : o.op = .fieldAddr 135 (.tmp t) k) (h : ev (.tmp t) = .pointer (some ⟨b, 0, none⟩)) : (execOp ev o).run Try.prog w = .ok (.value (.pointer (some ⟨b, k * 11, none⟩))) w := by
  cases o
  cases ho
  rcases hk with rfl | rfl <;> simp [execOp, h, go_sem]
theorem r_ldB (ev : Operand → Value) (w : World) (o : Oper) (t b k : Nat) (v : Bool) (ho : o.op = .load 4 (.tmp t)) (h : ev (.tmp t) = .pointer (some ⟨b, k, none⟩)) (hc : w.cell? ⟨b, k, none⟩ = some (.bool v)) : (execOp ev o).run Try.prog w = .ok (.value (.bool v)) w := by
  cases o
  cases ho
  simp [execOp, h, hc, go_sem]
theorem r_not (ev : Operand → Value) (w : World) (o : Oper) (t : Nat) (v : Bool) (ho : o.op = .unOp .not 4 (.tmp t)) (h : ev (.tmp t) = .bool v) : (execOp ev o).run Try.prog w = .ok (.value (.bool (!v))) w := by
  cases o
  cases ho
  simp [execOp, h, go_sem]
theorem r_sub1 (ev : Operand → Value) (w : World) (o : Oper) (t k : Nat) (ho : o.op = .binOp .sub 3 (.tmp t) (.const (.int .i64 1)) 3) (h : ev (.tmp t) = .int .i64 (k : Int)) (hc : ev (.const (.int .i64 1)) = .int .i64 1) (hk : 1 ≤ k) (hk2 : k ≤ 100) : (execOp ev o).run Try.prog w = .ok (.value (.int .i64 ((k - 1 : Nat) : Int))) w := by
  cases o
  cases ho
  have e : (k : Int) - 1 = ((k - 1 : Nat) : Int) := by omega
  have hw : IntKind.i64.wrap ((k - 1 : Nat) : Int) = ((k - 1 : Nat) : Int) := by simp [IntKind.wrap, IntKind.bits, IntKind.signed]; omega
  simp [execOp, h, hc, go_sem, e, hw]
theorem r_idxR (ev : Operand → Value) (w : World) (o : Oper) (t s b n c i : Nat) (ho : o.op = .indexAddr 93 (.tmp t) (.tmp s)) (h : ev (.tmp t) = .slice (some ⟨b, 0, none⟩) n c) (h2 : ev (.tmp s) = .int .i64 (i : Int)) (hi : i < n) : (execOp ev o).run Try.prog w = .ok (.value (.pointer (some ⟨b, i * 11, none⟩))) w := by
  cases o
  cases ho
  have hi2 : (i : Int) < (n : Int) := by omega
  simp [execOp, h, h2, go_sem, hi2, hi]
theorem r_callF (ev : Operand → Value) (w : World) (o : Oper) (x y : Value) (ho : o.op = .call { callee := .value (.func 70), args := #[.tmp 38, .tmp 40], argTypes := #[90, 90] }) (h1 : ev (.tmp 38) = x) (h2 : ev (.tmp 40) = y) (h3 : ev (.func 70) = .func (.func 70) #[] #[]) : (execOp ev o).run Try.prog w = .ok (.enter 70 #[x, y]) w := by
  cases o
  cases ho
  simp [execOp, h1, h2, h3, go_sem]
theorem r_pickT (ev : Operand → Value) (w : World) (o : Oper) (t s : Nat) (x : Bool) (ho : o.op = .pick (.tmp t) (.const (.bool true)) (.tmp s)) (h : ev (.tmp t) = .bool false) (h2 : ev (.tmp s) = .bool x) (h3 : ev (.const (.bool true)) = .bool true) : (execOp ev o).run Try.prog w = .ok (.value (.bool x)) w := by
  cases o
  cases ho
  simp [execOp, h, h2, h3, go_sem]
theorem folR_any (w : World) (q1 q : Rc) (slots0 : Nat) (h1 : 1 ≤ slots0) (h2 : slots0 ≤ 16) (g1 : GdR q1 slots0) (g2 : GdR q slots0) : Calls Try.prog 70 #[.agg (recI q1), .agg (recI q)] w (BoolP w (Fol q1 q)) := by
  have hst : ((q.st.toNat : Nat) : Int) = q.st := by have := g2.s0; omega
  have h := fol_any w q1.num q1.age q1.slots q1.c0 q1.c1 q1.c2 q1.st (q1.C.getD 0 0) (q1.C.getD 1 0) (q1.C.getD 2 0) (q1.C.getD 3 0) q.num q.age q.slots q.c0 q.c1 q.c2 q.st.toNat (q.C.getD 0 0) (q.C.getD 1 0) (q.C.getD 2 0) (q.C.getD 3 0) (by rw [g1.s]; exact h1) (by rw [g1.s]; exact h2) g2.a (by have := g2.s1; have := g2.s0; omega)
  rw [hst] at h
  refine h.mono ?_
  rintro e w' ⟨b, rfl, hb, hw⟩
  refine ⟨b, rfl, hb.trans ?_, hw⟩
  unfold Fol
  have e2 : (((q.st.toNat + 4) % q1.slots : Nat) : Int) = (q.st + 4) % (q1.slots : Int) := by rw [Int.natCast_emod, Int.natCast_add, hst]; rfl
  rw [e2]
theorem info_rec : (Try.prog.info? 90).map (fun i => (i.zero, i.size, i.bytes)) = some (some (.agg zrec), 11, 88) := by kernel_rfl
set_option maxHeartbeats 4000000 in
theorem hrun_any {w : World} {g slots0 : Nat} {P : List (Option Rc)} (h : HPl w g P) (h1 : 1 ≤ P.length) (h2 : P.length ≤ 4) (hs1 : 1 ≤ slots0) (hs2 : slots0 ≤ 16) (r : Rc) (hr : GdR r slots0) (hP : ∀ (i : Nat) (q : Rc), P[i]? = some (some q) → GdR q slots0) :
    Calls Try.prog 40 #[.slice (some ⟨g, 0, none⟩) P.length P.length, .agg (recI r)] w (RunP w P r) := by
  have HAT : Hid (∀ x, Below w.heap.size w x → ∀ m, m < 4294967296 → _) := hide fun x (hx : Below w.heap.size w x) m (hm : m < 4294967296) => hat_any (h.below hx (Array.getElem?_eq_some_iff.1 h).1) h1 h2 m hm
  have HPG : Hid (∀ m q, pAt P m = some q → GdR q slots0) := hide fun m q hq => by
    unfold pAt at hq
    rw [List.getD_eq_getElem?_getD, List.getElem?_eq_getElem (Nat.mod_lt _ (by omega))] at hq
    exact hP _ q (by rw [List.getElem?_eq_getElem (Nat.mod_lt _ (by omega))]; simpa using hq)
  have HR := hide hr
  have HW0 : Hid (RuW w ((w.alloc (.cells (recI r) 90)).alloc (.cells (recI r) 90)) P r [r] (.slice (some ⟨w.heap.size + 1, 0, none⟩) 1 1)) := hide (by
    have hb := ((Below.refl w.heap.size w).alloc (Nat.le_refl _) (.cells (recI r) 90)).alloc (by simp) (.cells (recI r) 90)
    have hnew := Go.heap_alloc_new (w.alloc (.cells (recI r) 90)) (.cells (recI r) 90)
    rw [World.size_alloc] at hnew
    refine ⟨hb, by rw [Below.heap_alloc _ _ _ (by simp)]; exact Go.heap_alloc_new _ _, ⟨by simp [flR, recI], .inr ⟨w.heap.size + 1, 1, recI r, rfl, Nat.zero_le _, hnew, Nat.le_refl _, by unfold maxLen; omega, by simp [recI], by simp [flR, recI]⟩⟩, fun b e => by simp [Value.ownBlock] at e; omega, fun k q hk => ?_, fun k q q' _ hk => by simp at hk⟩
    cases k with
    | zero => simp at hk; exact ⟨fun _ => hk.symm, fun h => absurd h (by omega)⟩
    | succ k => simp at hk)
  have HFIN : Hid (∀ rs : List Rc, (∀ k q, rs[k]? = some q → (k = 0 → q = r) ∧ (0 < k → pAt P (wd r.num k) = some q)) → (∀ k q q', rs[k]? = some q → rs[k + 1]? = some q' → Fol q q') → rs.length = min P.length (r.age + 1) → Run P r rs) := hide fun rs h1 h2 h3 => ⟨h3, h1, h2⟩
  clear h hr hP
  generalize hn : P.length = n at *
  have HN := hide hn
  clear hn
  obtain ⟨rn, ra, rsl, d0, d1, d2, rst, y0, y1, y2, y3, hRI, hrn, hra⟩ : ∃ rn ra rsl : Nat, ∃ d0 d1 d2 rst y0 y1 y2 y3 : Int, recI r = recV rn ra rsl d0 d1 d2 rst y0 y1 y2 y3 ∧ r.num = rn ∧ r.age = ra := ⟨_, _, _, _, _, _, _, _, _, _, _, rfl, rfl, rfl⟩
  rw [hRI] at HW0
  rw [hRI]
  have HRI := hide hRI
  have HRN := hide hrn
  have HRA := hide hra
  clear hRI hrn hra
  go_enter Try.func40, Try.ntmps40
  go_wp2_with fail
  have hlo : (0 : Nat) < 1 := by omega
  have HRBX : Hid (∀ wr rs v, RuW w wr P r rs v → wr.heap[w.heap.size]? = some (.cells (recV rn ra rsl d0 d1 d2 rst y0 y1 y2 y3) 90 (0, 0))) := hide fun wr rs v h => by rw [← HRI.out]; exact h.box
  go_loopw [6, 7] (fun vv x wr => ∃ rs : List Rc, rs.length ≤ n ∧ rs.length ≤ ra + 1 ∧ 1 ≤ rs.length ∧ x = .int .i64 (rs.length : Int) ∧ RuW w wr P r rs vv) (fun _ x _ => n - (intOf x).toNat)
  case atStart => exact ⟨[r], by simpa using h1, by simp, by simp, rfl, HW0.out⟩
  case round =>
    clear HW0
    obtain ⟨rs, hk1, hk2, hk3, rfl, hru⟩ := hrel
    obtain ⟨ga, cap2, rfl, hc1, hc2⟩ := rowForm hru.row
    obtain ⟨g2, rfl⟩ : ∃ g2, ga = some ⟨g2, 0, none⟩ := by
      rcases hru.row.2 with ⟨e, e2⟩ | ⟨g', cap', cur, e, _⟩
      · omega
      · simp only [Value.slice.injEq] at e
        exact ⟨g', e.1⟩
    have HRU := hide hru
    have k1 : wr.cell? ⟨w.heap.size, 1, none⟩ = some (.int .i64 (ra : Int)) := cell_of_row _ _ _ _ _ _ (HRBX.out _ _ _ hru)
    have k0 : wr.cell? ⟨w.heap.size, 0, none⟩ = some (.int .u32 (rn : Int)) := cell_of_row _ _ _ _ _ _ (HRBX.out _ _ _ hru)
    clear hru
    generalize hk : rs.length = k at *
    have HK := hide hk
    clear hk
    by_cases hlt : k < n ∧ k ≤ ra
    · obtain ⟨hkn, hka⟩ := hlt
      have hil : (k : Int) < (n : Int) := by omega
      have hil2 : (k : Int) ≤ (ra : Int) := by omega
      have hrnl : rn < 4294967296 := by rw [← HRN.out]; exact HR.out.n
      have HCA := hide (HAT.out wr HRU.out.be (wd rn k) (by unfold wd; omega))
      have hsb : IntKind.u32.wrap ((rn : Int) - (k : Int)) = ((wd rn k : Nat) : Int) := by unfold wd; simp [IntKind.wrap, IntKind.bits, IntKind.signed]; omega
      have hsb2 : ((rn : Int) - (k : Int)) % 4294967296 = ((wd rn k : Nat) : Int) := by unfold wd; omega
      have hci : IntKind.u32.wrap (k : Int) = (k : Int) := by simp [IntKind.wrap, IntKind.bits, IntKind.signed]; omega
      have hci2 : (k : Int) % 4294967296 = (k : Int) := by omega
      obtain ⟨p, hp⟩ : ∃ p, pAt P (wd rn k) = p := ⟨_, rfl⟩
      have hp0 : pAt P (wd r.num k) = p := by rw [HRN.out]; exact hp
      have HPE := hide hp0
      obtain ⟨num, age, slots, c0, c1, c2, st, z0, z1, z2, z3, f, e1, e2, e3, e4⟩ := plV_lit p
      rw [hp, e1] at HCA
      have HE3 := hide e3
      have HE4 := hide e4
      clear hp hp0 e1 e2 e3 e4
      have HZ : Hid (∀ wy : World, (wy.alloc (.cells zplc 135)).heap[wy.heap.size]? = some (.cells zplc 135 (0, 0))) := hide fun wy => Go.heap_alloc_new _ _
      clear hlo HAT
      generalize wd rn k = nx at *
      go_wp2_with (first
        | (go_at_call 69; refine HCA.out.mono ?_; rintro e wy ⟨rfl, hby⟩; have HBY := hide (HRU.out.below hby); have HBZ := hide (HBY.out.below ((Below.refl _ _).alloc (Nat.le_refl _) (.cells #[.int .u32 (num : Int), .int .i64 (age : Int), .int .i64 (slots : Int), .int .i64 c0, .int .i64 c1, .int .i64 c2, .int .i64 st, .int .i64 z0, .int .i64 z1, .int .i64 z2, .int .i64 z3, .bool f] 135))); have HNW := hide (Go.heap_alloc_new wy (.cells #[.int .u32 (num : Int), .int .i64 (age : Int), .int .i64 (slots : Int), .int .i64 c0, .int .i64 c1, .int .i64 c2, .int .i64 st, .int .i64 z0, .int .i64 z1, .int .i64 z2, .int .i64 z3, .bool f] 135)); clear hby HCA)
        | (refine wpList_store_row rfl 135 (.tmp 8) (.tmp 29) rfl wy.heap.size _ rfl rfl 135 zplc (HZ.out _) placeSize rfl (by first | kernel_rfl | simp [Value.oneCell']) ?_; rw [World.setRow_alloc_new]))
      generalize hbx : wy.heap.size = bx at *
      clear hbx
      generalize wy.alloc (.cells #[.int .u32 (num : Int), .int .i64 (age : Int), .int .i64 (slots : Int), .int .i64 c0, .int .i64 c1, .int .i64 c2, .int .i64 st, .int .i64 z0, .int .i64 z1, .int .i64 z2, .int .i64 z3, .bool f] 135) = w3 at *
      clear HBY HRU HZ k0 k1
      cases f with
      | false =>
        have c11 : w3.cell? ⟨bx, 11, none⟩ = some (.bool false) := cell_of_row _ _ _ _ _ _ HNW.out
        have HBD : Hid (RunBad P r) := hide ⟨k, hk3, by rw [HN.out]; exact hkn, by rw [HRA.out]; exact hka, .inl (by rw [HPE.out]; exact isSome_no HE3.out)⟩
        have HBE := hide HBZ.out.be
        have HROW := hide HNW.out
        have HSZ := hide (Array.getElem?_eq_some_iff.1 HNW.out).1
        clear HNW HBZ HPE c11
        refine wp_region_specU (by kernel_rfl) 14 (fun i => decide (4 ≤ i ∧ i ≤ 12)) (by decide) (by kernel_rfl) (fun x y => Below x.heap.size x y) ⟨rfl, rfl, rfl, Nat.le_refl _, fun _ _ => rfl⟩ (fun x y z h k => h.trans (k.mono h.size)) (fun x => Below.refl _ _)
          (fun i v x => (([.ex (.pointer (some ⟨bx, 11, none⟩)), .ex (.bool false), .ex (.bool true), .ex (.bool true), .of (fun _ _ => True) (fun _ _ _ _ _ => trivial), .of (fun _ _ => True) (fun _ _ _ _ _ => trivial), .of (fun _ _ => True) (fun _ _ _ _ _ => trivial), .of (fun _ _ => True) (fun _ _ _ _ _ => trivial), .of (fun _ _ => True) (fun _ _ _ _ _ => trivial), .of (fun _ _ => True) (fun _ _ _ _ _ => trivial), .of (fun _ _ => True) (fun _ _ _ _ _ => trivial), .of (fun _ _ => True) (fun _ _ _ _ _ => trivial), .of (fun _ _ => True) (fun _ _ _ _ _ => trivial), .ex (.bool true)] : List Dv).getD i (.of (fun _ _ => True) (fun _ _ _ _ _ => trivial))).holds v x) (fun i v x y h hb => Dv.stays h hb) ?stepF ?gdF ?tailF
        case stepF =>
          intro i o a w4 hi hu ho hL hG hd
          have hd' : ∀ j, (depsOf _ i).contains j = true → _ := fun j hj => hd j (by simpa using hj)
          have h8 : a.eval (.tmp 8) = .pointer (some ⟨bx, 0, none⟩) := hL.ev 8 (by kernel_rfl) rfl
          have c11 : w4.cell? ⟨bx, 11, none⟩ = some (.bool false) := cell_of_row _ _ _ _ _ _ ((hG.block _ HSZ.out).trans HROW.out)
          clear hd hL
          have hu2 : ¬ (4 ≤ i ∧ i ≤ 12) := by simpa using hu
          rcases (show i = 0 ∨ i = 1 ∨ i = 2 ∨ i = 3 ∨ i = 13 by omega) with rfl | rfl | rfl | rfl | rfl
          · cases ho; exact opv (r_fldP _ w4 _ _ _ _ (.inr rfl) rfl h8) ⟨_, rfl, rfl, Below.refl _ _⟩
          · cases ho; have e := hd' 0 (by kernel_rfl) _ rfl; exact opv (r_ldB _ w4 _ _ _ _ _ rfl e c11) ⟨_, rfl, rfl, Below.refl _ _⟩
          · cases ho; have e := hd' 1 (by kernel_rfl) _ rfl; exact opv (r_not _ w4 _ _ _ rfl e) ⟨_, rfl, rfl, Below.refl _ _⟩
          · cases ho; have e := hd' 2 (by kernel_rfl) _ rfl; exact opv (r_mov _ w4 _ _ _ rfl e) ⟨_, rfl, rfl, Below.refl _ _⟩
          · cases ho; have e := hd' 3 (by kernel_rfl) _ rfl; exact opv (r_pickC _ w4 _ _ _ rfl e rfl) ⟨_, rfl, rfl, Below.refl _ _⟩
        case gdF =>
          intro i o hi ho
          rcases (show i = 0 ∨ i = 1 ∨ i = 2 ∨ i = 3 ∨ i = 4 ∨ i = 5 ∨ i = 6 ∨ i = 7 ∨ i = 8 ∨ i = 9 ∨ i = 10 ∨ i = 11 ∨ i = 12 ∨ i = 13 by omega) with rfl | rfl | rfl | rfl | rfl | rfl | rfl | rfl | rfl | rfl | rfl | rfl | rfl | rfl
          all_goals
            cases ho
            first
              | exact ⟨fun _ => rfl, fun j b hg => by cases hg⟩
              | exact ⟨fun hg => (by cases hg), fun j b hg => (by cases hg; exact ⟨List.contains_iff_mem.1 (by kernel_rfl), fun h => (by cases h), fun _ => ⟨fun v w h => h, fun w => trivial⟩⟩)⟩
        case tailF =>
          intro a w4 hL hG hA
          have e43 : a.eval (.tmp 43) = .bool true := hA 13 _ (by decide) rfl
          obtain ⟨t0', ht0⟩ : ∃ u, a.eval (.tmp 0) = u := ⟨_, rfl⟩
          obtain ⟨t1', ht1⟩ : ∃ u, a.eval (.tmp 1) = u := ⟨_, rfl⟩
          obtain ⟨t2', ht2⟩ : ∃ u, a.eval (.tmp 2) = u := ⟨_, rfl⟩
          obtain ⟨t3', ht3⟩ : ∃ u, a.eval (.tmp 3) = u := ⟨_, rfl⟩
          obtain ⟨t4', ht4⟩ : ∃ u, a.eval (.tmp 4) = u := ⟨_, rfl⟩
          obtain ⟨t5', ht5⟩ : ∃ u, a.eval (.tmp 5) = u := ⟨_, rfl⟩
          obtain ⟨t6', ht6⟩ : ∃ u, a.eval (.tmp 6) = u := ⟨_, rfl⟩
          obtain ⟨t7', ht7⟩ : ∃ u, a.eval (.tmp 7) = u := ⟨_, rfl⟩
          obtain ⟨t8', ht8⟩ : ∃ u, a.eval (.tmp 8) = u := ⟨_, rfl⟩
          obtain ⟨t9', ht9⟩ : ∃ u, a.eval (.tmp 9) = u := ⟨_, rfl⟩
          obtain ⟨t10', ht10⟩ : ∃ u, a.eval (.tmp 10) = u := ⟨_, rfl⟩
          obtain ⟨t11', ht11⟩ : ∃ u, a.eval (.tmp 11) = u := ⟨_, rfl⟩
          obtain ⟨t12', ht12⟩ : ∃ u, a.eval (.tmp 12) = u := ⟨_, rfl⟩
          obtain ⟨t13', ht13⟩ : ∃ u, a.eval (.tmp 13) = u := ⟨_, rfl⟩
          obtain ⟨t14', ht14⟩ : ∃ u, a.eval (.tmp 14) = u := ⟨_, rfl⟩
          obtain ⟨t15', ht15⟩ : ∃ u, a.eval (.tmp 15) = u := ⟨_, rfl⟩
          obtain ⟨t16', ht16⟩ : ∃ u, a.eval (.tmp 16) = u := ⟨_, rfl⟩
          obtain ⟨t17', ht17⟩ : ∃ u, a.eval (.tmp 17) = u := ⟨_, rfl⟩
          obtain ⟨t18', ht18⟩ : ∃ u, a.eval (.tmp 18) = u := ⟨_, rfl⟩
          obtain ⟨t19', ht19⟩ : ∃ u, a.eval (.tmp 19) = u := ⟨_, rfl⟩
          obtain ⟨t20', ht20⟩ : ∃ u, a.eval (.tmp 20) = u := ⟨_, rfl⟩
          obtain ⟨t21', ht21⟩ : ∃ u, a.eval (.tmp 21) = u := ⟨_, rfl⟩
          obtain ⟨t22', ht22⟩ : ∃ u, a.eval (.tmp 22) = u := ⟨_, rfl⟩
          obtain ⟨t23', ht23⟩ : ∃ u, a.eval (.tmp 23) = u := ⟨_, rfl⟩
          obtain ⟨t24', ht24⟩ : ∃ u, a.eval (.tmp 24) = u := ⟨_, rfl⟩
          obtain ⟨t25', ht25⟩ : ∃ u, a.eval (.tmp 25) = u := ⟨_, rfl⟩
          obtain ⟨t26', ht26⟩ : ∃ u, a.eval (.tmp 26) = u := ⟨_, rfl⟩
          obtain ⟨t27', ht27⟩ : ∃ u, a.eval (.tmp 27) = u := ⟨_, rfl⟩
          obtain ⟨t28', ht28⟩ : ∃ u, a.eval (.tmp 28) = u := ⟨_, rfl⟩
          obtain ⟨t29', ht29⟩ : ∃ u, a.eval (.tmp 29) = u := ⟨_, rfl⟩
          obtain ⟨t30', ht30⟩ : ∃ u, a.eval (.tmp 30) = u := ⟨_, rfl⟩
          obtain ⟨t31', ht31⟩ : ∃ u, a.eval (.tmp 31) = u := ⟨_, rfl⟩
          obtain ⟨t32', ht32⟩ : ∃ u, a.eval (.tmp 32) = u := ⟨_, rfl⟩
          obtain ⟨t33', ht33⟩ : ∃ u, a.eval (.tmp 33) = u := ⟨_, rfl⟩
          obtain ⟨t34', ht34⟩ : ∃ u, a.eval (.tmp 34) = u := ⟨_, rfl⟩
          obtain ⟨t35', ht35⟩ : ∃ u, a.eval (.tmp 35) = u := ⟨_, rfl⟩
          obtain ⟨t36', ht36⟩ : ∃ u, a.eval (.tmp 36) = u := ⟨_, rfl⟩
          obtain ⟨t37', ht37⟩ : ∃ u, a.eval (.tmp 37) = u := ⟨_, rfl⟩
          obtain ⟨t38', ht38⟩ : ∃ u, a.eval (.tmp 38) = u := ⟨_, rfl⟩
          obtain ⟨t39', ht39⟩ : ∃ u, a.eval (.tmp 39) = u := ⟨_, rfl⟩
          obtain ⟨t40', ht40⟩ : ∃ u, a.eval (.tmp 40) = u := ⟨_, rfl⟩
          obtain ⟨t41', ht41⟩ : ∃ u, a.eval (.tmp 41) = u := ⟨_, rfl⟩
          obtain ⟨t42', ht42⟩ : ∃ u, a.eval (.tmp 42) = u := ⟨_, rfl⟩
          obtain ⟨t44', ht44⟩ : ∃ u, a.eval (.tmp 44) = u := ⟨_, rfl⟩
          obtain ⟨t45', ht45⟩ : ∃ u, a.eval (.tmp 45) = u := ⟨_, rfl⟩
          obtain ⟨t46', ht46⟩ : ∃ u, a.eval (.tmp 46) = u := ⟨_, rfl⟩
          obtain ⟨t47', ht47⟩ : ∃ u, a.eval (.tmp 47) = u := ⟨_, rfl⟩
          obtain ⟨t48', ht48⟩ : ∃ u, a.eval (.tmp 48) = u := ⟨_, rfl⟩
          obtain ⟨t49', ht49⟩ : ∃ u, a.eval (.tmp 49) = u := ⟨_, rfl⟩
          have hact : a = { tmps := #[t0', t1', t2', t3', t4', t5', t6', t7', t8', t9', t10', t11', t12', t13', t14', t15', t16', t17', t18', t19', t20', t21', t22', t23', t24', t25', t26', t27', t28', t29', t30', t31', t32', t33', t34', t35', t36', t37', t38', t39', t40', t41', t42', .bool true, t44', t45', t46', t47', t48', t49'], defers := [] } := by
            refine (act_lit (n := 50) (hL.size.trans (by kernel_rfl)) hL.defers).trans ?_
            congr 1
            simp only [List.size_toArray, List.length_cons, List.length_nil, List.range, List.range.loop, Nat.reduceAdd, List.map, e43, ht0, ht1, ht2, ht3, ht4, ht5, ht6, ht7, ht8, ht9, ht10, ht11, ht12, ht13, ht14, ht15, ht16, ht17, ht18, ht19, ht20, ht21, ht22, ht23, ht24, ht25, ht26, ht27, ht28, ht29, ht30, ht31, ht32, ht33, ht34, ht35, ht36, ht37, ht38, ht39, ht40, ht41, ht42, ht44, ht45, ht46, ht47, ht48, ht49]
          have HBF := hide (HBE.out.trans (hG.mono HBE.out.size))
          rw [hact]
          clear hact e43 hL hA hG ht0 ht1 ht2 ht3 ht4 ht5 ht6 ht7 ht8 ht9 ht10 ht11 ht12 ht13 ht14 ht15 ht16 ht17 ht18 ht19 ht20 ht21 ht22 ht23 ht24 ht25 ht26 ht27 ht28 ht29 ht30 ht31 ht32 ht33 ht34 ht35 ht36 ht37 ht38 ht39 ht40 ht41 ht42 ht44 ht45 ht46 ht47 ht48 ht49
          clear a
          rename_i Q' K hK
          refine hK _ _ ?_
          clear hK K
          go_wp2_with fail
          go_ret2
          exact ⟨.inr ⟨HBD.out, rfl⟩, HBF.out⟩
      | true =>
        have HROW := hide HNW.out
        obtain ⟨q, rfl⟩ : ∃ q, p = some q := Option.isSome_iff_exists.1 HE3.out
        have HGQ := hide (HPG.out _ q HPE.out)
        have HRQ : Hid (recI q = #[.int .u32 (num : Int), .int .i64 (age : Int), .int .i64 (slots : Int), .int .i64 c0, .int .i64 c1, .int .i64 c2, .int .i64 st, .int .i64 z0, .int .i64 z1, .int .i64 z2, .int .i64 z3]) := hide HE4.out
        obtain ⟨q1, hq1⟩ : ∃ q1, rs[k - 1]? = some q1 := ⟨_, List.getElem?_eq_getElem (by rw [HK.out]; omega)⟩
        have HQ1 := hide hq1
        have HG1 : Hid (GdR q1 slots0) := hide (by
          obtain ⟨p1, p2⟩ := HBZ.out.pl (k - 1) q1 hq1
          by_cases e : k - 1 = 0
          · rw [p1 e]; exact HR.out
          · exact HPG.out _ q1 (p2 (by omega)))
        have HRG : Hid (w3.rangeAt g2 ((k - 1) * 11) (recI q1).toList) := hide ((by have := HBZ.out.row; rw [← HK.out] at this; exact this : RRow w3 (.slice (some ⟨g2, 0, none⟩) rs.length cap2) rs).range hq1)
        have HRB : Hid (w3.rangeAt bx 0 [.int .u32 (num : Int), .int .i64 (age : Int), .int .i64 (slots : Int), .int .i64 c0, .int .i64 c1, .int .i64 c2, .int .i64 st, .int .i64 z0, .int .i64 z1, .int .i64 z2, .int .i64 z3]) := hide (rangeTake HNW.out rfl)
        have HSZ : Hid (w.heap.size < g2 ∧ g2 < w3.heap.size ∧ bx < w3.heap.size) := hide ⟨HBZ.out.own g2 rfl, by obtain ⟨cs, hc⟩ := rowCells HBZ.out.row (g := g2) rfl; exact (Array.getElem?_eq_some_iff.1 hc).1, (Array.getElem?_eq_some_iff.1 HNW.out).1⟩
        clear hq1 HE3 HE4 HNW
        generalize hFO : Fol q1 q = FO at *
        have HFO := hide hFO
        refine wp_region_specG (by kernel_rfl) 14 (by decide) (by kernel_rfl) (fun x y => Below x.heap.size x y) ⟨rfl, rfl, rfl, Nat.le_refl _, fun _ _ => rfl⟩ (fun x y z h k => h.trans (k.mono h.size))
          (fun i v x => (([.ex (.pointer (some ⟨bx, 11, none⟩)), .ex (.bool true), .ex (.bool false), .ex (.bool false), .ex (.slice (some ⟨g2, 0, none⟩) k cap2), .ex (.int .i64 (k : Int)), .ex (.int .i64 ((k - 1 : Nat) : Int)), .ex (.pointer (some ⟨g2, (k - 1) * 11, none⟩)), .ex (.agg (recI q1)), .ex (.pointer (some ⟨bx, 0, none⟩)), .ex (.agg (recI q)), .of (fun v _ => ∃ b : Bool, v = .bool b ∧ (b = true ↔ FO)) (fun _ _ _ h _ => h), .of (fun v _ => ∃ b : Bool, v = .bool (!b) ∧ (b = true ↔ FO)) (fun _ _ _ h _ => h), .of (fun v _ => ∃ b : Bool, v = .bool (!b) ∧ (b = true ↔ FO)) (fun _ _ _ h _ => h)] : List Dv).getD i (.of (fun _ _ => True) (fun _ _ _ _ _ => trivial))).holds v x) (fun i v x y h hb => Dv.stays h hb) ?step ?gd ?tail
        case step =>
          intro i o a w4 hi ho hL hG hd
          have hd' : ∀ j, (depsOf _ i).contains j = true → _ := fun j hj => hd j (by simpa using hj)
          have h6 : a.eval (.tmp 6) = .slice (some ⟨g2, 0, none⟩) k cap2 := hL.ev 6 (by kernel_rfl) rfl
          have h7 : a.eval (.tmp 7) = .int .i64 (k : Int) := hL.ev 7 (by kernel_rfl) rfl
          have h8 : a.eval (.tmp 8) = .pointer (some ⟨bx, 0, none⟩) := hL.ev 8 (by kernel_rfl) rfl
          have c11 : w4.cell? ⟨bx, 11, none⟩ = some (.bool true) := cell_of_row _ _ _ _ _ _ ((hG.block _ HSZ.out.2.2).trans HROW.out)
          have hrg : w4.rangeAt g2 ((k - 1) * 11) (recI q1).toList := fun j v hj => by rw [hG.cell HSZ.out.2.1]; exact HRG.out j v hj
          have hrb : w4.rangeAt bx 0 (recI q).toList := fun j v hj => by rw [hG.cell HSZ.out.2.2]; rw [HRQ.out] at hj; exact HRB.out j v hj
          have hRs : ∀ r' : Rc, (Try.prog.info? 90).map (·.size) = some (recI r').toList.length := fun r' => by rw [recI_len]; exact recSize
          clear hd hL
          rcases (show i = 0 ∨ i = 1 ∨ i = 2 ∨ i = 3 ∨ i = 4 ∨ i = 5 ∨ i = 6 ∨ i = 7 ∨ i = 8 ∨ i = 9 ∨ i = 10 ∨ i = 11 ∨ i = 12 ∨ i = 13 by omega) with rfl | rfl | rfl | rfl | rfl | rfl | rfl | rfl | rfl | rfl | rfl | rfl | rfl | rfl
          · cases ho; exact opv (r_fldP _ w4 _ _ _ _ (.inr rfl) rfl h8) ⟨_, rfl, rfl, Below.refl _ _⟩
          · cases ho; have e := hd' 0 (by kernel_rfl) _ rfl; exact opv (r_ldB _ w4 _ _ _ _ _ rfl e c11) ⟨_, rfl, rfl, Below.refl _ _⟩
          · cases ho; have e := hd' 1 (by kernel_rfl) _ rfl; exact opv (r_not _ w4 _ _ _ rfl e) ⟨_, rfl, rfl, Below.refl _ _⟩
          · cases ho; have e := hd' 2 (by kernel_rfl) _ rfl; exact opv (r_mov _ w4 _ _ _ rfl e) ⟨_, rfl, rfl, Below.refl _ _⟩
          · cases ho; exact opv (r_mov _ w4 _ _ _ rfl h6) ⟨_, rfl, rfl, Below.refl _ _⟩
          · cases ho; exact opv (r_mov _ w4 _ _ _ rfl h7) ⟨_, rfl, rfl, Below.refl _ _⟩
          · cases ho; have e := hd' 5 (by kernel_rfl) _ rfl; exact opv (r_sub1 _ w4 _ _ _ rfl e rfl hk3 (by omega)) ⟨_, rfl, rfl, Below.refl _ _⟩
          · cases ho; have e := hd' 4 (by kernel_rfl) _ rfl; have e2 := hd' 6 (by kernel_rfl) _ rfl; exact opv (r_idxR _ w4 _ _ _ _ _ _ _ rfl e e2 (by omega)) ⟨_, rfl, rfl, Below.refl _ _⟩
          · cases ho; have e := hd' 7 (by kernel_rfl) _ rfl; exact wp_load_mid 90 (.tmp 37) rfl g2 ((k - 1) * 11) e (recI q1).toList _ hrg Try.underlying90 rfl (hRs q1) ⟨_, rfl, rfl, Below.refl _ _⟩
          · cases ho; exact opv (r_fldP _ w4 _ _ _ _ (.inl rfl) rfl h8) ⟨_, rfl, rfl, Below.refl _ _⟩
          · cases ho; have e := hd' 9 (by kernel_rfl) _ rfl; exact wp_load_mid 90 (.tmp 39) rfl bx 0 e (recI q).toList _ hrb Try.underlying90 rfl (hRs q) ⟨_, rfl, rfl, Below.refl _ _⟩
          · cases ho
            have e1 := hd' 8 (by kernel_rfl) _ rfl
            have e2 := hd' 10 (by kernel_rfl) _ rfl
            refine opc 70 _ (r_callF _ w4 _ _ _ rfl e1 e2 rfl) (folR_any w4 q1 q slots0 hs1 hs2 HG1.out HGQ.out) (fun e w5 h => ?_)
            obtain ⟨b, hb1, hb2, hb3⟩ := h
            exact ⟨_, hb1, _, rfl, ⟨b, rfl, by rw [← HFO.out]; exact hb2⟩, hb3⟩
          · cases ho
            obtain ⟨b, e, hb⟩ := hd' 11 (by kernel_rfl) _ rfl
            exact opv (r_not _ w4 _ _ _ rfl e) ⟨_, rfl, ⟨b, rfl, hb⟩, Below.refl _ _⟩
          · cases ho
            have e0 := hd' 3 (by kernel_rfl) _ rfl
            obtain ⟨b, e, hb⟩ := hd' 12 (by kernel_rfl) _ rfl
            exact opv (r_pickT _ w4 _ _ _ _ rfl e0 e rfl) ⟨_, rfl, ⟨b, rfl, hb⟩, Below.refl _ _⟩
        case gd =>
          intro i o j b hi ho hg
          rcases (show i = 0 ∨ i = 1 ∨ i = 2 ∨ i = 3 ∨ i = 4 ∨ i = 5 ∨ i = 6 ∨ i = 7 ∨ i = 8 ∨ i = 9 ∨ i = 10 ∨ i = 11 ∨ i = 12 ∨ i = 13 by omega) with rfl | rfl | rfl | rfl | rfl | rfl | rfl | rfl | rfl | rfl | rfl | rfl | rfl | rfl
          all_goals
            cases ho
            cases hg
          all_goals exact ⟨List.contains_iff_mem.1 (by kernel_rfl), fun v w h => h⟩
        case tail =>
          intro a w4 hL hG hA
          have e0 : a.eval (.tmp 0) = .slice (some ⟨g, 0, none⟩) n n := hL.ev 0 (by kernel_rfl) rfl
          have e3 : a.eval (.tmp 3) = .pointer (some ⟨w.heap.size, 0, none⟩) := hL.ev 3 (by kernel_rfl) rfl
          have e6 : a.eval (.tmp 6) = .slice (some ⟨g2, 0, none⟩) k cap2 := hL.ev 6 (by kernel_rfl) rfl
          have e7 : a.eval (.tmp 7) = .int .i64 (k : Int) := hL.ev 7 (by kernel_rfl) rfl
          have e8 : a.eval (.tmp 8) = .pointer (some ⟨bx, 0, none⟩) := hL.ev 8 (by kernel_rfl) rfl
          have e1 : a.eval (.tmp 1) = .agg (recV rn ra rsl d0 d1 d2 rst y0 y1 y2 y3) := hL.ev 1 (by kernel_rfl) rfl
          have e2 : a.eval (.tmp 2) = undef := hL.ev 2 (by kernel_rfl) rfl
          have e9 : a.eval (.tmp 9) = .agg #[.int .u32 (rn : Int), .int .i64 (ra : Int), .int .i64 (rsl : Int), .int .i64 d0, .int .i64 d1, .int .i64 d2, .int .i64 rst, .int .i64 y0, .int .i64 y1, .int .i64 y2, .int .i64 y3] := hL.ev 9 (by kernel_rfl) rfl
          have e10 : a.eval (.tmp 10) = .slice (some ⟨w.heap.size + 1, 0, none⟩) 1 1 := hL.ev 10 (by kernel_rfl) rfl
          have e49 : a.eval (.tmp 49) = undef := hL.ev 49 (by kernel_rfl) rfl
          obtain ⟨b2, e43', hb2⟩ := hA 13 _ (by decide) rfl
          have e43 : a.eval (.tmp 43) = .bool (!b2) := e43'
          clear e43'
          obtain ⟨u4', hu4⟩ : ∃ u, a.eval (.tmp 4) = u := ⟨_, rfl⟩
          obtain ⟨u5', hu5⟩ : ∃ u, a.eval (.tmp 5) = u := ⟨_, rfl⟩
          obtain ⟨u11', hu11⟩ : ∃ u, a.eval (.tmp 11) = u := ⟨_, rfl⟩
          obtain ⟨u12', hu12⟩ : ∃ u, a.eval (.tmp 12) = u := ⟨_, rfl⟩
          obtain ⟨u13', hu13⟩ : ∃ u, a.eval (.tmp 13) = u := ⟨_, rfl⟩
          obtain ⟨u14', hu14⟩ : ∃ u, a.eval (.tmp 14) = u := ⟨_, rfl⟩
          obtain ⟨u15', hu15⟩ : ∃ u, a.eval (.tmp 15) = u := ⟨_, rfl⟩
          obtain ⟨u16', hu16⟩ : ∃ u, a.eval (.tmp 16) = u := ⟨_, rfl⟩
          obtain ⟨u17', hu17⟩ : ∃ u, a.eval (.tmp 17) = u := ⟨_, rfl⟩
          obtain ⟨u18', hu18⟩ : ∃ u, a.eval (.tmp 18) = u := ⟨_, rfl⟩
          obtain ⟨u19', hu19⟩ : ∃ u, a.eval (.tmp 19) = u := ⟨_, rfl⟩
          obtain ⟨u20', hu20⟩ : ∃ u, a.eval (.tmp 20) = u := ⟨_, rfl⟩
          obtain ⟨u21', hu21⟩ : ∃ u, a.eval (.tmp 21) = u := ⟨_, rfl⟩
          obtain ⟨u22', hu22⟩ : ∃ u, a.eval (.tmp 22) = u := ⟨_, rfl⟩
          obtain ⟨u23', hu23⟩ : ∃ u, a.eval (.tmp 23) = u := ⟨_, rfl⟩
          obtain ⟨u24', hu24⟩ : ∃ u, a.eval (.tmp 24) = u := ⟨_, rfl⟩
          obtain ⟨u25', hu25⟩ : ∃ u, a.eval (.tmp 25) = u := ⟨_, rfl⟩
          obtain ⟨u26', hu26⟩ : ∃ u, a.eval (.tmp 26) = u := ⟨_, rfl⟩
          obtain ⟨u27', hu27⟩ : ∃ u, a.eval (.tmp 27) = u := ⟨_, rfl⟩
          obtain ⟨u28', hu28⟩ : ∃ u, a.eval (.tmp 28) = u := ⟨_, rfl⟩
          obtain ⟨u29', hu29⟩ : ∃ u, a.eval (.tmp 29) = u := ⟨_, rfl⟩
          obtain ⟨u30', hu30⟩ : ∃ u, a.eval (.tmp 30) = u := ⟨_, rfl⟩
          obtain ⟨u31', hu31⟩ : ∃ u, a.eval (.tmp 31) = u := ⟨_, rfl⟩
          obtain ⟨u32', hu32⟩ : ∃ u, a.eval (.tmp 32) = u := ⟨_, rfl⟩
          obtain ⟨u33', hu33⟩ : ∃ u, a.eval (.tmp 33) = u := ⟨_, rfl⟩
          obtain ⟨u34', hu34⟩ : ∃ u, a.eval (.tmp 34) = u := ⟨_, rfl⟩
          obtain ⟨u35', hu35⟩ : ∃ u, a.eval (.tmp 35) = u := ⟨_, rfl⟩
          obtain ⟨u36', hu36⟩ : ∃ u, a.eval (.tmp 36) = u := ⟨_, rfl⟩
          obtain ⟨u37', hu37⟩ : ∃ u, a.eval (.tmp 37) = u := ⟨_, rfl⟩
          obtain ⟨u38', hu38⟩ : ∃ u, a.eval (.tmp 38) = u := ⟨_, rfl⟩
          obtain ⟨u39', hu39⟩ : ∃ u, a.eval (.tmp 39) = u := ⟨_, rfl⟩
          obtain ⟨u40', hu40⟩ : ∃ u, a.eval (.tmp 40) = u := ⟨_, rfl⟩
          obtain ⟨u41', hu41⟩ : ∃ u, a.eval (.tmp 41) = u := ⟨_, rfl⟩
          obtain ⟨u42', hu42⟩ : ∃ u, a.eval (.tmp 42) = u := ⟨_, rfl⟩
          obtain ⟨u44', hu44⟩ : ∃ u, a.eval (.tmp 44) = u := ⟨_, rfl⟩
          obtain ⟨u45', hu45⟩ : ∃ u, a.eval (.tmp 45) = u := ⟨_, rfl⟩
          obtain ⟨u46', hu46⟩ : ∃ u, a.eval (.tmp 46) = u := ⟨_, rfl⟩
          obtain ⟨u47', hu47⟩ : ∃ u, a.eval (.tmp 47) = u := ⟨_, rfl⟩
          obtain ⟨u48', hu48⟩ : ∃ u, a.eval (.tmp 48) = u := ⟨_, rfl⟩
          have hact : a = { tmps := #[.slice (some ⟨g, 0, none⟩) n n, .agg (recV rn ra rsl d0 d1 d2 rst y0 y1 y2 y3), undef, .pointer (some ⟨w.heap.size, 0, none⟩), u4', u5', .slice (some ⟨g2, 0, none⟩) k cap2, .int .i64 (k : Int), .pointer (some ⟨bx, 0, none⟩), .agg #[.int .u32 (rn : Int), .int .i64 (ra : Int), .int .i64 (rsl : Int), .int .i64 d0, .int .i64 d1, .int .i64 d2, .int .i64 rst, .int .i64 y0, .int .i64 y1, .int .i64 y2, .int .i64 y3], .slice (some ⟨w.heap.size + 1, 0, none⟩) 1 1, u11', u12', u13', u14', u15', u16', u17', u18', u19', u20', u21', u22', u23', u24', u25', u26', u27', u28', u29', u30', u31', u32', u33', u34', u35', u36', u37', u38', u39', u40', u41', u42', .bool (!b2), u44', u45', u46', u47', u48', undef], defers := [] } := by
            refine (act_lit (n := 50) (hL.size.trans (by kernel_rfl)) hL.defers).trans ?_
            congr 1
            simp only [List.size_toArray, List.length_cons, List.length_nil, List.range, List.range.loop, Nat.reduceAdd, List.map, e0, e1, e2, e3, e6, e7, e8, e9, e10, e49, e43, hu4, hu5, hu11, hu12, hu13, hu14, hu15, hu16, hu17, hu18, hu19, hu20, hu21, hu22, hu23, hu24, hu25, hu26, hu27, hu28, hu29, hu30, hu31, hu32, hu33, hu34, hu35, hu36, hu37, hu38, hu39, hu40, hu41, hu42, hu44, hu45, hu46, hu47, hu48]
          have HRU4 := hide (HBZ.out.below hG)
          have HRB4 : Hid (w4.rangeAt bx 0 [.int .u32 (num : Int), .int .i64 (age : Int), .int .i64 (slots : Int), .int .i64 c0, .int .i64 c1, .int .i64 c2, .int .i64 st, .int .i64 z0, .int .i64 z1, .int .i64 z2, .int .i64 z3]) := hide fun j v hj => by rw [hG.cell HSZ.out.2.2]; exact HRB.out j v hj
          have HB2 := hide hb2
          rw [hact]
          clear hact e0 e1 e2 e3 e6 e7 e8 e9 e10 e49 e43 hL hA hG hb2 hu4 hu5 hu11 hu12 hu13 hu14 hu15 hu16 hu17 hu18 hu19 hu20 hu21 hu22 hu23 hu24 hu25 hu26 hu27 hu28 hu29 hu30 hu31 hu32 hu33 hu34 hu35 hu36 hu37 hu38 hu39 hu40 hu41 hu42 hu44 hu45 hu46 hu47 hu48
          clear a
          rename_i Q' K hK
          refine hK _ _ ?_
          clear hK K HRG HRB HROW HBZ
          cases b2 with
          | false =>
            have HBD : Hid (RunBad P r) := hide ⟨k, hk3, by rw [HN.out]; exact hkn, by rw [HRA.out]; exact hka, .inr ⟨q1, q, by
              obtain ⟨p1, p2⟩ := HRU4.out.pl (k - 1) q1 HQ1.out
              by_cases e : k = 1
              · exact .inl ⟨e, p1 (by omega)⟩
              · exact .inr ⟨by omega, p2 (by omega)⟩, HPE.out, fun hf => by
              rw [HFO.out] at hf
              have := HB2.out.2 hf
              cases this⟩⟩
            go_wp2_with fail
            go_ret2
            exact ⟨.inr ⟨HBD.out, rfl⟩, HRU4.out.be⟩
          | true =>
            obtain ⟨i0, hi, hz0, hz1, hz2⟩ := info_parts info_rec
            have HMORE : Hid (∀ w6 v6 o, w6.ownsRow 0 90 11 v6 (k + 1) (flR rs ++ [.int .u32 (num : Int), .int .i64 (age : Int), .int .i64 (slots : Int), .int .i64 c0, .int .i64 c1, .int .i64 c2, .int .i64 st, .int .i64 z0, .int .i64 z1, .int .i64 z2, .int .i64 z3]) → UponC (w4.alloc o) w6 (.slice (some ⟨g2, 0, none⟩) k cap2) v6 → RuW w w6 P r (rs ++ [q]) v6) := hide fun w6 v6 o ho hu => by
              refine HRU4.out.more (by rw [HK.out]; exact hk3) (by rw [HK.out, HRQ.out]; exact ho) hu (by rw [HK.out]; exact HPE.out) fun q1' hq1' => ?_
              rw [HK.out, HQ1.out] at hq1'
              cases hq1'
              rw [HFO.out]
              exact HB2.out.1 rfl
            have HOWN : Hid (∀ o, (w4.alloc o).ownsRow 0 90 11 (.slice (some ⟨g2, 0, none⟩) k cap2) k (flR rs)) := hide fun o => by
              have := (HRU4.out.below ((Below.refl _ _).alloc (Nat.le_refl _) o)).row
              unfold RRow at this
              rw [HK.out] at this
              exact this
            have HLEN : Hid ((rs ++ [q]).length = k + 1) := hide (by simp [HK.out])
            clear hs1 hs2 HPG HFIN HRBX HB2 HSZ HQ1 HPE HFO hFO
            go_wp2_with (first
              | refine wpList_load_mid rfl 90 (.tmp 45) rfl bx 0 rfl [.int .u32 (num : Int), .int .i64 (age : Int), .int .i64 (slots : Int), .int .i64 c0, .int .i64 c1, .int .i64 c2, .int .i64 st, .int .i64 z0, .int .i64 z1, .int .i64 z2, .int .i64 z3] _ HRB4.out Try.underlying90 rfl recSize ?_
              | (refine wpList_appendC _ rfl (.tmp 44) (.tmp 47) 93 rfl 90 i0 (.agg zrec) 11 88 Try.underlying93 hi hz0 hz1 hz2 rfl (by decide) (.slice (some ⟨g2, 0, none⟩) k cap2) k (flR rs) rfl (HOWN.out _) ⟨w4.heap.size, 0, none⟩ 1 1 [.int .u32 (num : Int), .int .i64 (age : Int), .int .i64 (slots : Int), .int .i64 c0, .int .i64 c1, .int .i64 c2, .int .i64 st, .int .i64 z0, .int .i64 z1, .int .i64 z2, .int .i64 z3] rfl rfl (by decide) (fun j u hj => by rw [Addr.add_lit, Nat.zero_add]; exact (rangeTake (Go.heap_alloc_new w4 (.cells #[.int .u32 (num : Int), .int .i64 (age : Int), .int .i64 (slots : Int), .int .i64 c0, .int .i64 c1, .int .i64 c2, .int .i64 st, .int .i64 z0, .int .i64 z1, .int .i64 z2, .int .i64 z3] 90)) rfl) j u hj ▸ (by simp)) (by intro u hu; simp only [List.mem_cons, List.not_mem_nil, or_false] at hu; rcases hu with rfl | rfl | rfl | rfl | rfl | rfl | rfl | rfl | rfl | rfl | rfl <;> rfl) (by unfold maxLen; omega) (by omega) ?_; intro v6 w6 ho6 hu6; have HM6 := hide (HMORE.out _ _ _ ho6 hu6); clear ho6 hu6))
            go_roundw
            case rel => exact ⟨rs ++ [q], by rw [HLEN.out]; omega, by rw [HLEN.out]; omega, by rw [HLEN.out]; omega, by rw [HLEN.out]; go_num, HM6.out⟩
            case measure => simp [intOf]; omega
    · have HRUN : Hid (Run P r rs) := hide (HFIN.out rs HRU.out.pl HRU.out.fo (by rw [HK.out, HRA.out]; omega))
      have HP : Hid (RRow wr (.slice (some ⟨g2, 0, none⟩) k cap2) rs ∧ (∀ b, (Value.slice (some ⟨g2, 0, none⟩) k cap2).ownBlock = some b → w.heap.size ≤ b) ∧ Below w.heap.size w wr) := hide ⟨by have := HRU.out.row; exact this, fun b e => by have := HRU.out.own b e; omega, HRU.out.be⟩
      by_cases hkn : k < n
      · have hka : ¬ (k : Int) ≤ (ra : Int) := by omega
        have hkn2 : (k : Int) < (n : Int) := by omega
        go_wp2_with fail
        go_ret2
        exact ⟨.inl ⟨rs, _, HRUN.out, rfl, HP.out.1, HP.out.2.1⟩, HP.out.2.2⟩
      · go_wp2_with fail
        go_ret2
        exact ⟨.inl ⟨rs, _, HRUN.out, rfl, HP.out.1, HP.out.2.1⟩, HP.out.2.2⟩
end Go.Proofs.Ytlkccencilhacaa
namespace Go.Proofs.Ytlkccencilhacaa
open Go.RowKit Go.Sort
open Num
set_option linter.unusedVariables false
set_option linter.unusedSimpArgs false
set_option maxRecDepth 20000

def okZ (n : Int) : Bool := n == 128 || n == 256 || n == 512 || n == 1024
theorem okZ_iff {n : Int} : okZ n = true ↔ (n = 128 ∨ n = 256 ∨ n = 512 ∨ n = 1024) := by simp [okZ, or_assoc]
theorem okZ_lo {n : Int} (h : ¬ 128 ≤ n) : okZ n = false := by
  cases e : okZ n with
  | false => rfl
  | true => have := okZ_iff.1 e; omega
theorem okZ_hi {n : Int} (h : ¬ n ≤ 1024) : okZ n = false := by
  cases e : okZ n with
  | false => rfl
  | true => have := okZ_iff.1 e; omega
theorem powZ_all : ∀ m : Nat, m < 1025 → 128 ≤ m → (bits BinOp.and .i64 (m : Int) ((m : Int) - 1) == 0) = okZ m := by decide +kernel
theorem vsizeZ_any (w : World) (n : Int) : Calls Try.prog 54 #[.int .i64 n] w fun e w' => e = .returned (.bool (okZ n)) ∧ w' = w := by
  by_cases h1 : 128 ≤ n
  · by_cases h2 : n ≤ 1024
    · go_enter Try.func54, Try.ntmps54
      go_wp2_with fail
      go_ret
      refine ⟨?_, rfl⟩
      obtain ⟨m, rfl⟩ : ∃ m : Nat, n = m := ⟨n.toNat, by omega⟩
      have h := powZ_all m (by omega) (by omega)
      rw [← h]
      rfl
    · rw [okZ_hi h2]
      go_enter Try.func54, Try.ntmps54
      go_wp2_with fail
      go_ret
      exact ⟨rfl, rfl⟩
  · rw [okZ_lo h1]
    go_enter Try.func54, Try.ntmps54
    go_wp2_with fail
    go_ret
    exact ⟨rfl, rfl⟩
def putA (cs : Array Value) (o : Nat) : List Value → Array Value
  | [] => cs
  | v :: r => putA (cs.setIfInBounds o v) (o + 1) r
theorem setCells_heap (b : Nat) (t : TypeId) : ∀ (vs : List Value) (o : Nat) (w : World) (cs : Array Value), w.heap[b]? = some (.cells cs t (0, 0)) → (w.setCells b o vs).heap[b]? = some (.cells (putA cs o vs) t (0, 0))
  | [], o, w, cs, h => h
  | v :: r, o, w, cs, h => setCells_heap b t r (o + 1) _ _ (Go.heap_setCell_same w b o _ t v h)
theorem setCells_other (b k : Nat) (hk : k ≠ b) : ∀ (vs : List Value) (o : Nat) (w : World), (w.setCells b o vs).heap[k]? = w.heap[k]?
  | [], o, w => rfl
  | v :: r, o, w => (setCells_other b k hk r (o + 1) _).trans (Go.heap_setCell_other _ _ _ _ hk)
theorem setCells_size (b : Nat) : ∀ (vs : List Value) (o : Nat) (w : World), (w.setCells b o vs).heap.size = w.heap.size ∧ (w.setCells b o vs).os = w.os ∧ (w.setCells b o vs).tape = w.tape ∧ (w.setCells b o vs).output = w.output
  | [], o, w => ⟨rfl, rfl, rfl, rfl⟩
  | v :: r, o, w => by
    obtain ⟨h1, h2, h3, h4⟩ := setCells_size b r (o + 1) (w.setCell ⟨b, o, none⟩ v)
    exact ⟨h1.trans (World.size_setCell ..), h2, h3, h4⟩
theorem putA_get : ∀ (vs : List Value) (o : Nat) (cs : Array Value) (x : Nat), o + vs.length ≤ cs.size → (putA cs o vs)[x]? = if o ≤ x ∧ x < o + vs.length then vs[x - o]? else cs[x]?
  | [], o, cs, x, h => by simp [putA]; omega
  | v :: r, o, cs, x, h => by
    simp only [List.length_cons] at h
    rw [putA, putA_get r (o + 1) _ x (by simp; omega)]
    by_cases e : x = o
    · subst e
      rw [if_neg (by omega), if_pos (by simp), Array.getElem?_setIfInBounds_self_of_lt (by omega)]
      simp
    · rw [Array.getElem?_setIfInBounds_ne (fun h => e h.symm)]
      by_cases e2 : o + 1 ≤ x ∧ x < o + 1 + r.length
      · rw [if_pos e2, if_pos (by simp; omega), show x - o = (x - (o + 1)) + 1 by omega, List.getElem?_cons_succ]
      · rw [if_neg e2, if_neg (by simp; omega)]
theorem flatP_len : ∀ P : List (Option Rc), (P.flatMap plV).length = P.length * 12
  | [] => rfl
  | p :: P => by rw [List.flatMap_cons, List.length_append, flatP_len P, plV_len, List.length_cons]; omega
theorem putA_plc (P : List (Option Rc)) (i : Nat) (p : Option Rc) (hi : i < P.length) : putA (P.flatMap plV).toArray (i * 12) (plV p) = ((P.set i p).flatMap plV).toArray := by
  apply Array.ext_getElem?
  intro x
  rw [putA_get _ _ _ _ (by rw [plV_len]; simp only [List.size_toArray, flatP_len]; omega), plV_len]
  have hx : x = x / 12 * 12 + x % 12 := by omega
  by_cases hxl : x / 12 < P.length
  · have hs : (P.set i p)[x / 12]? = some (if x / 12 = i then p else P[x / 12]) := by
      rw [List.getElem?_set]
      by_cases e : i = x / 12
      · rw [if_pos e, if_pos hi, if_pos e.symm]
      · rw [if_neg e, if_neg (fun h => e h.symm), List.getElem?_eq_getElem hxl]
    have h1 := flatP_get (P.set i p) (x / 12) (x % 12) _ hs (by omega)
    have h2 := flatP_get P (x / 12) (x % 12) _ (List.getElem?_eq_getElem hxl) (by omega)
    rw [← hx] at h1 h2
    simp only [List.getElem?_toArray]
    rw [h1, h2]
    by_cases e : x / 12 = i
    · rw [if_pos (by omega), if_pos e, show x - i * 12 = x % 12 by omega]
    · rw [if_neg (by omega), if_neg e]
  · rw [if_neg (by omega)]
    simp only [List.getElem?_toArray]
    rw [List.getElem?_eq_none (by rw [flatP_len]; omega), List.getElem?_eq_none (by rw [flatP_len, List.length_set]; omega)]
/-- a ring's blocks as a list of lists -/
def RSl (w : World) (v : Value) (bs : List (List Nat)) : Prop := ∃ g off cap, v = .slice (some ⟨g, off, none⟩) bs.length cap ∧ bs.length ≤ cap ∧ cap ≤ maxLen ∧ ∀ i, i < bs.length → ∃ x, w.cell? ⟨g, off + i, none⟩ = some x ∧ BSl w x (bs.getD i [])
theorem run_plcs (n : Nat) (hn : n = 1 ∨ n = 2 ∨ n = 4) (w : World) : (Instr.makeSlice 84 (.int .i64 (n : Int)) (.int .i64 (n : Int))).run Try.prog w = .ok (.slice (some ⟨w.heap.size, 0, none⟩) n n) (w.alloc (.cells ((List.replicate n (none : Option Rc)).flatMap plV).toArray 135)) := by
  rcases hn with rfl | rfl | rfl <;> kernel_rfl
theorem validP_any (w : World) (l : List Nat) (slots ext : Nat) (h1 : 1 ≤ slots) (h2 : slots ≤ 16) (hb : ∀ b ∈ l, b < 256) :
    Calls Try.prog 66 #[.agg (recI (prs l)), .int .i64 (slots : Int), .int .i64 (ext : Int)] w (BoolP w ((prs l).Ok slots ext)) := by
  have ha : bvA l 8 2 < 65536 := by
    have h := bval_lt ((l.drop 8).take 2) (fun b hb' => hb b (List.mem_of_mem_drop (List.mem_of_mem_take hb'))) 0
    have h3 : ((l.drop 8).take 2).length ≤ 2 := by simp; omega
    have h4 : 256 ^ ((l.drop 8).take 2).length ≤ 256 ^ 2 := Nat.pow_le_pow_right (by decide) h3
    unfold bvA bval
    omega
  exact valid_any w _ _ _ _ _ _ _ _ _ _ _ slots ext h1 h2 ha
def RdP (w : World) (slots ext : Nat) (bs : List (List Nat)) (e : Ending) (w' : World) : Prop := ((∃ P, Places slots ext bs P ∧ HPl w' w.heap.size P ∧ e = .returned (.tuple #[.slice (some ⟨w.heap.size, 0, none⟩) bs.length bs.length, .bool true])) ∨ ((∃ i, i < bs.length ∧ ∀ p, ¬ plc slots ext bs.length (bs.getD 0 []).length i (bs.getD i []) p) ∧ e = .returned (.tuple #[.slice none 0 0, .bool false]))) ∧ Below w.heap.size w w'
/-- while the places are read -/
structure RpW (w wr : World) (slots ext : Nat) (bs : List (List Nat)) (P : List (Option Rc)) (i : Nat) : Prop where
  be : Below w.heap.size w wr
  pl : HPl wr w.heap.size P
  len : P.length = bs.length
  ok : ∀ j, j < i → plc slots ext bs.length (bs.getD 0 []).length j (bs.getD j []) (P.getD j none)
  no : ∀ j, i ≤ j → P.getD j none = none
theorem RpW.below {w x y : World} {slots ext : Nat} {bs : List (List Nat)} {P : List (Option Rc)} {i : Nat} (h : RpW w x slots ext bs P i) (hb : Below x.heap.size x y) : RpW w y slots ext bs P i :=
  ⟨h.be.trans (hb.mono h.be.size), h.pl.below hb (Array.getElem?_eq_some_iff.1 h.pl).1, h.len, h.ok, h.no⟩
theorem setD_same {P : List (Option Rc)} {i : Nat} {x : Option Rc} (h : i < P.length) : (P.set i x).getD i none = x := by simp [List.getD, h]
theorem setD_ne {P : List (Option Rc)} {i j : Nat} {x : Option Rc} (h : i ≠ j) : (P.set i x).getD j none = P.getD j none := by simp [List.getD, h]
theorem RpW.store {w x : World} {slots ext : Nat} {bs : List (List Nat)} {P : List (Option Rc)} {i : Nat} (h : RpW w x slots ext bs P i) (hi : i < bs.length) {r : Rc} (hp : plc slots ext bs.length (bs.getD 0 []).length i (bs.getD i []) (some r)) : RpW w (x.setCells w.heap.size (i * 12) (plV (some r))) slots ext bs (P.set i (some r)) (i + 1) := by
  have hl : i < P.length := by rw [h.len]; exact hi
  obtain ⟨z1, z2, z3, z4⟩ := setCells_size w.heap.size (plV (some r)) (i * 12) x
  refine ⟨h.be.trans ⟨z2, z3, z4, Nat.le_of_eq z1.symm, fun k hk => setCells_other _ _ (by omega) _ _ _⟩, ?_, by rw [List.length_set]; exact h.len, fun j hj => ?_, fun j hj => ?_⟩
  · unfold HPl
    rw [setCells_heap _ _ _ _ _ _ h.pl, putA_plc P i _ hl]
  · by_cases e : j = i
    · subst e
      rw [setD_same hl]
      exact hp
    · rw [setD_ne (fun h => e h.symm)]
      exact h.ok j (by omega)
  · rw [setD_ne (by omega)]
    exact h.no j (by omega)
theorem RpW.blank {w x : World} {slots ext : Nat} {bs : List (List Nat)} {P : List (Option Rc)} {i : Nat} (h : RpW w x slots ext bs P i) (hp : plc slots ext bs.length (bs.getD 0 []).length i (bs.getD i []) none) : RpW w x slots ext bs P (i + 1) := by
  refine ⟨h.be, h.pl, h.len, fun j hj => ?_, fun j hj => h.no j (by omega)⟩
  by_cases e : j = i
  · subst e; rw [h.no j (Nat.le_refl _)]; exact hp
  · exact h.ok j (by omega)
theorem RpW.there {w x : World} {slots ext : Nat} {bs : List (List Nat)} {P : List (Option Rc)} {i : Nat} (h : RpW w x slots ext bs P i) (hi : i < bs.length) : x.there w.heap.size (i * 12) 12 := fun j hj => by
  refine ⟨?_, frozen_of_row _ _ _ _ 135 h.pl⟩
  rw [cell_of_row _ _ _ _ _ _ h.pl]
  rw [Array.getElem?_eq_getElem (by simp only [List.size_toArray, flatP_len, h.len]; omega)]
  rfl
end Go.Proofs.Ytlkccencilhacaa
namespace Go.Proofs.Ytlkccencilhacaa
open Go.RowKit Go.Sort
open Num
set_option linter.unusedVariables false
set_option linter.unusedSimpArgs false
set_option maxRecDepth 20000

set_option maxHeartbeats 4000000 in
theorem readPl_any {w : World} {v : Value} {bs : List (List Nat)} (slots ext : Nat) (hv : RSl w v bs) (hn : bs.length = 1 ∨ bs.length = 2 ∨ bs.length = 4) (h1 : 1 ≤ slots) (h2 : slots ≤ 16) :
    Calls Try.prog 36 #[.int .i64 (slots : Int), .int .i64 (ext : Int), v] w (RdP w slots ext bs) := by
  obtain ⟨gr, off, cap, rfl, hc1, hc2, hcl⟩ := hv
  unfold maxLen at hc2
  have hmk := fun W : World => run_plcs bs.length hn W
  have HCL := hide hcl
  have HFIN : Hid (∀ e w', ((∃ P, Places slots ext bs P ∧ HPl w' w.heap.size P ∧ e = .returned (.tuple #[.slice (some ⟨w.heap.size, 0, none⟩) bs.length bs.length, .bool true])) ∨ ((∃ i, i < bs.length ∧ ∀ p, ¬ plc slots ext bs.length (bs.getD 0 []).length i (bs.getD i []) p) ∧ e = .returned (.tuple #[.slice none 0 0, .bool false]))) → Below w.heap.size w w' → RdP w slots ext bs e w') := hide fun e w' h1 h2 => ⟨h1, h2⟩
  have HW0 : Hid (RpW w (w.alloc (.cells ((List.replicate bs.length (none : Option Rc)).flatMap plV).toArray 135)) slots ext bs (List.replicate bs.length none) 0) := hide ⟨(Below.refl _ _).alloc (Nat.le_refl _) _, Go.heap_alloc_new _ _, by simp, fun j hj => by omega, fun j _ => by simp [List.getD, List.getElem?_replicate]; split <;> rfl⟩
  have HNN : Hid (bs.length = 1 ∨ bs.length = 2 ∨ bs.length = 4) := hide hn
  have hn4 : bs.length ≤ 4 := by omega
  have hn1 : 1 ≤ bs.length := by omega
  clear hcl hn
  generalize hln : bs.length = n at *
  have HLN := hide hln
  clear hln
  obtain ⟨x0, y00, y01⟩ := HCL.out 0 (by omega)
  obtain ⟨a0, cap0, rfl, y02, y03, y04, y05, y06⟩ := y01
  generalize hl0 : (bs.getD 0 []).length = len0 at *
  have y00 : w.cell? ⟨gr, off, none⟩ = some (.slice a0 len0 cap0) := by simpa using y00
  have HY0 := hide y00
  have hgr : gr < w.heap.size := by
    rcases Nat.lt_or_ge gr w.heap.size with h | h
    · exact h
    · simp [World.cell?, Array.getElem?_eq_none h] at y00
  have HGR := hide hgr
  have HL0 := hide hl0
  clear y00 y04 y05 y06 hgr hl0
  go_enter Try.func36, Try.ntmps36
  go_wp2_with fail
  clear hmk
  go_loopw [18] (fun x wr => ∃ i : Nat, ∃ P : List (Option Rc), i ≤ n ∧ x = .int .i64 (i : Int) ∧ RpW w wr slots ext bs P i) (fun x _ => n - (intOf x).toNat)
  case atStart => exact ⟨0, List.replicate n none, by omega, rfl, HW0.out⟩
  case round =>
    clear HW0
    obtain ⟨i, P, hi, rfl, hrp⟩ := hrel
    have HRP := hide hrp
    clear hrp
    by_cases hlt : i < n
    · have hil : (i : Int) < (n : Int) := by omega
      obtain ⟨xi, y10, y11⟩ := HCL.out i hlt
      have HBS := hide (y11.below HRP.out.be)
      have HBYT : Hid (∀ b ∈ bs.getD i [], b < 256) := hide (by obtain ⟨_, _, _, _, _, _, q, _⟩ := y11; exact q)
      have d0 : wr.cell? ⟨gr, off, none⟩ = some (.slice a0 len0 cap0) := by rw [HRP.out.be.cell HGR.out]; exact HY0.out
      have d1 : wr.cell? ⟨gr, off + i, none⟩ = some xi := by rw [HRP.out.be.cell HGR.out]; exact y10
      clear y10 y11
      have hB := HBS.out
      obtain ⟨a1, cap1, rfl, y12, y13, y14, y15, y16⟩ := hB
      clear y14 y15 y16
      have HPLC : Hid (∀ p, plc slots ext n len0 i (bs.getD i []) p → (bs.getD i []).length = len0 ∧ vsz (bs.getD i []).length) := hide fun p h => h.1
      have HNO : Hid ((∀ p, ¬ plc slots ext n len0 i (bs.getD i []) p) → ∃ i, i < n ∧ ∀ p, ¬ plc slots ext n len0 i (bs.getD i []) p) := hide fun h => ⟨i, hlt, h⟩
      generalize hLL : (bs.getD i []).length = LL at *
      have HLL := hide hLL
      clear hLL
      by_cases hsz : LL = len0
      · subst hsz
        have HVS := hide fun x => vsizeZ_any x (LL : Int)
        cases hok : okZ (LL : Int) with
        | false =>
          rw [hok] at HVS
          have HBAD : Hid (∀ p, ¬ plc slots ext n LL i (bs.getD i []) p) := hide fun p hp => by
            have := (HPLC.out p hp).2
            have h9 : okZ (LL : Int) = true := okZ_iff.2 (by unfold vsz at this; omega)
            rw [hok] at h9; cases h9
          have HBE := hide HRP.out.be
          go_wp2_with (go_at_call 54; refine (HVS.out _).mono ?_; rintro e y ⟨rfl, rfl⟩)
          go_ret2
          exact HFIN.out _ _ (.inr ⟨HNO.out HBAD.out, rfl⟩) HBE.out
        | true =>
          rw [hok] at HVS
          have hvs : vsz LL := by have := okZ_iff.1 hok; unfold vsz; omega
          have hge := hvs.ge
          have HIB := hide (isBlank_any _ _ wr HBS.out)
          by_cases hbl : ∀ b ∈ bs.getD i [], b = 0
          · rw [decide_eq_true hbl] at HIB
            have HNX := hide (HRP.out.blank (by rw [HLN.out, HL0.out]; exact ⟨⟨HLL.out, by rw [HLL.out]; exact hvs⟩, .inl ⟨rfl, hbl⟩⟩))
            go_wp2_with (first
              | (go_at_call 54; refine (HVS.out _).mono ?_; rintro e y ⟨rfl, rfl⟩)
              | (go_at_call 64; refine HIB.out.mono ?_; rintro e y ⟨rfl, rfl⟩))
            go_roundw
            case rel => exact ⟨i + 1, P, by omega, by go_num, HNX.out⟩
            case measure => simp [intOf]; omega
          · rw [decide_eq_false hbl] at HIB
            have HPA := hide (parse_any wr _ _ HBS.out (by rw [HLL.out]; exact hvs))
            obtain ⟨num, age, slots0, c0, c1, c2, st, z0, z1, z2, z3, e4, e5⟩ : ∃ num age slots0 : Nat, ∃ c0 c1 c2 st z0 z1 z2 z3 : Int, recI (prs (bs.getD i [])) = #[.int .u32 (num : Int), .int .i64 (age : Int), .int .i64 (slots0 : Int), .int .i64 c0, .int .i64 c1, .int .i64 c2, .int .i64 st, .int .i64 z0, .int .i64 z1, .int .i64 z2, .int .i64 z3] ∧ (prs (bs.getD i [])).num = num := ⟨_, _, _, _, _, _, _, _, _, _, _, rfl, rfl⟩
            have HVA := hide fun x => validP_any x (bs.getD i []) slots ext h1 h2 HBYT.out
            have hnum : num < 4294967296 := by
              rw [← e5]
              exact bval_u32 (fun b hb => HBYT.out b (List.mem_of_mem_drop (List.mem_of_mem_take hb))) (by simp; omega)
            have HPV : Hid (plV (some (prs (bs.getD i []))) = [.int .u32 (num : Int), .int .i64 (age : Int), .int .i64 (slots0 : Int), .int .i64 c0, .int .i64 c1, .int .i64 c2, .int .i64 st, .int .i64 z0, .int .i64 z1, .int .i64 z2, .int .i64 z3, .bool true]) := hide (by
              show (recI (prs (bs.getD i []))).toList ++ [.bool true] = _
              rw [e4]; rfl)
            have HGOOD : Hid (bs.getD i [] = (prs (bs.getD i [])).bytes LL → (prs (bs.getD i [])).Ok slots ext → num % n = i → plc slots ext bs.length (bs.getD 0 []).length i (bs.getD i []) (some (prs (bs.getD i [])))) := hide fun q1 q2 q3 => by
              rw [HLN.out, HL0.out]
              exact ⟨⟨HLL.out, by rw [HLL.out]; exact hvs⟩, .inr ⟨rfl, hbl, by rw [HLL.out]; exact q1.symm, q2, by rw [e5]; exact q3⟩⟩
            have HBAD : Hid (¬ (bs.getD i [] = (prs (bs.getD i [])).bytes LL ∧ (prs (bs.getD i [])).Ok slots ext ∧ num % n = i) → ∀ p, ¬ plc slots ext n LL i (bs.getD i []) p) := hide fun hne p hp => by
              rcases hp.2 with ⟨-, q⟩ | ⟨-, -, q1, q2, q3⟩
              · exact hbl q
              · exact hne ⟨by rw [HLL.out] at q1; exact q1.symm, q2, by rw [e5] at q3; exact q3⟩
            rw [HLL.out, e4] at HPA
            rw [e4] at HVA
            have HBL := hide hbl
            clear hbl e4 e5 HPLC
            obtain ⟨bk, hbk⟩ : ∃ bk, decide (bs.getD i [] = (prs (bs.getD i [])).bytes LL) = bk := ⟨_, rfl⟩
            rw [hbk] at HPA
            have HBK : Hid (bk = true ↔ bs.getD i [] = (prs (bs.getD i [])).bytes LL) := hide (by rw [← hbk]; exact decide_eq_true_iff)
            clear hbk
            generalize (bs.getD i [] = (prs (bs.getD i [])).bytes LL) = PK at *
            generalize (prs (bs.getD i [])).Ok slots ext = OK at *
            generalize prs (bs.getD i []) = RR at *
            have HZ : Hid (∀ wy : World, (wy.alloc (.cells zrec 90)).heap[wy.heap.size]? = some (.cells zrec 90 (0, 0))) := hide fun wy => Go.heap_alloc_new _ _
            have HIX := hide fun x => hidx_any x (some ⟨w.heap.size, 0, none⟩) n num hn1 hn4 hnum
            have HNUM := hide hnum
            clear hnum h1 h2 HCL HY0 HBS HBYT HNN
            cases bk with
            | false =>
              have HB1 : Hid (∀ p, ¬ plc slots ext n LL i (bs.getD i []) p) := hide (HBAD.out fun h => by have := HBK.out.2 h.1; cases this)
              go_wp2_with (first
                | (go_at_call 54; refine (HVS.out _).mono ?_; rintro e y ⟨rfl, rfl⟩)
                | (go_at_call 64; refine HIB.out.mono ?_; rintro e y ⟨rfl, rfl⟩)
                | (go_at_call 65; refine HPA.out.mono ?_; rintro e wy ⟨rfl, hby⟩; have HRY := hide (HRP.out.below hby); have HRZ := hide (HRY.out.below ((Below.refl _ _).alloc (Nat.le_refl _) (.cells #[.int .u32 (num : Int), .int .i64 (age : Int), .int .i64 (slots0 : Int), .int .i64 c0, .int .i64 c1, .int .i64 c2, .int .i64 st, .int .i64 z0, .int .i64 z1, .int .i64 z2, .int .i64 z3] 90))); clear hby HPA)
                | (refine wpList_store_row rfl 90 (.tmp 11) (.tmp 41) rfl wy.heap.size _ rfl rfl 90 zrec (HZ.out _) recSize rfl (by first | kernel_rfl | simp [Value.oneCell']) ?_; rw [World.setRow_alloc_new]))
              go_ret2
              exact HFIN.out _ _ (.inr ⟨HNO.out HB1.out, rfl⟩) HRZ.out.be
            | true =>
              have HPK : Hid PK := hide (HBK.out.1 rfl)
              go_wp2_with (first
                | (go_at_call 54; refine (HVS.out _).mono ?_; rintro e y ⟨rfl, rfl⟩)
                | (go_at_call 64; refine HIB.out.mono ?_; rintro e y ⟨rfl, rfl⟩)
                | (go_at_call 65; refine HPA.out.mono ?_; rintro e wy ⟨rfl, hby⟩; have HRY := hide (HRP.out.below hby); have HRZ := hide (HRY.out.below ((Below.refl _ _).alloc (Nat.le_refl _) (.cells #[.int .u32 (num : Int), .int .i64 (age : Int), .int .i64 (slots0 : Int), .int .i64 c0, .int .i64 c1, .int .i64 c2, .int .i64 st, .int .i64 z0, .int .i64 z1, .int .i64 z2, .int .i64 z3] 90))); have HBX := hide (Go.heap_alloc_new wy (.cells #[.int .u32 (num : Int), .int .i64 (age : Int), .int .i64 (slots0 : Int), .int .i64 c0, .int .i64 c1, .int .i64 c2, .int .i64 st, .int .i64 z0, .int .i64 z1, .int .i64 z2, .int .i64 z3] 90)); clear hby HPA)
                | (refine wpList_store_row rfl 90 (.tmp 11) (.tmp 41) rfl wy.heap.size _ rfl rfl 90 zrec (HZ.out _) recSize rfl (by first | kernel_rfl | simp [Value.oneCell']) ?_; rw [World.setRow_alloc_new])
                | (go_at_call 66; refine (HVA.out _).mono ?_; rintro e wz ⟨bv, rfl, hbv, hbz⟩; have HRW := hide (HRZ.out.below hbz); have HBW := hide ((hbz.block _ (Array.getElem?_eq_some_iff.1 HBX.out).1).trans HBX.out); have n0 : wz.cell? ⟨wy.heap.size, 0, none⟩ = some (.int .u32 (num : Int)) := cell_of_row _ _ _ _ _ _ HBW.out; have HBV := hide hbv; clear hbz hbv HVA; cases bv)
                | (refine wpList_load_row rfl 90 (.tmp 11) rfl wy.heap.size rfl 90 #[.int .u32 (num : Int), .int .i64 (age : Int), .int .i64 (slots0 : Int), .int .i64 c0, .int .i64 c1, .int .i64 c2, .int .i64 st, .int .i64 z0, .int .i64 z1, .int .i64 z2, .int .i64 z3] (0, 0) _ HBW.out Try.underlying90 rfl recSize ?_)
                | (refine wpList_store_mid rfl 135 (.tmp 64) (.tmp 63) rfl w.heap.size (i * 12) #[.int .u32 (num : Int), .int .i64 (age : Int), .int .i64 (slots0 : Int), .int .i64 c0, .int .i64 c1, .int .i64 c2, .int .i64 st, .int .i64 z0, .int .i64 z1, .int .i64 z2, .int .i64 z3, .bool true] rfl rfl (HRW.out.there (by rw [HLN.out]; exact hlt)) placeSize (by first | kernel_rfl | simp [Value.oneCell']) ?_; generalize hws : World.setCells _ w.heap.size (i * 12) _ = ws; have HWS := hide hws; clear hws)
                | (go_at_call 67; refine (HIX.out _).mono ?_; rintro e wq ⟨rfl, rfl⟩; clear HIX))
              · have HB1 : Hid (∀ p, ¬ plc slots ext n LL i (bs.getD i []) p) := hide (HBAD.out fun h => by have := HBV.out.2 h.2.1; first | (cases this; done) | exact this.elim)
                go_ret2
                exact HFIN.out _ _ (.inr ⟨HNO.out HB1.out, rfl⟩) HRW.out.be
              · rename_i hne
                have hne : ¬ num % n = i := by intro e; rw [← e] at hne; simp at hne
                have HB1 : Hid (∀ p, ¬ plc slots ext n LL i (bs.getD i []) p) := hide (HBAD.out fun h => hne h.2.2)
                go_ret2
                exact HFIN.out _ _ (.inr ⟨HNO.out HB1.out, rfl⟩) HRW.out.be
              · rename_i hne
                have hne : num % n = i := by
                  have h7 : ((num : Int) % (n : Int)) = (i : Int) := by simpa using hne
                  exact_mod_cast h7
                have HNX := hide (HRW.out.store (by rw [HLN.out]; exact hlt) (HGOOD.out HPK.out (HBV.out.1 (by first | trivial | rfl)) hne))
                rw [HPV.out] at HNX
                have hws := HWS.out
                rw [show (#[.int .u32 (num : Int), .int .i64 (age : Int), .int .i64 (slots0 : Int), .int .i64 c0, .int .i64 c1, .int .i64 c2, .int .i64 st, .int .i64 z0, .int .i64 z1, .int .i64 z2, .int .i64 z3, .bool true] : Array Value).toList = [.int .u32 (num : Int), .int .i64 (age : Int), .int .i64 (slots0 : Int), .int .i64 c0, .int .i64 c1, .int .i64 c2, .int .i64 st, .int .i64 z0, .int .i64 z1, .int .i64 z2, .int .i64 z3, .bool true] from rfl] at hws
                rw [hws] at HNX
                clear hws
                go_roundw
                case rel => exact ⟨i + 1, _, by omega, by go_num, HNX.out⟩
                case measure => simp [intOf]; omega
      · have HBAD : Hid (∀ p, ¬ plc slots ext n len0 i (bs.getD i []) p) := hide fun p hp => hsz (HPLC.out p hp).1
        have HBE := hide HRP.out.be
        have hsz2 : ¬ (LL : Int) = (len0 : Int) := by omega
        go_wp2_with fail
        go_ret2
        exact HFIN.out _ _ (.inr ⟨HNO.out HBAD.out, rfl⟩) HBE.out
    · have HPL : Hid (Places slots ext bs P) := hide ⟨HRP.out.len, fun j hj => HRP.out.ok j (by rw [HLN.out] at hj; omega)⟩
      go_wp2_with fail
      go_ret2
      exact HFIN.out _ _ (.inl ⟨P, HPL.out, HRP.out.pl, rfl⟩) HRP.out.be
end Go.Proofs.Ytlkccencilhacaa
namespace Go.Proofs.Ytlkccencilhacaa
open Go.RowKit Go.Sort
open Num
set_option linter.unusedVariables false
set_option linter.unusedSimpArgs false
set_option maxRecDepth 20000

theorem Places.gd {slots ext : Nat} {bs : List (List Nat)} {P : List (Option Rc)} (h : Places slots ext bs P) (hs : slots ≤ 16) : ∀ (i : Nat) (r : Rc), P[i]? = some (some r) → GdR r slots ∧ r.Ok slots ext := by
  intro i r hr
  have hi : i < P.length := (List.getElem?_eq_some_iff.1 hr).1
  have hp := h.2 i (by rw [← h.1]; exact hi)
  have e : P.getD i none = some r := by rw [List.getD_eq_getElem?_getD, hr]; rfl
  rw [e] at hp
  rcases hp.2 with ⟨q, -⟩ | ⟨q, -, q2, q3, -⟩
  · cases q
  · have hq := Option.some.inj q
    generalize bs.getD i [] = l at *
    have hb : ∀ b ∈ l, b < 256 := fun b hb => by rw [← q2] at hb; exact bytes_lt _ _ b hb
    rw [← hq] at q3
    have hst0 := q3.s0
    have hst1 := q3.s1
    refine ⟨⟨?_, ?_, q3.sl, hst0, by omega, by rw [← q3.ca, ctxL_len]⟩, q3⟩
    · rw [hq]; exact bval_u32 (fun b hb' => hb b (List.mem_of_mem_drop (List.mem_of_mem_take hb'))) (by simp; omega)
    · rw [hq]
      have h := bval_lt ((l.drop 8).take 2) (fun b hb' => hb b (List.mem_of_mem_drop (List.mem_of_mem_take hb'))) 0
      have h3 : ((l.drop 8).take 2).length ≤ 2 := by simp; omega
      have h4 : 256 ^ ((l.drop 8).take 2).length ≤ 256 ^ 2 := Nat.pow_le_pow_right (by decide) h3
      show bvA l 8 2 < 65536
      unfold bvA bval
      omega
theorem layI_any {w : World} {g slots ext : Nat} {zs : List Int} (r : Rc) (hr : w.heap[g]? = some (.cells (ints zs) 3 (0, 0))) (h1 : 1 ≤ zs.length) (h2 : zs.length ≤ 16) (hz : zs.length = slots) (ho : r.Ok slots ext) :
    Calls Try.prog 41 #[.agg (recI r), .slice (some ⟨g, 0, none⟩) zs.length zs.length] w fun e w' => e = .returned (.tuple #[]) ∧ w'.heap[g]? = some (.cells (ints (layR r zs)) 3 (0, 0)) ∧ Chg (fun x => x = g) w w' := by
  have a0 := ho.a0; have a1 := ho.a1; have s0 := ho.s0; have s1 := ho.s1
  have hC : r.C.length = 4 := by rw [← ho.ca, ctxL_len]
  match r, hC, a0, a1, s0, s1 with
  | ⟨num, age, sl, c0, c1, c2, st, [z0, z1, z2, z3]⟩, _, a0, a1, s0, s1 =>
    simp only at a0 a1 s0 s1
    obtain ⟨cn, rfl⟩ : ∃ k : Nat, c0 = (k : Int) := ⟨c0.toNat, by omega⟩
    obtain ⟨sn, rfl⟩ : ∃ k : Nat, st = (k : Int) := ⟨st.toNat, by omega⟩
    exact lay_any num age sl cn c1 c2 sn z0 z1 z2 z3 hr h1 h2 (by omega) (by omega)
/-- what Replay answers -/
def RplP (w : World) (slots ext : Nat) (bs : List (List Nat)) (e : Ending) (w' : World) : Prop := ∃ res, RpRes slots ext bs res ∧ Below w.heap.size w w' ∧ match res with
  | none => e = .returned (.tuple #[.slice none 0 0, .int .u32 0, .int .i64 43])
  | some (row, N) => ∃ g, w.heap.size ≤ g ∧ e = .returned (.tuple #[.slice (some ⟨g, 0, none⟩) slots slots, .int .u32 ((N : Nat) : Int), .int .i64 0]) ∧ w'.heap[g]? = some (.cells (ints row) 3 (0, 0)) ∧ row.length = slots
/-- while the rows are laid -/
structure LaW (w wr : World) (slots : Nat) (rs : List Rc) (v : Value) (g bx : Nat) (num m : Nat) : Prop where
  be : Below w.heap.size w wr
  run : RRow wr v rs
  own : ∀ b, v.ownBlock = some b → b < g
  row : wr.heap[g]? = some (.cells (ints (rowOf slots (rs.drop m))) 3 (0, 0))
  bx0 : ∃ cs, wr.heap[bx]? = some (.cells cs 90 (0, 0)) ∧ cs[0]? = some (.int .u32 (num : Int))
  blt : bx < g
  lo : w.heap.size ≤ g
  ml : m ≤ rs.length
theorem rowOf_len (slots : Nat) : ∀ rs : List Rc, (rowOf slots rs).length = slots
  | [] => by simp [rowOf]
  | r :: rs => by have := rowOf_len slots rs; unfold rowOf at this ⊢; rw [List.foldr_cons, layR_len]; exact this
theorem LaW.lay {w x y : World} {slots : Nat} {rs : List Rc} {v : Value} {g bx num m : Nat} (h : LaW w x slots rs v g bx num (m + 1)) {r : Rc} (hr : rs[m]? = some r) (hy : y.heap[g]? = some (.cells (ints (layR r (rowOf slots (rs.drop (m + 1))))) 3 (0, 0))) (hc : Chg (fun b => b = g) x y) : LaW w y slots rs v g bx num m := by
  have hml := h.ml
  obtain ⟨cs, q1, q2⟩ := h.bx0
  have hblt := h.blt
  have hm : m < rs.length := by omega
  refine ⟨h.be.trans (hc.below h.be.size fun b e => by have := h.lo; omega), rowKept h.run fun g' hg' => ?_, h.own, ?_, ⟨cs, (hc.keep _ (Array.getElem?_eq_some_iff.1 q1).1 (by omega)).trans q1, q2⟩, hblt, h.lo, by omega⟩
  · obtain ⟨ds, hd⟩ := rowCells h.run hg'
    exact hc.keep _ (Array.getElem?_eq_some_iff.1 hd).1 (by have := h.own _ hg'; omega)
  · have e : rs.drop m = r :: rs.drop (m + 1) := by
      rw [List.drop_eq_getElem_cons hm]
      congr 1
      rw [List.getElem?_eq_getElem hm] at hr
      exact Option.some.inj hr
    rw [hy, e]
    rfl
theorem Run.ok {slots ext : Nat} {bs : List (List Nat)} {P : List (Option Rc)} {r : Rc} {rs : List Rc} (h : Run P r rs) (hn : Newest P r) (hP : Places slots ext bs P) (hs : slots ≤ 16) (hl : 1 ≤ P.length) : ∀ (k : Nat) (q : Rc), rs[k]? = some q → q.Ok slots ext := by
  intro k q hq
  obtain ⟨p1, p2⟩ := h.pl k q hq
  by_cases e : k = 0
  · rw [p1 e]
    obtain ⟨i, hi, -⟩ := hn
    exact (hP.gd hs i r hi).2
  · have h1 := p2 (by omega)
    unfold pAt at h1
    rw [List.getD_eq_getElem?_getD, List.getElem?_eq_getElem (Nat.mod_lt _ (by omega))] at h1
    exact (hP.gd hs _ q (by rw [List.getElem?_eq_getElem (Nat.mod_lt _ (by omega))]; simpa using h1)).2
set_option maxHeartbeats 4000000 in
theorem replay_any {w : World} {v : Value} {bs : List (List Nat)} (slots ext : Nat) (hv : RSl w v bs) (h1 : 1 ≤ slots) (h2 : slots ≤ 16) (h3 : 1 ≤ ext) (h4 : ext ≤ 1024) (hln : (bs.length : Int) = ringN (slots : Int)) :
    Calls Try.prog 9 #[.int .i64 (slots : Int), .int .i64 (ext : Int), v] w (RplP w slots ext bs) := by
  have hn : bs.length = 1 ∨ bs.length = 2 ∨ bs.length = 4 := by
    unfold ringN at hln
    rw [if_neg (by omega)] at hln
    split at hln
    · omega
    · split at hln <;> omega
  have HVS := hide fun x => validSlots_any x (slots : Int)
  rw [decide_eq_true (by omega)] at HVS
  have HVE := hide fun x => vext_any x (ext : Int)
  rw [decide_eq_true (by omega)] at HVE
  have HRG := hide fun x => ring_any x (slots : Int)
  rw [← hln] at HRG
  have HRD := hide (readPl_any slots ext hv hn h1 h2)
  have HFR := hide fun x => freeRow_any x slots h1 h2
  have hn4 : bs.length ≤ 4 := by omega
  have hn1 : 1 ≤ bs.length := by omega
  obtain ⟨gr, off, cap, rfl, -, -, -⟩ := hv
  clear hln hn
  generalize hl : bs.length = n at *
  have HL := hide hl
  clear hl
  go_enter Try.func9, Try.ntmps9
  go_wp2_with (first
    | (go_at_call 34; refine (HVS.out _).mono ?_; rintro e y ⟨rfl, rfl⟩)
    | (go_at_call 35; refine (HVE.out _).mono ?_; rintro e y ⟨rfl, rfl⟩)
    | (go_at_call 30; refine (HRG.out _).mono ?_; rintro e y ⟨rfl, rfl⟩)
    | (go_at_call 36; refine HRD.out.mono ?_; rintro e w1 ⟨hor, hb1⟩; rw [HL.out] at hor; rcases hor with ⟨P, hP, hPl, rfl⟩ | ⟨hbad, rfl⟩))
  · have HPP := hide hP
    have HPL := hide hPl
    have HB1 := hide hb1
    have HLP : Hid (P.length = n) := hide (by rw [← HL.out]; exact hP.1)
    have HBK := hide (hblank_any hPl (by rw [hP.1, HL.out]; exact hn4))
    rw [HLP.out] at HBK
    clear hP hPl hb1 HRD HVS HVE HRG
    go_wp2_with (go_at_call 37; refine HBK.out.mono ?_; rintro e w2 ⟨bb, rfl, hbb, hb2⟩; have HBB := hide hbb; have HB2 := hide (HB1.out.trans (hb2.mono HB1.out.size)); have HPL2 := hide (HPL.out.below hb2 (Array.getElem?_eq_some_iff.1 HPL.out).1); clear hbb hb2; cases bb)
    · -- some place is filled
      have HNB : Hid (¬ ∀ p ∈ P, p = none) := hide fun h => by have := HBB.out.2 h; first | (cases this; done) | exact this.elim
      have HNW := hide (hnew_any HPL2.out (by rw [HLP.out]; exact hn1) (by rw [HLP.out]; exact hn4) (fun i r hr => (HPP.out.gd h2 i r hr).1.n))
      rw [HLP.out] at HNW
      have HZ : Hid (∀ wy : World, (wy.alloc (.cells zrec 90)).heap[wy.heap.size]? = some (.cells zrec 90 (0, 0))) := hide fun wy => Go.heap_alloc_new _ _
      clear HBK HBB
      go_wp2_with (go_at_call 39; refine HNW.out.mono ?_; rintro e w3 ⟨hor, hb3⟩; have HB3 := hide (HB2.out.trans (hb3.mono HB2.out.size)); have HPL3 := hide (HPL2.out.below hb3 (Array.getElem?_eq_some_iff.1 HPL2.out).1); clear hb3; rcases hor with ⟨r, hr, rfl⟩ | ⟨hr, rfl⟩)
      · obtain ⟨num, age, sl0, c0, c1, c2, st, z0, z1, z2, z3, e4, e5⟩ : ∃ num age sl0 : Nat, ∃ c0 c1 c2 st z0 z1 z2 z3 : Int, recI r = #[.int .u32 (num : Int), .int .i64 (age : Int), .int .i64 (sl0 : Int), .int .i64 c0, .int .i64 c1, .int .i64 c2, .int .i64 st, .int .i64 z0, .int .i64 z1, .int .i64 z2, .int .i64 z3] ∧ r.num = num := ⟨_, _, _, _, _, _, _, _, _, _, _, rfl, rfl⟩
        have HNEW := hide hr
        have HE4 := hide e4
        have HE5 := hide e5
        have HGR : Hid (GdR r slots) := hide (by obtain ⟨i, hi, -⟩ := hr; exact (HPP.out.gd h2 i r hi).1)
        have HP4 : Hid (HPl (w3.alloc (.cells #[.int .u32 (num : Int), .int .i64 (age : Int), .int .i64 (sl0 : Int), .int .i64 c0, .int .i64 c1, .int .i64 c2, .int .i64 st, .int .i64 z0, .int .i64 z1, .int .i64 z2, .int .i64 z3] 90)) y.heap.size P ∧ Below y.heap.size y (w3.alloc (.cells #[.int .u32 (num : Int), .int .i64 (age : Int), .int .i64 (sl0 : Int), .int .i64 c0, .int .i64 c1, .int .i64 c2, .int .i64 st, .int .i64 z0, .int .i64 z1, .int .i64 z2, .int .i64 z3] 90)) ∧ (w3.alloc (.cells #[.int .u32 (num : Int), .int .i64 (age : Int), .int .i64 (sl0 : Int), .int .i64 c0, .int .i64 c1, .int .i64 c2, .int .i64 st, .int .i64 z0, .int .i64 z1, .int .i64 z2, .int .i64 z3] 90)).heap[w3.heap.size]? = some (.cells #[.int .u32 (num : Int), .int .i64 (age : Int), .int .i64 (sl0 : Int), .int .i64 c0, .int .i64 c1, .int .i64 c2, .int .i64 st, .int .i64 z0, .int .i64 z1, .int .i64 z2, .int .i64 z3] 90 (0, 0))) := hide ⟨HPL3.out.below ((Below.refl _ _).alloc (Nat.le_refl _) _) (Array.getElem?_eq_some_iff.1 HPL3.out).1, HB3.out.alloc HB3.out.size _, Go.heap_alloc_new _ _⟩
        have HRN := hide (hrun_any HP4.out.1 (by rw [HLP.out]; exact hn1) (by rw [HLP.out]; exact hn4) h1 h2 r HGR.out (fun i q hq => (HPP.out.gd h2 i q hq).1))
        rw [HLP.out, e4] at HRN
        rw [e4]
        clear e4 e5 hr
        go_wp2_with (first
          | (refine wpList_store_row rfl 90 (.tmp 11) (.tmp 44) rfl w3.heap.size _ rfl rfl 90 zrec (HZ.out _) recSize rfl (by first | kernel_rfl | simp [Value.oneCell']) ?_; rw [World.setRow_alloc_new])
          | (go_at_call 40; refine HRN.out.mono ?_; rintro e w5 ⟨hor, hb5⟩; have HB5 := hide (HP4.out.2.1.trans (hb5.mono HP4.out.2.1.size)); have HBX5 := hide ((hb5.block _ (Array.getElem?_eq_some_iff.1 HP4.out.2.2).1).trans HP4.out.2.2); clear hb5 HRN; rcases hor with ⟨rs, vr, hrun, rfl, hrow, hown⟩ | ⟨hbad, rfl⟩))
        · obtain ⟨va, vcap, rfl, hvc1, hvc2⟩ := rowForm hrow
          have hrl : 1 ≤ rs.length := by rw [hrun.len, HLP.out]; omega
          obtain ⟨g2, rfl⟩ : ∃ g2, va = some ⟨g2, 0, none⟩ := by
            rcases hrow.2 with ⟨e, e2⟩ | ⟨g', cap', cur, e, _⟩
            · omega
            · simp only [Value.slice.injEq] at e
              exact ⟨g', e.1⟩
          have hvl : rs.length ≤ 4 := by rw [hrun.len, HLP.out]; omega
          have HRUN := hide hrun
          have HRO : Hid (∀ (k : Nat) (q : Rc), rs[k]? = some q → q.Ok slots ext) := hide (hrun.ok HNEW.out HPP.out h2 (by rw [HLP.out]; exact hn1))
          have HLA : Hid (∀ w6, w6.heap[w5.heap.size]? = some (.cells (ints (List.replicate slots (-1))) 3 (0, 0)) → Below w5.heap.size w5 w6 → LaW y w6 slots rs (.slice (some ⟨g2, 0, none⟩) rs.length vcap) w5.heap.size w3.heap.size num rs.length) := hide fun w6 h6 hb6 => by
            obtain ⟨cs, hcs⟩ := rowCells hrow (g := g2) rfl
            have hg2 := (Array.getElem?_eq_some_iff.1 hcs).1
            have hb3 := (Array.getElem?_eq_some_iff.1 HBX5.out).1
            exact ⟨HB5.out.trans (hb6.mono HB5.out.size), rowKept hrow fun g' hg' => (by simp [Value.ownBlock] at hg'; subst hg'; exact hb6.block _ hg2), fun b hb => (by simp [Value.ownBlock] at hb; omega), (by rw [h6, List.drop_length]; rfl), ⟨_, (hb6.block _ hb3).trans HBX5.out, rfl⟩, hb3, HB5.out.size, Nat.le_refl _⟩
          have HRES : Hid (∀ w7 g, LaW y w7 slots rs (.slice (some ⟨g2, 0, none⟩) rs.length vcap) g w3.heap.size num 0 → RplP y slots ext bs (.returned (.tuple #[.slice (some ⟨g, 0, none⟩) slots slots, .int .u32 (((num + 1) % 4294967296 : Nat) : Int), .int .i64 0])) w7) := hide fun w7 g h7 => by
            refine ⟨some (rowOf slots rs, (num + 1) % 4294967296), ⟨P, HPP.out, .inr ⟨HNB.out, r, rs, HNEW.out, HRUN.out, rfl, by rw [HE5.out]⟩⟩, h7.be, g, h7.lo, rfl, by have := h7.row; rwa [List.drop_zero] at this, rowOf_len _ _⟩
          clear hrow hown hrun HZ HNW HPP HNEW HRUN HNB HGR HP4 HPL HPL2 HPL3 HE4 HE5
          generalize hk : rs.length = K at *
          have HK := hide hk
          clear hk
          go_wp2_with (go_at_call 38; refine (HFR.out _).mono ?_; rintro e w6 ⟨rfl, hr6, hb6⟩; have HL6 := hide (HLA.out _ hr6 hb6); clear hr6 hb6 HLA)
          generalize hg5 : w5.heap.size = g5 at *
          clear hg5
          go_loopw [14] (fun x wr => ∃ m : Nat, m ≤ K ∧ x = .int .i64 ((m : Int) - 1) ∧ LaW y wr slots rs (.slice (some ⟨g2, 0, none⟩) K vcap) g5 w3.heap.size num m) (fun x _ => (intOf x + 1).toNat)
          case atStart => exact ⟨K, Nat.le_refl _, rfl, HL6.out⟩
          case round =>
            clear HL6
            obtain ⟨m, hmK, rfl, hla⟩ := hrel
            have HLW := hide hla
            cases m with
            | zero =>
              obtain ⟨cs, q1, q2⟩ := hla.bx0
              have k0 : wr.cell? ⟨w3.heap.size, 0, none⟩ = some (.int .u32 (num : Int)) := by rw [cell_of_row _ _ _ _ _ _ q1]; exact q2
              have HFI : Hid (∀ q, RplP y slots ext bs (.returned (.tuple #[.slice (some ⟨g5, 0, none⟩) slots slots, .int .u32 (((num : Int) + 1) % 4294967296), .int .i64 0])) (wr.drewN q)) := hide fun q => by
                have hb := ((Qt.refl wr).drewN q).2
                have h7 := HRES.out (wr.drewN q) g5 ⟨hla.be.trans (hb.mono hla.be.size), rowKept hla.run fun g' hg' => (by obtain ⟨ds, hd⟩ := rowCells hla.run hg'; exact hb.block _ (Array.getElem?_eq_some_iff.1 hd).1), hla.own, (hb.block _ (Array.getElem?_eq_some_iff.1 hla.row).1).trans hla.row, ⟨cs, (hb.block _ (Array.getElem?_eq_some_iff.1 q1).1).trans q1, q2⟩, hla.blt, hla.lo, by omega⟩
                rwa [show (((num + 1) % 4294967296 : Nat) : Int) = ((num : Int) + 1) % 4294967296 by omega] at h7
              clear hla q1 q2 HLW HRES
              go_wp2_with fail
              go_quiet (fail)
              go_wp2_with fail
              go_ret3
              exact HFI.out _
            | succ m =>
              have hm1 : ((m + 1 : Nat) : Int) - 1 = (m : Int) := by omega
              rw [hm1]
              obtain ⟨q, hq⟩ : ∃ q, rs[m]? = some q := ⟨_, List.getElem?_eq_getElem (by rw [HK.out]; omega)⟩
              have HRG2 : Hid (wr.rangeAt g2 (m * 11) (recI q).toList) := hide ((by have := hla.run; rw [← HK.out] at this; exact this : RRow wr (.slice (some ⟨g2, 0, none⟩) rs.length vcap) rs).range hq)
              have HLY := hide (layI_any q hla.row (by rw [rowOf_len]; exact h1) (by rw [rowOf_len]; exact h2) (rowOf_len _ _) (HRO.out m q hq))
              rw [rowOf_len] at HLY
              have HQ := hide hq
              have hmk : (m : Int) < (K : Int) := by omega
              have hRs : (Try.prog.info? 90).map (·.size) = some (recI q).toList.length := by rw [recI_len]; exact recSize
              clear hla hq
              go_wp2_with (first
                | refine wpList_load_mid rfl 90 (.tmp 67) rfl g2 (m * 11) rfl (recI q).toList _ HRG2.out Try.underlying90 rfl hRs ?_
                | (go_at_call 41; refine HLY.out.mono ?_; rintro e w8 ⟨rfl, h81, h82⟩; have HN8 := hide (HLW.out.lay HQ.out h81 h82); clear h81 h82))
              go_roundw
              case rel => exact ⟨m, by omega, by go_num, HN8.out⟩
              case measure => simp [intOf]
        · have HBAD := hide hbad
          clear hbad
          go_wp2_with fail
          go_ret3
          exact ⟨none, .inr ⟨P, HPP.out, HNB.out, .inr ⟨r, HNEW.out, HBAD.out⟩⟩, HB5.out, rfl⟩
      · have HNO := hide hr
        clear hr
        go_wp2_with (refine wpList_store_row rfl 90 (.tmp 11) (.tmp 44) rfl w3.heap.size zrec rfl rfl 90 zrec (HZ.out _) recSize rfl (by first | kernel_rfl | simp [Value.oneCell']) ?_; rw [World.setRow_alloc_new])
        have HBF := hide (HB3.out.alloc HB3.out.size (.cells zrec 90))
        go_ret3
        exact ⟨none, .inr ⟨P, HPP.out, HNB.out, .inl HNO.out⟩, HBF.out, rfl⟩
    · go_wp2_with (go_at_call 38; refine (HFR.out _).mono ?_; rintro e w3 ⟨rfl, hr3, hb3⟩; have HR3 := hide hr3; have HB3 := hide (HB2.out.trans (hb3.mono HB2.out.size)); clear hr3 hb3)
      go_ret3
      exact ⟨some (List.replicate slots (-1), 0), ⟨P, HPP.out, .inl ⟨HBB.out.1 (by first | trivial | rfl), rfl, rfl⟩⟩, HB3.out, w2.heap.size, HB2.out.size, rfl, HR3.out, by simp⟩
  · have HB := hide hb1
    have HBAD := hide hbad
    clear hb1 hbad
    go_wp2_with fail
    go_ret3
    exact ⟨none, .inl (by rw [HL.out]; exact HBAD.out), HB.out, rfl⟩
end Go.Proofs.Ytlkccencilhacaa
namespace Go.Proofs.Ytlkccencilhacaa
open Go.RowKit Go.Sort
open Num
set_option linter.unusedVariables false
set_option linter.unusedSimpArgs false
set_option maxRecDepth 20000

/-- bytes in memory of their own -/
structure UB (x : World) (lo : Nat) (v : Value) (l : List Nat) : Prop where
  row : x.ownsRow lo 5 1 v l.length (l.map byV)
  lt : ∀ b ∈ l, b < 256
theorem UB.sl {x : World} {lo : Nat} {v : Value} {l : List Nat} (h : UB x lo v l) : BSl x v l := by
  rcases h.row.2 with ⟨rfl, h0⟩ | ⟨g, cap, cur, rfl, hg, hh, h1, h2, h3, h4⟩
  · have : l = [] := List.eq_nil_of_length_eq_zero h0
    subst this
    exact ⟨none, 0, rfl, Nat.le_refl _, Nat.zero_le _, fun _ => rfl, h.lt, fun h => absurd h (by simp)⟩
  · refine ⟨_, cap, rfl, h1, h2, fun e => (by cases e), h.lt, fun _ => ⟨g, 0, rfl, fun i hi => ?_⟩⟩
    rw [Nat.zero_add, h.row.cellAt i (by omega)]
    simp [byV, hi, List.getD]
theorem UB.keep {x y : World} {lo : Nat} {v : Value} {l : List Nat} (h : UB x lo v l) (hk : ∀ g, v.ownBlock = some g → y.heap[g]? = x.heap[g]?) : UB y lo v l := ⟨rowKept h.row hk, h.lt⟩
theorem UB.block {x : World} {lo : Nat} {v : Value} {l : List Nat} (h : UB x lo v l) {g : Nat} (hg : v.ownBlock = some g) : ∃ cs, x.heap[g]? = some (.cells cs 5 (0, 0)) := rowCells h.row hg
theorem UB.below {x y : World} {lo : Nat} {v : Value} {l : List Nat} (h : UB x lo v l) (hb : Below x.heap.size x y) : UB y lo v l := h.keep fun g hg => by
  obtain ⟨cs, hc⟩ := h.block hg
  exact hb.block _ (Array.getElem?_eq_some_iff.1 hc).1
theorem UB.mono {x : World} {lo lo' : Nat} {v : Value} {l : List Nat} (h : UB x lo v l) (hl : lo' ≤ lo) : UB x lo' v l := by
  refine ⟨⟨h.row.1, ?_⟩, h.lt⟩
  rcases h.row.2 with h0 | ⟨g, cap, cur, e, hg, r⟩
  · exact .inl h0
  · exact .inr ⟨g, cap, cur, e, by omega, r⟩
theorem byV_one (l : List Nat) : ∀ u ∈ l.map byV, u.oneCell' = true := by
  intro u hu
  obtain ⟨_, _, rfl⟩ := List.mem_map.1 hu
  rfl
theorem BSl.newsV {w : World} {ad : Addr} {n cap : Nat} {l : List Nat} (h : BSl w (.slice (some ad) n cap) l) : ∀ j u, (l.map byV)[j]? = some u → w.cell? (ad.add j) = some u := by
  intro j u hu
  have hj : j < l.length := by simpa using (List.getElem?_eq_some_iff.1 hu).1
  obtain ⟨a, cap, e, h1, h2, h3, h4, h5⟩ := h
  simp only [Value.slice.injEq] at e
  obtain ⟨rfl, rfl, rfl⟩ := e
  obtain ⟨b, off, e, hc⟩ := h5 (by omega)
  simp only [Option.some.injEq] at e
  subst e
  rw [Addr.add_lit, hc j hj, ← hu]
  simp [byV, hj, List.getD]
set_option maxHeartbeats 1000000 in
theorem copied_any (v : Value) (l : List Nat) (w : World) (h : BSl w v l) (hr : l.length ≤ 65536) :
    Calls Try.prog 8 #[v] w fun e w' => ∃ v', e = .returned v' ∧ UB w' w.heap.size v' l ∧ Below w.heap.size w w' := by
  obtain ⟨i0, hi, hz0, hz1, hz2⟩ := info_parts info_u8
  have hmade : (w.alloc (.cells #[] 5)).ownsRow w.heap.size 5 1 (.slice (some ⟨w.heap.size, 0, none⟩) 0 0) 0 [] := World.ownsRow_made w #[] 0 (Nat.le_refl _) (by unfold maxLen; omega) rfl
  have h' := h
  obtain ⟨a, cap, rfl, hl, hm, hn, hb, hcell⟩ := h'
  cases a with
  | none =>
    have hc : cap = 0 := hn rfl
    have hl0 : l = [] := List.eq_nil_of_length_eq_zero (by omega)
    subst hl0
    subst hc
    clear hcell hn
    go_enter Try.func8, Try.ntmps8
    go_wp2
    go_ret
    exact ⟨_, rfl, ⟨hmade, by simp⟩, (Below.refl _ _).alloc (Nat.le_refl _) _⟩
  | some ad =>
    have hnews := (h.below ((Below.refl _ _).alloc (Nat.le_refl _) (.cells #[] 5))).newsV
    have hone := byV_one l
    have HB : Hid (∀ b ∈ l, b < 256) := hb
    clear hn hcell h hb
    have hnl : (l.map byV).length = l.length * 1 := by simp
    go_enter Try.func8, Try.ntmps8
    go_wp2_with (at_builtin; refine wpList_append_own _ rfl (.tmp 3) (.tmp 4) 23 rfl w.heap.size 5 i0 (.int .u8 0) 1 1 Try.underlying23 hi hz0 hz1 hz2 rfl (by decide) _ _ _ rfl hmade ad l.length cap (l.map byV) rfl hnl hnews hone (by omega) (by omega) (by simp) ?_)
    intro v' w1 hown hg _
    clear hnews hone hnl hmade
    go_wp2
    go_ret
    refine ⟨_, rfl, ⟨by simpa using hown, HB.out⟩, ((Below.refl _ _).alloc (Nat.le_refl _) _).grown hg (by simp) (by simp [Value.ownBlock])⟩
end Go.Proofs.Ytlkccencilhacaa
