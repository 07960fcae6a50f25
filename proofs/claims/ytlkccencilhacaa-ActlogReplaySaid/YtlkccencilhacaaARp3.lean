import Derived.Test.YtlkccencilhacaaALogB
namespace Go.Proofs.Ytlkccencilhacaa
open Go.RowKit Go.Sort
open Num
set_option linter.unusedVariables false
set_option linter.unusedSimpArgs false
set_option maxRecDepth 20000

abbrev recV (num age slots : Nat) (c0 c1 c2 st z0 z1 z2 z3 : Int) : Array Value := #[.int .u32 (num : Int), .int .i64 (age : Int), .int .i64 (slots : Int), .int .i64 c0, .int .i64 c1, .int .i64 c2, .int .i64 st, .int .i64 z0, .int .i64 z1, .int .i64 z2, .int .i64 z3]
theorem recI_V (num age slots : Nat) (c0 c1 c2 st z0 z1 z2 z3 : Int) : recI ⟨num, age, slots, c0, c1, c2, st, [z0, z1, z2, z3]⟩ = recV num age slots c0 c1 c2 st z0 z1 z2 z3 := rfl
theorem slice_fourO (g o f : Nat) (hf : f < 4) : ∀ wx, (Instr.sliceAt 88 (.pointer (some ⟨g, o, none⟩)) (some (.int .i64 (f : Int))) none none).run Try.prog wx = .ok (.slice (some ⟨g, o + f, none⟩) (4 - f) (4 - f)) wx := by
  intro wx
  have hs : (sizeOf (Try.prog.elem 88)).run Try.prog wx = .ok 1 wx := by kernel_rfl
  rw [run_sliceAt_array_l wx 88 ⟨g, o, none⟩ (by kernel_rfl) .i64 (f : Int) (by omega) (by rw [len4]; omega), hs, len4]
  have h2 : ¬ 4 = f := by omega
  simp [Result.andThen, slicedAt, h2, Addr.add_lit]
theorem splice_one (Z : List Int) (st : Nat) (xs : List Int) (x : Int) (h : st + xs.length < Z.length) : splice Z st (xs ++ [x]) = (splice Z st xs).set (st + xs.length) x := by
  have hl : (Z.take st).length = st := by simp; omega
  unfold splice
  rw [List.set_append_right _ _ (by rw [hl]; omega), hl, List.set_append_right _ _ (by omega), Nat.add_sub_cancel_left, Nat.sub_self, List.append_assoc]
  congr 1
  rw [List.length_append]
  congr 1
  have e : Z.drop (st + xs.length) = Z[st + xs.length] :: Z.drop (st + xs.length + 1) := List.drop_eq_getElem_cons h
  rw [e]
  simp [Nat.add_assoc]
theorem splice_nil (Z : List Int) (st : Nat) : splice Z st [] = Z := by simp [splice]
/-- so many of the context laid at once -/
theorem ctxS_splice (s0 m st : Nat) (C z : List Int) (hC : C.length = 4) (h1 : 1 ≤ z.length) (hst : st = (s0 + m) % z.length) : ∀ k, st + k ≤ z.length → m + k ≤ 4 → splice (ctxS s0 C m z) st ((C.drop m).take k) = ctxS s0 C (m + k) z
  | 0, _, _ => by simp [splice_nil]
  | k + 1, hk, hm => by
    have ih := ctxS_splice s0 m st C z hC h1 hst k (by omega) (by omega)
    have e1 : (C.drop m).take (k + 1) = (C.drop m).take k ++ [C.getD (m + k) 0] := by
      rw [List.take_add_one, List.getElem?_drop]
      congr 1
      rw [List.getD_eq_getElem?_getD, List.getElem?_eq_getElem (by omega)]
      rfl
    have hl : ((C.drop m).take k).length = k := by simp; omega
    rw [e1, splice_one _ _ _ _ (by rw [hl, ctxS_len]; omega), ih, hl, ← Nat.add_assoc]
    simp only [ctxS]
    congr 1
    have : (s0 + (m + k)) % z.length = st + k := by
      rw [← Nat.add_assoc, Nat.add_mod, ← hst]
      by_cases e : k = z.length
      · omega
      · rw [Nat.mod_eq_of_lt (show k < z.length by omega), Nat.mod_eq_of_lt (by omega)]
    rw [this]
theorem step_copyC {P : Program} {ops : Array Oper} {o : Oper} {a : Act} {w : World} {K : Act → World → Prop} {Q : Exit → Act → World → Prop} {E : Prop} (hgd : o.guard = none) (d s : Operand) (dT sT : TypeId)
    (ho : o.op = .call { callee := .builtin .copy, args := #[d, s], argTypes := #[dT, sT] }) (elem : TypeId) (hu : P.underlying dT = some (.slice elem)) (hsz : (P.info? elem).map (·.size) = some 1)
    (g off : Nat) (ad : Addr) (dLen dCap sLen sCap : Nat) (hd : a.eval d = .slice (some ⟨g, off, none⟩) dLen dCap) (hs : a.eval s = .slice (some ad) sLen sCap)
    (cur : List Value) (t : TypeId) (hg : w.heap[g]? = some (.cells cur.toArray t (0, 0))) (cs : List Value) (hn : cs.length = Nat.min sLen dLen)
    (hsrc : ∀ j v, cs[j]? = some v → w.cell? (ad.add j) = some v)
    (hfit : off + cs.length ≤ cur.length) (h1 : ∀ v ∈ cs, v.oneCell' = true)
    (h : ∀ w', Hid (w'.heap[g]? = some (.cells (splice cur off cs).toArray t (0, 0))) → Chg (fun x => x = g) w w' → K (a.put o.dst (goInt cs.length)) w') :
    if Region.wanted o (yielded ops a.tmps) = true then Oper.wp P o a w K Q else E := by
  have hw : Region.wanted o (yielded ops a.tmps) = true := by simp [Region.wanted, hgd]
  rw [if_pos hw]
  have hrun := run_copy_row (P := P) w dT sT o.type elem g off dLen dCap ad sLen sCap cur.toArray t cs hu hsz hg hn hsrc (by simpa using hfit) h1
  unfold Oper.wp
  simp [execOp, ho, resolve, invoke, builtin, hd, hs, hrun, Result.andThen]
  exact h _ (show _ = _ by simpa [splice] using setRow_heap w g _ _ t _ hg) ⟨rfl, rfl, rfl, by simp [World.setRow], fun k hk hn => setRow_other w g k _ hn⟩
/-- the walk of lay -/
structure LyR (w wr : World) (g b : Nat) (R : Array Value) (s0 : Nat) (C zs : List Int) (m st : Nat) : Prop where
  row : wr.heap[g]? = some (.cells (ints (ctxS s0 C m zs)) 3 (0, 0))
  box : wr.heap[b]? = some (.cells R 90 (0, 0))
  sl : st < zs.length
  ml : m ≤ 4
  sm : m < 4 → st = (s0 + m) % zs.length
  ch : Chg (fun x => x = g) w wr
def layK (C : List Int) (m n st : Nat) : List Int := (C.drop m).take (n - st)
theorem layK_len (C : List Int) (m n st : Nat) (hC : C.length = 4) : (layK C m n st).length = Nat.min (4 - m) (n - st) := by
  simp [layK, hC]; exact Nat.min_comm _ _
theorem LyR.step {w wr w5 : World} {g b : Nat} {R : Array Value} {s0 m st : Nat} {C zs : List Int} (h : LyR w wr g b R s0 C zs m st) (hm : m < 4) (hC : C.length = 4) (hgb : g ≠ b) (h5 : w5.heap[g]? = some (.cells (splice ((ctxS s0 C m zs).map iV) st ((layK C m zs.length st).map iV)).toArray 3 (0, 0))) (hk : Chg (fun x => x = g) wr w5) : LyR w w5 g b R s0 C zs (m + (layK C m zs.length st).length) 0 ∧ 1 ≤ (layK C m zs.length st).length ∧ (layK C m zs.length st).length ≤ 4 - m := by
  have hl := layK_len C m zs.length st hC
  have hst := h.sl
  have hsm := h.sm hm
  have hl1 : (layK C m zs.length st).length ≤ zs.length - st := by rw [hl]; exact Nat.min_le_right _ _
  have hl2 : (layK C m zs.length st).length ≤ 4 - m := by rw [hl]; exact Nat.min_le_left _ _
  have hl3 : (layK C m zs.length st).length = zs.length - st ∨ (layK C m zs.length st).length = 4 - m := by
    rw [hl]; rcases Nat.le_total (4 - m) (zs.length - st) with e | e
    · exact .inr (Nat.min_eq_left e)
    · exact .inl (Nat.min_eq_right e)
  have esp : splice ((ctxS s0 C m zs).map iV) st ((layK C m zs.length st).map iV) = (splice (ctxS s0 C m zs) st (layK C m zs.length st)).map iV := by simp [splice]
  have eK : layK C m zs.length st = (C.drop m).take (layK C m zs.length st).length := by
    conv => lhs; unfold layK
    rw [hl, List.take_eq_take_iff]
    simp [hC]
    have : Nat.min (4 - m) (zs.length - st) = min (4 - m) (zs.length - st) := rfl
    omega
  rw [esp, eK, ctxS_splice s0 m st C zs hC (by omega) hsm _ (by omega) (by omega)] at h5
  have hbl : b < wr.heap.size := (Array.getElem?_eq_some_iff.1 h.box).1
  refine ⟨⟨h5, (hk.keep b hbl (fun e => hgb e.symm)).trans h.box, by omega, by omega, fun h4 => ?_, h.ch.trans hk⟩, by omega, hl2⟩
  rcases hl3 with e | e
  · rw [e, ← Nat.add_assoc, Nat.add_mod, ← hsm]
    by_cases s : st = 0
    · subst s; simp
    · rw [Nat.mod_eq_of_lt (show zs.length - st < zs.length by omega), show st + (zs.length - st) = zs.length by omega, Nat.mod_self]
  · omega
set_option maxHeartbeats 2000000 in
theorem lay_any {w : World} {g : Nat} {zs : List Int} (num age slots : Nat) (c0 : Nat) (c1 c2 : Int) (s0 : Nat) (z0 z1 z2 z3 : Int) (hr : w.heap[g]? = some (.cells (ints zs) 3 (0, 0))) (h1 : 1 ≤ zs.length) (h2 : zs.length ≤ 16) (hs : s0 < zs.length) (hc : c0 < zs.length) :
    Calls Try.prog 41 #[.agg (recV num age slots (c0 : Int) c1 c2 (s0 : Int) z0 z1 z2 z3), .slice (some ⟨g, 0, none⟩) zs.length zs.length] w fun e w' => e = .returned (.tuple #[]) ∧ w'.heap[g]? = some (.cells (ints (layR ⟨num, age, slots, (c0 : Int), c1, c2, (s0 : Int), [z0, z1, z2, z3]⟩ zs)) 3 (0, 0)) ∧ Chg (fun x => x = g) w w' := by
  have hgl := (Array.getElem?_eq_some_iff.1 hr).1
  have HT0 : Hid (LyR w (w.alloc (.cells (recV num age slots (c0 : Int) c1 c2 (s0 : Int) z0 z1 z2 z3) 90)) g w.heap.size (recV num age slots (c0 : Int) c1 c2 (s0 : Int) z0 z1 z2 z3) s0 [z0, z1, z2, z3] zs 0 s0) := hide ⟨by rw [Below.heap_alloc _ _ _ hgl]; exact hr, Go.heap_alloc_new _ _, hs, by omega, fun _ => by rw [Nat.add_zero, Nat.mod_eq_of_lt hs], Chg.ofBelow ((Below.refl _ _).alloc (Nat.le_refl _) _)⟩
  have hgb : g ≠ w.heap.size := by omega
  have HL : Hid (layR ⟨num, age, slots, (c0 : Int), c1, c2, (s0 : Int), [z0, z1, z2, z3]⟩ zs = (ctxS s0 [z0, z1, z2, z3] 4 zs).set c0 c1) := hide (by simp [layR])
  clear hr
  generalize hn : zs.length = n at *
  have HN0 := hide hn
  clear hn
  go_enter Try.func41, Try.ntmps41
  go_wp2_with fail
  go_loopw [4, 5] (fun y x wr => ∃ m st : Nat, x = .int .i64 (m : Int) ∧ y = .int .i64 (st : Int) ∧ LyR w wr g w.heap.size (recV num age slots (c0 : Int) c1 c2 (s0 : Int) z0 z1 z2 z3) s0 [z0, z1, z2, z3] zs m st) (fun _ x _ => 4 - (intOf x).toNat)
  case atStart => exact ⟨0, s0, rfl, rfl, HT0.out⟩
  case round =>
    clear HT0
    obtain ⟨m, st, rfl, rfl, hct⟩ := hrel
    have hst := hct.sl
    have hml := hct.ml
    rw [HN0.out] at hst
    by_cases hm : m < 4
    · have HROW := hide hct.row
      have HSTEP : Hid (∀ w5, w5.heap[g]? = some (.cells (splice ((ctxS s0 [z0, z1, z2, z3] m zs).map iV) st ((layK [z0, z1, z2, z3] m n st).map iV)).toArray 3 (0, 0)) → Chg (fun x => x = g) wr.drew w5 → _) := hide fun w5 y1 (y2 : Chg (fun x => x = g) wr.drew w5) => hct.step hm rfl hgb (by rw [HN0.out]; exact y1) ⟨y2.os, y2.tape, y2.output, y2.size, y2.keep⟩
      have HLN : Hid (((layK [z0, z1, z2, z3] m n st).map iV).length = Nat.min (4 - m) (n - st)) := hide (by rw [List.length_map, layK_len _ _ _ _ rfl])
      have HFIT : Hid (st + ((layK [z0, z1, z2, z3] m n st).map iV).length ≤ ((ctxS s0 [z0, z1, z2, z3] m zs).map iV).length) := hide (by rw [List.length_map, List.length_map, layK_len _ _ _ _ rfl, ctxS_len, HN0.out]; have : Nat.min (4 - m) (n - st) ≤ n - st := Nat.min_le_right _ _; omega)
      have HONE : Hid (∀ v ∈ (layK [z0, z1, z2, z3] m n st).map iV, v.oneCell' = true) := hide fun v hv => by
        obtain ⟨z, -, rfl⟩ := List.mem_map.1 hv
        rfl
      have HSR : Hid (∀ j v, ((layK [z0, z1, z2, z3] m n st).map iV)[j]? = some v → wr.drew.cell? ((⟨w.heap.size, 7 + m, none⟩ : Addr).add j) = some v) := hide fun j v hj => by
        have hjl : j < (layK [z0, z1, z2, z3] m n st).length := by simpa using (List.getElem?_eq_some_iff.1 hj).1
        rw [layK_len _ _ _ _ rfl] at hjl
        have hj1 : j < 4 - m := Nat.lt_of_lt_of_le hjl (Nat.min_le_left _ _)
        have hj2 : j < n - st := Nat.lt_of_lt_of_le hjl (Nat.min_le_right _ _)
        rw [Addr.add_lit]
        show wr.cell? ⟨w.heap.size, 7 + m + j, none⟩ = some v
        rw [cell_of_row _ _ _ _ _ _ hct.box]
        rw [List.getElem?_map, layK, List.getElem?_take_of_lt hj2, List.getElem?_drop] at hj
        rcases (show m + j = 0 ∨ m + j = 1 ∨ m + j = 2 ∨ m + j = 3 by omega) with e | e | e | e <;> rw [e] at hj <;> rw [Nat.add_assoc, e] <;> exact hj
      have hst2 : st ≤ n := by omega
      have hst3 : (n = st) = False := by simp; omega
      have hsf := slice_fourO w.heap.size 7 m hm
      clear hct
      go_wp2_with fail
      go_region_law (go_loud (refine step_copyC rfl (.tmp 13) (.tmp 16) 25 25 rfl 3 Try.underlying25 (by kernel_rfl) g st ⟨w.heap.size, 7 + m, none⟩ (n - st) (n - st) (4 - m) (4 - m) rfl rfl ((ctxS s0 [z0, z1, z2, z3] m zs).map iV) 3 HROW.out ((layK [z0, z1, z2, z3] m n st).map iV) HLN.out HSR.out HFIT.out HONE.out ?_; intro w5 HG5 HB5))
      obtain ⟨q1, q2, q3⟩ := HSTEP.out w5 HG5.out HB5
      rw [HN0.out] at q1 q2 q3
      have HN := hide q1
      clear q1 HSTEP HLN HFIT HONE HSR HROW HG5 HB5 hsf hst2 hst3
      generalize (layK [z0, z1, z2, z3] m n st).length = kk at *
      go_wp2_with fail
      go_roundw
      case rel => exact ⟨m + kk, 0, by go_num, rfl, HN.out⟩
      case measure => simp [intOf]; omega
    · have em : m = 4 := by omega
      subst em
      have d3 : wr.cell? ⟨w.heap.size, 3, none⟩ = some (.int .i64 (c0 : Int)) := cell_of_row _ _ _ _ _ _ hct.box
      have d4 : wr.cell? ⟨w.heap.size, 4, none⟩ = some (.int .i64 c1) := cell_of_row _ _ _ _ _ _ hct.box
      have hlc : (ctxS s0 [z0, z1, z2, z3] 4 zs).length = n := by rw [ctxS_len, HN0.out]
      have f1 := frozen_of_row _ _ c0 _ 3 hct.row
      obtain ⟨v0, e1⟩ : ∃ v0, wr.cell? ⟨g, c0, none⟩ = some v0 := by
        rw [cell_of_row _ _ _ _ _ _ hct.row]
        exact ⟨_, Array.getElem?_eq_getElem (by simp [ints, hlc]; exact hc)⟩
      have HF : Hid ((wr.setCell ⟨g, c0, none⟩ (.int .i64 c1)).heap[g]? = some (.cells (ints ((ctxS s0 [z0, z1, z2, z3] 4 zs).set c0 c1)) 3 (0, 0)) ∧ Chg (fun x => x = g) w (wr.setCell ⟨g, c0, none⟩ (.int .i64 c1))) := hide ⟨by
        rw [Go.heap_setCell_same _ _ _ _ _ _ hct.row]
        congr 2
        simp [ints, List.map_set, iV], hct.ch.trans ⟨rfl, rfl, rfl, by rw [World.size_setCell]; exact Nat.le_refl _, fun b _ hn => Go.heap_setCell_other _ _ _ _ hn⟩⟩
      clear hct hlc
      go_wp2_with fail
      go_end0
      exact ⟨rfl, by rw [HL.out]; exact HF.out.1, HF.out.2⟩
end Go.Proofs.Ytlkccencilhacaa
