import Derived.Test.YtlkccencilhacaaALog8
import Derived.Test.YtlkccencilhacaaACrc
import Derived.Lib.BufferWrite
namespace Go.Proofs.Ytlkccencilhacaa
open Go.RowKit Go.Sort
open Num
set_option linter.unusedVariables false
set_option linter.unusedSimpArgs false
set_option maxRecDepth 20000

/-- bytes that are being laid: pre stands, zeroes behind -/
def PB (w : World) (g : Nat) (pre : List Nat) (m : Nat) : Prop := w.heap[g]? = some (.cells (byts (pre ++ List.replicate m 0)) 5 (0, 0))
theorem putP_any {w : World} {g off k cap num m : Nat} {pre : List Nat} (hr : PB w g pre m) (ho : off = pre.length) (hk : k ≤ m) (hk4 : k ≤ 4) (hc : k ≤ cap) (hc2 : cap ≤ maxLen) (hn : num < 4294967296) :
    Calls Try.prog 79 #[.slice (some ⟨g, off, none⟩) k cap, .int .u32 (num : Int)] w fun e w' => e = .returned (.tuple #[]) ∧ PB w' g (pre ++ be num k) (m - k) ∧ Chg (fun b => b = g) w w' := by
  subst ho
  refine (put_any hr (by simp; omega) hk4 hc hc2 hn).mono ?_
  rintro e w' ⟨rfl, h1, h2⟩
  refine ⟨rfl, ?_, h2⟩
  unfold PB
  rw [h1]
  congr 2
  have e1 : (pre ++ List.replicate m 0).take pre.length = pre := by simp
  have e2 : (pre ++ List.replicate m 0).drop (pre.length + k) = List.replicate (m - k) 0 := by simp
  rw [e1, e2, List.append_assoc]
/-- a number of four bytes -/
def u32N (x : Int) : Nat := (x % 4294967296).toNat
theorem u32N_lt (x : Int) : u32N x < 4294967296 := by unfold u32N; omega
theorem u32N_wrap (x : Int) : IntKind.u32.wrap x = ((u32N x : Nat) : Int) := by unfold u32N; simp [IntKind.wrap, IntKind.bits, IntKind.signed]; omega
/-- a record's bytes ahead of its sum -/
def recH (size num age slots : Nat) (c0 c1 c2 : Int) (start : Nat) (C : List Int) : List Nat :=
  [97, 99, 116, 108] ++ be num 4 ++ be age 2 ++ be slots 2 ++ be (u32N c0) 4 ++ be (u32N c1) 4 ++ be (u32N c2) 4 ++ be start 4 ++ be (u32N (C.getD 0 0)) 4 ++ be (u32N (C.getD 1 0)) 4 ++ be (u32N (C.getD 2 0)) 4 ++ be (u32N (C.getD 3 0)) 4 ++ List.replicate (size - 48) 0
def recB (size num age slots : Nat) (c0 c1 c2 : Int) (start : Nat) (C : List Int) : List Nat :=
  recH size num age slots c0 c1 c2 start C ++ be (crcM 0 (recH size num age slots c0 c1 c2 start C)) 4
theorem made_byts (n : Nat) : madeCells (Value.int .u8 0).cells (n * 1) = byts (List.replicate n 0) := by
  apply Array.ext_getElem?
  intro i
  by_cases h : i < n
  · simp [madeCells, Value.cells, h, Nat.mod_one, byts, byV]
  · rw [Array.getElem?_eq_none (by rw [size_madeCells]; omega), Array.getElem?_eq_none (by simp [byts]; omega)]
theorem info_u8 : (Try.prog.info? 5).map (fun i => (i.zero, i.size, i.bytes)) = some (some (.int .u8 0), 1, 1) := by kernel_rfl
theorem run_byts (n : Nat) (hn : n ≤ 65536) (w : World) :
    (Instr.makeSlice 23 (.int .i64 (n : Int)) (.int .i64 (n : Int))).run Try.prog w = .ok (.slice (some ⟨w.heap.size, 0, none⟩) n n) (w.alloc (.cells (byts (List.replicate n 0)) 5)) := by
  obtain ⟨i0, hi, hz0, hz1, hz2⟩ := info_parts info_u8
  have hr := run_make (P := Try.prog) w 23 5 i0 (.int .u8 0) Try.underlying23 hi hz0 .i64 .i64 (n : Int) (n : Int) (by omega) (Int.le_refl _) (by rw [hz2]; omega) (by omega)
  simp only [Int.toNat_natCast] at hr
  rw [hz1, made_byts n] at hr
  exact hr
theorem size_u8 : (Try.prog.info? 5).map (·.size) = some 1 := by kernel_rfl
/-- copy of the letters -/
theorem wpList_copyS {ops : Array Oper} {rest : List Oper} {o : Oper} {a : Act} {w : World} {Q : Exit → Act → World → Prop} (hgd : o.guard = none) (d s : Operand)
    (ho : o.op = .call { callee := .builtin .copy, args := #[d, s], argTypes := #[23, 9] }) (g n cap : Nat) (hd : a.eval d = .slice (some ⟨g, 0, none⟩) n cap) (t : ByteArray) (hs : a.eval s = .string t)
    (cur : Array Value) (hg : w.heap[g]? = some (.cells cur 5 (0, 0))) (hle : t.size ≤ n) (hfit : t.size ≤ cur.size)
    (h : wpList Try.prog ops Q rest (a.put o.dst (goInt t.size)) (w.setRow g (cur.toList.take 0 ++ Go.Lib.byteCells t.data.toList ++ cur.toList.drop (0 + t.size)).toArray)) :
    wpList Try.prog ops Q (o :: rest) a w := by
  refine wpList_plain hgd fun K hK => ?_
  have hr := Go.Lib.run_copy_row_string (P := Try.prog) w 23 9 o.type 5 g 0 n cap t cur 5 Try.underlying23 size_u8 hg hle (by omega)
  unfold Oper.wp execOp
  simp only [ho, resolve, invoke, builtin, Sem.run_bind, Sem.run_pure, Result.andThen_ok, List.map_toArray, List.map_cons, List.map_nil, hd, hs, hr]
  exact hK _ _ h
/-- while block lays its bytes -/
structure BkW (w x : World) (R : Array Value) (pre : List Nat) (m : Nat) : Prop where
  box : x.heap[w.heap.size]? = some (.cells R 90 (0, 0))
  pb : PB x (w.heap.size + 1) pre m
  bel : Below w.heap.size w x
theorem BkW.start (w : World) (R : Array Value) (size : Nat) : BkW w ((w.alloc (.cells R 90)).alloc (.cells (byts (List.replicate size 0)) 5)) R [] size := by
  refine ⟨?_, ?_, ((Below.refl w.heap.size w).alloc (Nat.le_refl _) _).alloc (by simp) _⟩
  · rw [Below.heap_alloc _ _ _ (by simp)]; exact Go.heap_alloc_new _ _
  · have := Go.heap_alloc_new (w.alloc (.cells R 90)) (.cells (byts (List.replicate size 0)) 5)
    rw [World.size_alloc] at this
    exact this
theorem BkW.letters {w x : World} {R : Array Value} {size : Nat} (h : BkW w x R [] size) (hs : 4 ≤ size) : BkW w (x.setRow (w.heap.size + 1) ((byts (List.replicate size 0)).toList.take 0 ++ Go.Lib.byteCells [97, 99, 116, 108] ++ (byts (List.replicate size 0)).toList.drop (0 + 4)).toArray) R [97, 99, 116, 108] (size - 4) := by
  refine ⟨?_, ?_, h.bel.trans ⟨rfl, rfl, rfl, Nat.le_of_eq (setRow_size ..).symm, fun k hk => setRow_other _ _ _ _ (by omega)⟩⟩
  · rw [setRow_other _ _ _ _ (by omega)]; exact h.box
  · have hp := h.pb
    unfold PB at hp ⊢
    rw [setRow_heap _ _ _ _ _ _ hp]
    congr 2
    simp [byts, Go.Lib.byteCells, byV]
theorem BkW.put {w x : World} {R : Array Value} {pre : List Nat} {m off k cap num : Nat} (h : BkW w x R pre m) (ho : off = pre.length) (hk : k ≤ m) (hk4 : k ≤ 4) (hc : k ≤ cap) (hc2 : cap ≤ maxLen) (hn : num < 4294967296) :
    Calls Try.prog 79 #[.slice (some ⟨w.heap.size + 1, off, none⟩) k cap, .int .u32 (num : Int)] x fun e w' => e = .returned (.tuple #[]) ∧ BkW w w' R (pre ++ be num k) (m - k) := by
  refine (putP_any h.pb ho hk hk4 hc hc2 hn).mono ?_
  rintro e w' ⟨rfl, h1, h2⟩
  have hlt := (Array.getElem?_eq_some_iff.1 h.box).1
  exact ⟨rfl, (h2.keep _ hlt (by omega)).trans h.box, h1, h.bel.trans (h2.below h.bel.size fun b e => by omega)⟩
theorem BkW.c {w x : World} {R : Array Value} {pre : List Nat} {m : Nat} (h : BkW w x R pre m) (i : Nat) : x.cell? ⟨w.heap.size, i, none⟩ = R[i]? := cell_of_row _ _ _ _ _ _ h.box
theorem BkW.drew {w x : World} {R : Array Value} {pre : List Nat} {m : Nat} (h : BkW w x R pre m) : BkW w x.drew R pre m := ⟨h.box, h.pb, h.bel.drew⟩
theorem size_int : (Try.prog.info? 3).map (·.size) = some 1 := by kernel_rfl
theorem idx4i (a b c d : Int) (j : Nat) (hj : j < 4) (w : World) : (Instr.index 88 (.agg #[.int .i64 a, .int .i64 b, .int .i64 c, .int .i64 d]) (.int .i64 (j : Int))).run Try.prog w = .ok (.int .i64 ([a, b, c, d].getD j 0)) w := by
  obtain ⟨i0, hi, hz⟩ := Option.map_eq_some_iff.1 size_int
  rcases (show j = 0 ∨ j = 1 ∨ j = 2 ∨ j = 3 by omega) with rfl | rfl | rfl | rfl <;>
  simp [Instr.index, run_underlying Try.underlying88, asIntOf, go_sem, sizeOf, typeInfo, hi, hz]
def preC (l : List Int) (i : Nat) : List Nat := (List.range i).flatMap fun j => be (u32N (l.getD j 0)) 4
theorem preC_len (l : List Int) : ∀ i, (preC l i).length = 4 * i
  | 0 => rfl
  | i + 1 => by
    have := preC_len l i
    unfold preC at this ⊢
    rw [List.range_succ, List.flatMap_append, List.length_append, this]
    simp [be_len]
    omega
theorem preC_succ (l : List Int) (i : Nat) : preC l (i + 1) = preC l i ++ be (u32N (l.getD i 0)) 4 := by
  unfold preC
  rw [List.range_succ, List.flatMap_append]
  simp
theorem BkW.more {w x : World} {R : Array Value} {pre : List Nat} {m k : Nat} (h : BkW w x R pre m) (hk : k ≤ m) : BkW w x R (pre ++ List.replicate (m - k) 0) k := by
  refine ⟨h.box, ?_, h.bel⟩
  have hp := h.pb
  unfold PB at hp ⊢
  rw [hp, List.append_assoc, List.replicate_append_replicate, Nat.sub_add_cancel hk]
theorem BkW.sl {w x : World} {R : Array Value} {pre : List Nat} {m n cap : Nat} (h : BkW w x R pre m) (hn : n = pre.length) (hc : n ≤ cap) (hc2 : cap ≤ maxLen) (hb : ∀ b ∈ pre, b < 256) : BSl x (.slice (some ⟨w.heap.size + 1, 0, none⟩) n cap) pre := by
  subst hn
  refine ⟨_, cap, rfl, hc, hc2, fun e => (by cases e), hb, fun _ => ⟨w.heap.size + 1, 0, rfl, fun i hi => ?_⟩⟩
  rw [cell_of_row _ _ _ _ _ _ h.pb]
  simp [byts, byV, hi, List.getElem?_append_left, List.getD]
theorem BkW.calm {w x y : World} {R : Array Value} {pre : List Nat} {m : Nat} (h : BkW w x R pre m) (hb : Below x.heap.size x y) : BkW w y R pre m :=
  ⟨(hb.block _ (Array.getElem?_eq_some_iff.1 h.box).1).trans h.box, (hb.block _ (Array.getElem?_eq_some_iff.1 h.pb).1).trans h.pb, h.bel.trans (hb.mono h.bel.size)⟩
set_option maxHeartbeats 1000000 in
theorem block_any (w : World) (size num age slots : Nat) (c0 c1 c2 : Int) (start : Nat) (C : List Int) (hsz : size = 128 ∨ size = 256 ∨ size = 512 ∨ size = 1024) (h1 : num < 4294967296) (h2 : age < 4294967296) (h3 : slots < 4294967296) (h4 : start < 4294967296) :
    Calls Try.prog 50 #[.agg (recA num age slots c0 c1 c2 start C), .int .i64 (size : Int)] w fun e w' => e = .returned (.slice (some ⟨w.heap.size + 1, 0, none⟩) size size) ∧ w'.heap[w.heap.size + 1]? = some (.cells (byts (recB size num age slots c0 c1 c2 start C)) 5 (0, 0)) ∧ Below w.heap.size w w' := by
  unfold recA
  have hs : size ≤ 1024 ∧ 128 ≤ size := by omega
  obtain ⟨hs1, hs2⟩ := hs
  clear hsz
  have hmk := fun W : World => run_byts size (by omega) W
  generalize hz0 : C.getD 0 0 = z0
  generalize hz1 : C.getD 1 0 = z1
  generalize hz2 : C.getD 2 0 = z2
  generalize hz3 : C.getD 3 0 = z3
  have HZ := hide (And.intro hz0 (And.intro hz1 (And.intro hz2 hz3)))
  clear hz0 hz1 hz2 hz3
  obtain ⟨RR, hRR⟩ : ∃ RR : Array Value, RR = #[.int .u32 (num : Int), .int .i64 (age : Int), .int .i64 (slots : Int), .int .i64 c0, .int .i64 c1, .int .i64 c2, .int .i64 (start : Int), .int .i64 z0, .int .i64 z1, .int .i64 z2, .int .i64 z3] := ⟨_, rfl⟩
  have HB0 := hide (BkW.start w RR size)
  have HLT := hide fun x (h : BkW w x RR [] size) => h.letters (by omega)
  have HPT := hide fun x pre m off k cap num (h : BkW w x RR pre m) ho hk hk4 hc hc2 hn => h.put (off := off) (k := k) (cap := cap) (num := num) ho hk hk4 hc hc2 hn
  have HC := hide fun x pre m (h : BkW w x RR pre m) i => h.c i
  rw [hRR] at HB0 HLT HPT HC
  clear hRR
  have q1 : IntKind.u32.wrap (age : Int) = (age : Int) := by simp [IntKind.wrap, IntKind.bits, IntKind.signed]; omega
  have q2 : IntKind.u32.wrap (slots : Int) = (slots : Int) := by simp [IntKind.wrap, IntKind.bits, IntKind.signed]; omega
  have q3 : IntKind.u32.wrap (start : Int) = (start : Int) := by simp [IntKind.wrap, IntKind.bits, IntKind.signed]; omega
  have q4 := u32N_wrap c0
  have q5 := u32N_wrap c1
  have q6 := u32N_wrap c2
  have q7 := u32N_wrap z0
  have q8 := u32N_wrap z1
  have q9 := u32N_wrap z2
  have q10 := u32N_wrap z3
  have HX := hide (And.intro (u32N_lt c0) (And.intro (u32N_lt c1) (And.intro (u32N_lt c2) (And.intro (u32N_lt z0) (And.intro (u32N_lt z1) (And.intro (u32N_lt z2) (u32N_lt z3)))))))
  go_enter Try.func50, Try.ntmps50
  go_wp2_with (refine wpList_copyS rfl _ _ rfl (w.heap.size + 1) size size rfl ⟨#[97, 99, 116, 108]⟩ rfl (byts (List.replicate size 0)) HB0.out.pb (by simp [ByteArray.size]; omega) (by simp [ByteArray.size, byts]; omega) ?_)
  have hsz4 : (⟨#[97, 99, 116, 108]⟩ : ByteArray).size = 4 := rfl
  have HB1 := hide (HLT.out _ HB0.out)
  have b8 : (8 : Int) ≤ (size : Int) := by omega
  have b10 : (10 : Int) ≤ (size : Int) := by omega
  have b12 : (12 : Int) ≤ (size : Int) := by omega
  have b16 : (16 : Int) ≤ (size : Int) := by omega
  have b20 : (20 : Int) ≤ (size : Int) := by omega
  have b24 : (24 : Int) ≤ (size : Int) := by omega
  have b28 : (28 : Int) ≤ (size : Int) := by omega
  have n4 : ¬ size = 4 := by omega
  have n8 : ¬ size = 8 := by omega
  have n10 : ¬ size = 10 := by omega
  have n12 : ¬ size = 12 := by omega
  have n16 : ¬ size = 16 := by omega
  have n20 : ¬ size = 20 := by omega
  have n24 : ¬ size = 24 := by omega
  rw [hsz4]
  clear hsz4 HB0 HLT hmk
  generalize World.setRow _ _ _ = x1 at *
  simp only [Act.put, List.setIfInBounds_toArray, List.set_cons_zero, List.set_cons_succ]
  have c0 : x1.cell? ⟨w.heap.size, 0, none⟩ = some (.int .u32 (num : Int)) := HC.out _ _ _ HB1.out 0
  go_region_held3 (fun z => z.cell? ⟨w.heap.size, 0, none⟩ = some (.int .u32 (num : Int))) (first | exact c0 | exact d0)
    ((go_at_call 79; refine (HPT.out _ _ _ 4 4 (size - 4) num HB1.out.drew rfl (by omega) (by omega) (by omega) (by unfold maxLen; omega) h1).mono ?_; rintro e x2 ⟨rfl, hb⟩; have HB2 := hide hb; have d0 : x2.cell? ⟨w.heap.size, 0, none⟩ = some (.int .u32 (num : Int)) := HC.out _ _ _ hb 0; clear hb))
  clear c0 d0 HB1
  go_wp2_with fail
  have c1 : x2.cell? ⟨w.heap.size, 1, none⟩ = some (.int .i64 (age : Int)) := HC.out _ _ _ HB2.out 1
  go_region_held3 (fun z => z.cell? ⟨w.heap.size, 1, none⟩ = some (.int .i64 (age : Int))) (first | exact c1 | exact d1)
    ((go_at_call 79; refine (HPT.out _ _ _ 8 2 (size - 8) age HB2.out.drew rfl (by omega) (by omega) (by omega) (by unfold maxLen; omega) h2).mono ?_; rintro e x3 ⟨rfl, hb⟩; have HB3 := hide hb; have d1 : x3.cell? ⟨w.heap.size, 1, none⟩ = some (.int .i64 (age : Int)) := HC.out _ _ _ hb 1; clear hb))
  clear c1 d1 HB2
  go_wp2_with fail
  have c2 : x3.cell? ⟨w.heap.size, 2, none⟩ = some (.int .i64 (slots : Int)) := HC.out _ _ _ HB3.out 2
  go_region_held3 (fun z => z.cell? ⟨w.heap.size, 2, none⟩ = some (.int .i64 (slots : Int))) (first | exact c2 | exact d2)
    ((go_at_call 79; refine (HPT.out _ _ _ 10 2 (size - 10) slots HB3.out.drew rfl (by omega) (by omega) (by omega) (by unfold maxLen; omega) h3).mono ?_; rintro e x4 ⟨rfl, hb⟩; have HB4 := hide hb; have d2 : x4.cell? ⟨w.heap.size, 2, none⟩ = some (.int .i64 (slots : Int)) := HC.out _ _ _ hb 2; clear hb))
  clear c2 d2 HB3
  go_wp2_with fail
  have c3 : x4.cell? ⟨w.heap.size, 3, none⟩ = some (.int .i64 c0) := HC.out _ _ _ HB4.out 3
  go_region_held3 (fun z => z.cell? ⟨w.heap.size, 3, none⟩ = some (.int .i64 c0)) (first | exact c3 | exact d3)
    ((go_at_call 79; refine (HPT.out _ _ _ 12 4 (size - 12) (u32N c0) HB4.out.drew rfl (by omega) (by omega) (by omega) (by unfold maxLen; omega) HX.out.1).mono ?_; rintro e x5 ⟨rfl, hb⟩; have HB5 := hide hb; have d3 : x5.cell? ⟨w.heap.size, 3, none⟩ = some (.int .i64 c0) := HC.out _ _ _ hb 3; clear hb))
  clear c3 d3 HB4
  go_wp2_with fail
  have c4 : x5.cell? ⟨w.heap.size, 4, none⟩ = some (.int .i64 c1) := HC.out _ _ _ HB5.out 4
  go_region_held3 (fun z => z.cell? ⟨w.heap.size, 4, none⟩ = some (.int .i64 c1)) (first | exact c4 | exact d4)
    ((go_at_call 79; refine (HPT.out _ _ _ 16 4 (size - 16) (u32N c1) HB5.out.drew rfl (by omega) (by omega) (by omega) (by unfold maxLen; omega) HX.out.2.1).mono ?_; rintro e x6 ⟨rfl, hb⟩; have HB6 := hide hb; have d4 : x6.cell? ⟨w.heap.size, 4, none⟩ = some (.int .i64 c1) := HC.out _ _ _ hb 4; clear hb))
  clear c4 d4 HB5
  go_wp2_with fail
  have c5 : x6.cell? ⟨w.heap.size, 5, none⟩ = some (.int .i64 c2) := HC.out _ _ _ HB6.out 5
  go_region_held3 (fun z => z.cell? ⟨w.heap.size, 5, none⟩ = some (.int .i64 c2)) (first | exact c5 | exact d5)
    ((go_at_call 79; refine (HPT.out _ _ _ 20 4 (size - 20) (u32N c2) HB6.out.drew rfl (by omega) (by omega) (by omega) (by unfold maxLen; omega) HX.out.2.2.1).mono ?_; rintro e x7 ⟨rfl, hb⟩; have HB7 := hide hb; have d5 : x7.cell? ⟨w.heap.size, 5, none⟩ = some (.int .i64 c2) := HC.out _ _ _ hb 5; clear hb))
  clear c5 d5 HB6
  go_wp2_with fail
  have c6 : x7.cell? ⟨w.heap.size, 6, none⟩ = some (.int .i64 (start : Int)) := HC.out _ _ _ HB7.out 6
  go_region_held3 (fun z => z.cell? ⟨w.heap.size, 6, none⟩ = some (.int .i64 (start : Int))) (first | exact c6 | exact d6)
    ((go_at_call 79; refine (HPT.out _ _ _ 24 4 (size - 24) start HB7.out.drew rfl (by omega) (by omega) (by omega) (by unfold maxLen; omega) h4).mono ?_; rintro e x8 ⟨rfl, hb⟩; have HB8 := hide hb; have d6 : x8.cell? ⟨w.heap.size, 6, none⟩ = some (.int .i64 (start : Int)) := HC.out _ _ _ hb 6; clear hb))
  clear c6 d6 HB7
  have c7 : x8.cell? ⟨w.heap.size, 7, none⟩ = some (.int .i64 z0) := HC.out _ _ _ HB8.out 7
  have c8 : x8.cell? ⟨w.heap.size, 8, none⟩ = some (.int .i64 z1) := HC.out _ _ _ HB8.out 8
  have c9 : x8.cell? ⟨w.heap.size, 9, none⟩ = some (.int .i64 z2) := HC.out _ _ _ HB8.out 9
  have c10 : x8.cell? ⟨w.heap.size, 10, none⟩ = some (.int .i64 z3) := HC.out _ _ _ HB8.out 10
  go_wp2_with fail
  clear c7 c8 c9 c10
  have HL0 : Hid (∃ pre, pre = [97, 99, 116, 108] ++ be num 4 ++ be age 2 ++ be slots 2 ++ be (u32N c0) 4 ++ be (u32N c1) 4 ++ be (u32N c2) 4 ++ be start 4 ∧ pre.length = 28 ∧ BkW w x8 #[.int .u32 (num : Int), .int .i64 (age : Int), .int .i64 (slots : Int), .int .i64 c0, .int .i64 c1, .int .i64 c2, .int .i64 (start : Int), .int .i64 z0, .int .i64 z1, .int .i64 z2, .int .i64 z3] pre (size - 28)) := hide ⟨_, rfl, by simp [be_len], by have := HB8.out; simpa [Nat.sub_sub] using this⟩
  obtain ⟨PRE, hP1, hP2, hP3⟩ := HL0.out
  have HP1 := hide hP1
  have HP2 := hide hP2
  have HP3 := hide hP3
  clear hP1 hP2 hP3 HL0 HB8 b8 b10 b12 b16 b20 b24 b28 n4 n8 n10 n12 n16 n20 n24 q1 q2 q3 q4 q5 q6 q7 q8 q9 q10
  go_loopw [58] (fun x wr => ∃ i : Nat, i ≤ 4 ∧ x = .int .i64 (i : Int) ∧ BkW w wr #[.int .u32 (num : Int), .int .i64 (age : Int), .int .i64 (slots : Int), .int .i64 c0, .int .i64 c1, .int .i64 c2, .int .i64 (start : Int), .int .i64 z0, .int .i64 z1, .int .i64 z2, .int .i64 z3] (PRE ++ preC [z0, z1, z2, z3] i) (size - 28 - 4 * i)) (fun x _ => 4 - (intOf x).toNat)
  case atStart => exact ⟨0, by omega, rfl, by simpa [preC] using HP3.out⟩
  case round =>
    clear HP3
    obtain ⟨i, hi, rfl, hb⟩ := hrel
    have HB := hide hb
    clear hb
    by_cases hlt : i < 4
    · have hix := idx4i z0 z1 z2 z3 i hlt
      have HCW := hide fun x => ctxWord_any x (w.heap.size + 1) size size i hlt (by omega) (Nat.le_refl _) (by unfold maxLen; omega)
      have HNX : Hid (PRE ++ preC [z0, z1, z2, z3] (i + 1) = (PRE ++ preC [z0, z1, z2, z3] i) ++ be (u32N ([z0, z1, z2, z3].getD i 0)) 4) := hide (by rw [preC_succ, List.append_assoc])
      have HLN : Hid (28 + i * 4 = (PRE ++ preC [z0, z1, z2, z3] i).length) := hide (by rw [List.length_append, preC_len, HP2.out]; omega)
      generalize [z0, z1, z2, z3].getD i 0 = z at *
      have hz := u32N_wrap z
      have hil : (i : Int) < 4 := by omega
      go_wp2_with (first
        | (go_at_call 80; refine (HCW.out _).mono ?_; rintro e y ⟨rfl, rfl⟩)
        | (go_at_call 79; refine (HPT.out _ _ _ (28 + i * 4) 4 (size - (28 + i * 4)) (u32N z) HB.out HLN.out (by omega) (by omega) (by omega) (by unfold maxLen; omega) (u32N_lt z)).mono ?_; rintro e y ⟨rfl, hb⟩; have HB2 := hide hb; clear hb))
      go_roundw
      case rel => exact ⟨i + 1, by omega, by go_num, by rw [HNX.out]; have := HB2.out; rwa [show size - 28 - 4 * i - 4 = size - 28 - 4 * (i + 1) by omega] at this⟩
      case measure => simp [intOf]; omega
    · have e4 : i = 4 := by omega
      have HE : Hid (BkW w wr #[.int .u32 (num : Int), .int .i64 (age : Int), .int .i64 (slots : Int), .int .i64 c0, .int .i64 c1, .int .i64 c2, .int .i64 (start : Int), .int .i64 z0, .int .i64 z1, .int .i64 z2, .int .i64 z3] (recH size num age slots c0 c1 c2 start C) 4) := hide (by
        have h9 := HB.out
        rw [e4] at h9
        have h8 := h9.more (k := 4) (by omega)
        obtain ⟨hz0, hz1, hz2, hz3⟩ := HZ.out
        have e : PRE ++ preC [z0, z1, z2, z3] 4 ++ List.replicate (size - 28 - 4 * 4 - 4) 0 = recH size num age slots c0 c1 c2 start C := by
          unfold recH
          rw [hz0, hz1, hz2, hz3, HP1.out, show size - 28 - 4 * 4 - 4 = size - 48 by omega]
          simp [preC, List.range_succ]
        rwa [e] at h8)
      have HLH : Hid ((recH size num age slots c0 c1 c2 start C).length = size - 4) := hide (by unfold recH; simp [be_len]; omega)
      have HLB : Hid (∀ b ∈ recH size num age slots c0 c1 c2 start C, b < 256) := hide (by
        intro b hb
        unfold recH at hb
        simp only [List.mem_append, List.mem_cons, List.not_mem_nil, or_false, List.mem_replicate] at hb
        rcases hb with (((((((((((hb | hb) | hb) | hb) | hb) | hb) | hb) | hb) | hb) | hb) | hb) | hb) | hb
        · omega
        all_goals first | exact be_lt _ _ b hb | omega)
      have HRB : Hid (recB size num age slots c0 c1 c2 start C = recH size num age slots c0 c1 c2 start C ++ be (crcM 0 (recH size num age slots c0 c1 c2 start C)) 4) := hide rfl
      have HCR := hide fun x (h : BkW w x #[.int .u32 (num : Int), .int .i64 (age : Int), .int .i64 (slots : Int), .int .i64 c0, .int .i64 c1, .int .i64 c2, .int .i64 (start : Int), .int .i64 z0, .int .i64 z1, .int .i64 z2, .int .i64 z3] (recH size num age slots c0 c1 c2 start C) 4) => crc_any (.slice (some ⟨w.heap.size + 1, 0, none⟩) (size - 4) size) _ x (h.sl HLH.out.symm (by omega) (by unfold maxLen; omega) HLB.out)
      have HCL := hide (crcM_lt (c := 0) (recH size num age slots c0 c1 c2 start C) (by omega) HLB.out)
      generalize recH size num age slots c0 c1 c2 start C = RH at *
      generalize crcM 0 RH = cr at *
      clear e4 HB
      have HPT2 := hide fun x (h : BkW w x #[.int .u32 (num : Int), .int .i64 (age : Int), .int .i64 (slots : Int), .int .i64 c0, .int .i64 c1, .int .i64 c2, .int .i64 (start : Int), .int .i64 z0, .int .i64 z1, .int .i64 z2, .int .i64 z3] RH 4) => HPT.out x RH 4 (size - 4) 4 4 cr h HLH.out.symm (by omega) (by omega) (by omega) (by unfold maxLen; omega) HCL.out
      clear HPT
      obtain ⟨k, hk⟩ : ∃ k, size - 4 = k := ⟨_, rfl⟩
      rw [hk] at HCR HPT2
      have hk1 : (size : Int) - 4 = (k : Int) := by omega
      have hk2 : IntKind.i64.wrap ((size : Int) - 4) = (k : Int) := by rw [hk1]; simp [IntKind.wrap, IntKind.bits, IntKind.signed]; omega
      have hk6 : IntKind.i64.wrap (k : Int) = (k : Int) := by simp [IntKind.wrap, IntKind.bits, IntKind.signed]; omega
      have hk3 : (k : Int) ≤ (size : Int) := by omega
      have hk0 : (0 : Int) ≤ (k : Int) := by omega
      have hk4 : ¬ size = k := by omega
      have hk5 : size - k = 4 := by omega
      have HK := hide hk
      clear hk
      go_wp2_with fail
      go_region_held3 (fun z => True) (exact trivial)
        (first
          | (go_at_call 81; refine (HCR.out _ HE.out.drew).mono ?_; rintro e y ⟨rfl, rfl⟩)
          | (go_at_call 79; refine (HPT2.out _ HE.out.drew).mono ?_; rintro e y ⟨rfl, hb⟩; have HB9 := hide hb; clear hb))
      clear HCR HPT2 HCL HE
      go_wp2_with fail
      go_ret
      refine ⟨rfl, ?_, HB9.out.bel⟩
      have h9 := HB9.out.pb
      unfold PB at h9
      rw [HRB.out, h9]
      simp
end Go.Proofs.Ytlkccencilhacaa
