import Derived.Test.YtlkccencilhacaaARpM
namespace Go.Proofs.Ytlkccencilhacaa
open Go.RowKit Go.Sort
open Num
set_option linter.unusedVariables false
set_option linter.unusedSimpArgs false
set_option maxRecDepth 20000

/-- a record as a value -/
def recI (r : Rc) : Array Value := #[.int .u32 (r.num : Int), .int .i64 (r.age : Int), .int .i64 (r.slots : Int), .int .i64 r.c0, .int .i64 r.c1, .int .i64 r.c2, .int .i64 r.st, .int .i64 (r.C.getD 0 0), .int .i64 (r.C.getD 1 0), .int .i64 (r.C.getD 2 0), .int .i64 (r.C.getD 3 0)]
set_option maxHeartbeats 1000000 in
theorem blockI_any (w : World) (size num age slots : Nat) (c0 c1 c2 start : Int) (C : List Int) (hsz : size = 128 ∨ size = 256 ∨ size = 512 ∨ size = 1024) (h1 : num < 4294967296) (h2 : age < 4294967296) (h3 : slots < 4294967296) :
    Calls Try.prog 50 #[.agg (recI (Rc.mk num age slots c0 c1 c2 start C)), .int .i64 (size : Int)] w fun e w' => e = .returned (.slice (some ⟨w.heap.size + 1, 0, none⟩) size size) ∧ w'.heap[w.heap.size + 1]? = some (.cells (byts ((Rc.mk num age slots c0 c1 c2 start C).bytes size)) 5 (0, 0)) ∧ Below w.heap.size w w' := by
  unfold recI
  show Calls _ _ #[.agg #[.int .u32 (num : Int), .int .i64 (age : Int), .int .i64 (slots : Int), .int .i64 c0, .int .i64 c1, .int .i64 c2, .int .i64 start, .int .i64 (C.getD 0 0), .int .i64 (C.getD 1 0), .int .i64 (C.getD 2 0), .int .i64 (C.getD 3 0)], _] _ _
  have hs : size ≤ 1024 ∧ 128 ≤ size := by omega
  obtain ⟨hs1, hs2⟩ := hs
  clear hsz
  have hmk := fun W : World => run_byts size (by omega) W
  generalize hz0 : C.getD 0 0 = z0
  generalize hz1 : C.getD 1 0 = z1
  generalize hz2 : C.getD 2 0 = z2
  generalize hz3 : C.getD 3 0 = z3
  have HZ := hide (And.intro hz0 (And.intro hz1 (And.intro hz2 hz3)))
  clear hz0 hz1 hz2 hz3
  obtain ⟨RR, hRR⟩ : ∃ RR : Array Value, RR = #[.int .u32 (num : Int), .int .i64 (age : Int), .int .i64 (slots : Int), .int .i64 c0, .int .i64 c1, .int .i64 c2, .int .i64 start, .int .i64 z0, .int .i64 z1, .int .i64 z2, .int .i64 z3] := ⟨_, rfl⟩
  have HB0 := hide (BkW.start w RR size)
  have HLT := hide fun x (h : BkW w x RR [] size) => h.letters (by omega)
  have HPT := hide fun x pre m off k cap num (h : BkW w x RR pre m) ho hk hk4 hc hc2 hn => h.put (off := off) (k := k) (cap := cap) (num := num) ho hk hk4 hc hc2 hn
  have HC := hide fun x pre m (h : BkW w x RR pre m) i => h.c i
  rw [hRR] at HB0 HLT HPT HC
  clear hRR
  have q1 : IntKind.u32.wrap (age : Int) = (age : Int) := by simp [IntKind.wrap, IntKind.bits, IntKind.signed]; omega
  have q2 : IntKind.u32.wrap (slots : Int) = (slots : Int) := by simp [IntKind.wrap, IntKind.bits, IntKind.signed]; omega
  have q3 := u32N_wrap start
  have q4 := u32N_wrap c0
  have q5 := u32N_wrap c1
  have q6 := u32N_wrap c2
  have q7 := u32N_wrap z0
  have q8 := u32N_wrap z1
  have q9 := u32N_wrap z2
  have q10 := u32N_wrap z3
  have HX := hide (And.intro (u32N_lt c0) (And.intro (u32N_lt c1) (And.intro (u32N_lt c2) (And.intro (u32N_lt z0) (And.intro (u32N_lt z1) (And.intro (u32N_lt z2) (u32N_lt z3)))))))
  go_enter Try.func50, Try.ntmps50
  go_wp2_with (refine wpList_copyS rfl _ _ rfl (w.heap.size + 1) size size rfl ⟨#[97, 99, 116, 108]⟩ rfl (byts (List.replicate size 0)) HB0.out.pb (by simp [ByteArray.size]; omega) (by simp [ByteArray.size, byts]; omega) ?_)
  have hsz4 : (⟨#[97, 99, 116, 108]⟩ : ByteArray).size = 4 := rfl
  have HB1 := hide (HLT.out _ HB0.out)
  have b8 : (8 : Int) ≤ (size : Int) := by omega
  have b10 : (10 : Int) ≤ (size : Int) := by omega
  have b12 : (12 : Int) ≤ (size : Int) := by omega
  have b16 : (16 : Int) ≤ (size : Int) := by omega
  have b20 : (20 : Int) ≤ (size : Int) := by omega
  have b24 : (24 : Int) ≤ (size : Int) := by omega
  have b28 : (28 : Int) ≤ (size : Int) := by omega
  have n4 : ¬ size = 4 := by omega
  have n8 : ¬ size = 8 := by omega
  have n10 : ¬ size = 10 := by omega
  have n12 : ¬ size = 12 := by omega
  have n16 : ¬ size = 16 := by omega
  have n20 : ¬ size = 20 := by omega
  have n24 : ¬ size = 24 := by omega
  rw [hsz4]
  clear hsz4 HB0 HLT hmk
  generalize World.setRow _ _ _ = x1 at *
  simp only [Act.put, List.setIfInBounds_toArray, List.set_cons_zero, List.set_cons_succ]
  have c0 : x1.cell? ⟨w.heap.size, 0, none⟩ = some (.int .u32 (num : Int)) := HC.out _ _ _ HB1.out 0
  go_region_held3 (fun z => z.cell? ⟨w.heap.size, 0, none⟩ = some (.int .u32 (num : Int))) (first | exact c0 | exact d0)
    ((go_at_call 79; refine (HPT.out _ _ _ 4 4 (size - 4) num HB1.out.drew rfl (by omega) (by omega) (by omega) (by unfold maxLen; omega) h1).mono ?_; rintro e x2 ⟨rfl, hb⟩; have HB2 := hide hb; have d0 : x2.cell? ⟨w.heap.size, 0, none⟩ = some (.int .u32 (num : Int)) := HC.out _ _ _ hb 0; clear hb))
  clear c0 d0 HB1
  go_wp2_with fail
  have c1 : x2.cell? ⟨w.heap.size, 1, none⟩ = some (.int .i64 (age : Int)) := HC.out _ _ _ HB2.out 1
  go_region_held3 (fun z => z.cell? ⟨w.heap.size, 1, none⟩ = some (.int .i64 (age : Int))) (first | exact c1 | exact d1)
    ((go_at_call 79; refine (HPT.out _ _ _ 8 2 (size - 8) age HB2.out.drew rfl (by omega) (by omega) (by omega) (by unfold maxLen; omega) h2).mono ?_; rintro e x3 ⟨rfl, hb⟩; have HB3 := hide hb; have d1 : x3.cell? ⟨w.heap.size, 1, none⟩ = some (.int .i64 (age : Int)) := HC.out _ _ _ hb 1; clear hb))
  clear c1 d1 HB2
  go_wp2_with fail
  have c2 : x3.cell? ⟨w.heap.size, 2, none⟩ = some (.int .i64 (slots : Int)) := HC.out _ _ _ HB3.out 2
  go_region_held3 (fun z => z.cell? ⟨w.heap.size, 2, none⟩ = some (.int .i64 (slots : Int))) (first | exact c2 | exact d2)
    ((go_at_call 79; refine (HPT.out _ _ _ 10 2 (size - 10) slots HB3.out.drew rfl (by omega) (by omega) (by omega) (by unfold maxLen; omega) h3).mono ?_; rintro e x4 ⟨rfl, hb⟩; have HB4 := hide hb; have d2 : x4.cell? ⟨w.heap.size, 2, none⟩ = some (.int .i64 (slots : Int)) := HC.out _ _ _ hb 2; clear hb))
  clear c2 d2 HB3
  go_wp2_with fail
  have c3 : x4.cell? ⟨w.heap.size, 3, none⟩ = some (.int .i64 c0) := HC.out _ _ _ HB4.out 3
  go_region_held3 (fun z => z.cell? ⟨w.heap.size, 3, none⟩ = some (.int .i64 c0)) (first | exact c3 | exact d3)
    ((go_at_call 79; refine (HPT.out _ _ _ 12 4 (size - 12) (u32N c0) HB4.out.drew rfl (by omega) (by omega) (by omega) (by unfold maxLen; omega) HX.out.1).mono ?_; rintro e x5 ⟨rfl, hb⟩; have HB5 := hide hb; have d3 : x5.cell? ⟨w.heap.size, 3, none⟩ = some (.int .i64 c0) := HC.out _ _ _ hb 3; clear hb))
  clear c3 d3 HB4
  go_wp2_with fail
  have c4 : x5.cell? ⟨w.heap.size, 4, none⟩ = some (.int .i64 c1) := HC.out _ _ _ HB5.out 4
  go_region_held3 (fun z => z.cell? ⟨w.heap.size, 4, none⟩ = some (.int .i64 c1)) (first | exact c4 | exact d4)
    ((go_at_call 79; refine (HPT.out _ _ _ 16 4 (size - 16) (u32N c1) HB5.out.drew rfl (by omega) (by omega) (by omega) (by unfold maxLen; omega) HX.out.2.1).mono ?_; rintro e x6 ⟨rfl, hb⟩; have HB6 := hide hb; have d4 : x6.cell? ⟨w.heap.size, 4, none⟩ = some (.int .i64 c1) := HC.out _ _ _ hb 4; clear hb))
  clear c4 d4 HB5
  go_wp2_with fail
  have c5 : x6.cell? ⟨w.heap.size, 5, none⟩ = some (.int .i64 c2) := HC.out _ _ _ HB6.out 5
  go_region_held3 (fun z => z.cell? ⟨w.heap.size, 5, none⟩ = some (.int .i64 c2)) (first | exact c5 | exact d5)
    ((go_at_call 79; refine (HPT.out _ _ _ 20 4 (size - 20) (u32N c2) HB6.out.drew rfl (by omega) (by omega) (by omega) (by unfold maxLen; omega) HX.out.2.2.1).mono ?_; rintro e x7 ⟨rfl, hb⟩; have HB7 := hide hb; have d5 : x7.cell? ⟨w.heap.size, 5, none⟩ = some (.int .i64 c2) := HC.out _ _ _ hb 5; clear hb))
  clear c5 d5 HB6
  go_wp2_with fail
  have c6 : x7.cell? ⟨w.heap.size, 6, none⟩ = some (.int .i64 start) := HC.out _ _ _ HB7.out 6
  go_region_held3 (fun z => z.cell? ⟨w.heap.size, 6, none⟩ = some (.int .i64 start)) (first | exact c6 | exact d6)
    ((go_at_call 79; refine (HPT.out _ _ _ 24 4 (size - 24) (u32N start) HB7.out.drew rfl (by omega) (by omega) (by omega) (by unfold maxLen; omega) (u32N_lt start)).mono ?_; rintro e x8 ⟨rfl, hb⟩; have HB8 := hide hb; have d6 : x8.cell? ⟨w.heap.size, 6, none⟩ = some (.int .i64 start) := HC.out _ _ _ hb 6; clear hb))
  clear c6 d6 HB7
  have c7 : x8.cell? ⟨w.heap.size, 7, none⟩ = some (.int .i64 z0) := HC.out _ _ _ HB8.out 7
  have c8 : x8.cell? ⟨w.heap.size, 8, none⟩ = some (.int .i64 z1) := HC.out _ _ _ HB8.out 8
  have c9 : x8.cell? ⟨w.heap.size, 9, none⟩ = some (.int .i64 z2) := HC.out _ _ _ HB8.out 9
  have c10 : x8.cell? ⟨w.heap.size, 10, none⟩ = some (.int .i64 z3) := HC.out _ _ _ HB8.out 10
  go_wp2_with fail
  clear c7 c8 c9 c10
  have HL0 : Hid (∃ pre, pre = [97, 99, 116, 108] ++ be num 4 ++ be age 2 ++ be slots 2 ++ be (u32N c0) 4 ++ be (u32N c1) 4 ++ be (u32N c2) 4 ++ be (u32N start) 4 ∧ pre.length = 28 ∧ BkW w x8 #[.int .u32 (num : Int), .int .i64 (age : Int), .int .i64 (slots : Int), .int .i64 c0, .int .i64 c1, .int .i64 c2, .int .i64 start, .int .i64 z0, .int .i64 z1, .int .i64 z2, .int .i64 z3] pre (size - 28)) := hide ⟨_, rfl, by simp [be_len], by have := HB8.out; simpa [Nat.sub_sub] using this⟩
  obtain ⟨PRE, hP1, hP2, hP3⟩ := HL0.out
  have HP1 := hide hP1
  have HP2 := hide hP2
  have HP3 := hide hP3
  clear hP1 hP2 hP3 HL0 HB8 b8 b10 b12 b16 b20 b24 b28 n4 n8 n10 n12 n16 n20 n24 q1 q2 q3 q4 q5 q6 q7 q8 q9 q10
  go_loopw [58] (fun x wr => ∃ i : Nat, i ≤ 4 ∧ x = .int .i64 (i : Int) ∧ BkW w wr #[.int .u32 (num : Int), .int .i64 (age : Int), .int .i64 (slots : Int), .int .i64 c0, .int .i64 c1, .int .i64 c2, .int .i64 start, .int .i64 z0, .int .i64 z1, .int .i64 z2, .int .i64 z3] (PRE ++ preC [z0, z1, z2, z3] i) (size - 28 - 4 * i)) (fun x _ => 4 - (intOf x).toNat)
  case atStart => exact ⟨0, by omega, rfl, by simpa [preC] using HP3.out⟩
  case round =>
    clear HP3
    obtain ⟨i, hi, rfl, hb⟩ := hrel
    have HB := hide hb
    clear hb
    by_cases hlt : i < 4
    · have hix := idx4i z0 z1 z2 z3 i hlt
      have HCW := hide fun x => ctxWord_any x (w.heap.size + 1) size size i hlt (by omega) (Nat.le_refl _) (by unfold maxLen; omega)
      have HNX : Hid (PRE ++ preC [z0, z1, z2, z3] (i + 1) = (PRE ++ preC [z0, z1, z2, z3] i) ++ be (u32N ([z0, z1, z2, z3].getD i 0)) 4) := hide (by rw [preC_succ, List.append_assoc])
      have HLN : Hid (28 + i * 4 = (PRE ++ preC [z0, z1, z2, z3] i).length) := hide (by rw [List.length_append, preC_len, HP2.out]; omega)
      generalize [z0, z1, z2, z3].getD i 0 = z at *
      have hz := u32N_wrap z
      have hil : (i : Int) < 4 := by omega
      go_wp2_with (first
        | (go_at_call 80; refine (HCW.out _).mono ?_; rintro e y ⟨rfl, rfl⟩)
        | (go_at_call 79; refine (HPT.out _ _ _ (28 + i * 4) 4 (size - (28 + i * 4)) (u32N z) HB.out HLN.out (by omega) (by omega) (by omega) (by unfold maxLen; omega) (u32N_lt z)).mono ?_; rintro e y ⟨rfl, hb⟩; have HB2 := hide hb; clear hb))
      go_roundw
      case rel => exact ⟨i + 1, by omega, by go_num, by rw [HNX.out]; have := HB2.out; rwa [show size - 28 - 4 * i - 4 = size - 28 - 4 * (i + 1) by omega] at this⟩
      case measure => simp [intOf]; omega
    · have e4 : i = 4 := by omega
      have HE : Hid (BkW w wr #[.int .u32 (num : Int), .int .i64 (age : Int), .int .i64 (slots : Int), .int .i64 c0, .int .i64 c1, .int .i64 c2, .int .i64 start, .int .i64 z0, .int .i64 z1, .int .i64 z2, .int .i64 z3] ((Rc.mk num age slots c0 c1 c2 start C).head size) 4) := hide (by
        have h9 := HB.out
        rw [e4] at h9
        have h8 := h9.more (k := 4) (by omega)
        obtain ⟨hz0, hz1, hz2, hz3⟩ := HZ.out
        have e : PRE ++ preC [z0, z1, z2, z3] 4 ++ List.replicate (size - 28 - 4 * 4 - 4) 0 = (Rc.mk num age slots c0 c1 c2 start C).head size := by
          unfold Rc.head Rc.mid
          rw [hz0, hz1, hz2, hz3, HP1.out, show size - 28 - 4 * 4 - 4 = size - 48 by omega]
          simp [preC, List.range_succ]
        rwa [e] at h8)
      have HLH : Hid (((Rc.mk num age slots c0 c1 c2 start C).head size).length = size - 4) := hide (by unfold Rc.head Rc.mid; simp [be_len]; omega)
      have HLB : Hid (∀ b ∈ (Rc.mk num age slots c0 c1 c2 start C).head size, b < 256) := hide (by
        intro b hb
        unfold Rc.head Rc.mid at hb
        simp only [List.mem_append, List.mem_cons, List.not_mem_nil, or_false, List.mem_replicate] at hb
        rcases hb with (((((((((((hb | hb) | hb) | hb) | hb) | hb) | hb) | hb) | hb) | hb) | hb) | hb) | hb
        · omega
        all_goals first | exact be_lt _ _ b hb | omega)
      have HRB : Hid ((Rc.mk num age slots c0 c1 c2 start C).bytes size = (Rc.mk num age slots c0 c1 c2 start C).head size ++ be (crcM 0 ((Rc.mk num age slots c0 c1 c2 start C).head size)) 4) := hide rfl
      have HCR := hide fun x (h : BkW w x #[.int .u32 (num : Int), .int .i64 (age : Int), .int .i64 (slots : Int), .int .i64 c0, .int .i64 c1, .int .i64 c2, .int .i64 start, .int .i64 z0, .int .i64 z1, .int .i64 z2, .int .i64 z3] ((Rc.mk num age slots c0 c1 c2 start C).head size) 4) => crc_any (.slice (some ⟨w.heap.size + 1, 0, none⟩) (size - 4) size) _ x (h.sl HLH.out.symm (by omega) (by unfold maxLen; omega) HLB.out)
      have HCL := hide (crcM_lt (c := 0) ((Rc.mk num age slots c0 c1 c2 start C).head size) (by omega) HLB.out)
      generalize (Rc.mk num age slots c0 c1 c2 start C).head size = RH at *
      generalize crcM 0 RH = cr at *
      clear e4 HB
      have HPT2 := hide fun x (h : BkW w x #[.int .u32 (num : Int), .int .i64 (age : Int), .int .i64 (slots : Int), .int .i64 c0, .int .i64 c1, .int .i64 c2, .int .i64 start, .int .i64 z0, .int .i64 z1, .int .i64 z2, .int .i64 z3] RH 4) => HPT.out x RH 4 (size - 4) 4 4 cr h HLH.out.symm (by omega) (by omega) (by omega) (by unfold maxLen; omega) HCL.out
      clear HPT
      obtain ⟨k, hk⟩ : ∃ k, size - 4 = k := ⟨_, rfl⟩
      rw [hk] at HCR HPT2
      have hk1 : (size : Int) - 4 = (k : Int) := by omega
      have hk2 : IntKind.i64.wrap ((size : Int) - 4) = (k : Int) := by rw [hk1]; simp [IntKind.wrap, IntKind.bits, IntKind.signed]; omega
      have hk6 : IntKind.i64.wrap (k : Int) = (k : Int) := by simp [IntKind.wrap, IntKind.bits, IntKind.signed]; omega
      have hk3 : (k : Int) ≤ (size : Int) := by omega
      have hk0 : (0 : Int) ≤ (k : Int) := by omega
      have hk4 : ¬ size = k := by omega
      have hk5 : size - k = 4 := by omega
      have HK := hide hk
      clear hk
      go_wp2_with fail
      go_region_held3 (fun z => True) (exact trivial)
        (first
          | (go_at_call 81; refine (HCR.out _ HE.out.drew).mono ?_; rintro e y ⟨rfl, rfl⟩)
          | (go_at_call 79; refine (HPT2.out _ HE.out.drew).mono ?_; rintro e y ⟨rfl, hb⟩; have HB9 := hide hb; clear hb))
      clear HCR HPT2 HCL HE
      go_wp2_with fail
      go_ret
      refine ⟨rfl, ?_, HB9.out.bel⟩
      have h9 := HB9.out.pb
      unfold PB at h9
      rw [HRB.out, h9]
      simp
end Go.Proofs.Ytlkccencilhacaa
