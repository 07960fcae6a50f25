import Derived.Test.YtdjdcpldofmdjaaCRt
namespace Go.Proofs.Ytdjdcpldofmdjaa
open Go.RowKit
set_option linter.unusedVariables false
set_option linter.unusedSimpArgs false
set_option maxRecDepth 20000

theorem psR_len {n : Nat} {R : List Int × Nat × Bool} (h : R.1.length = 15) : (psR n R).1.length = 15 := by
  unfold psR
  split
  · exact h
  · rfl
theorem pAll_len (l : List UInt8) : ∀ (m k a : Nat) (vs : List Int), (pAll l m k a vs).1.length = vs.length
  | 0, k, a, vs => rfl
  | m + 1, k, a, vs => by
    unfold pAll
    split
    · rw [pAll_len l m]; exact putO_len _ _ _
    · rfl
set_option maxHeartbeats 2000000 in
theorem lines_law (t : ByteArray) (w : World) (ht : t.size ≤ maxLen) : Calls Try.prog 3 #[.string t] w fun e w' => e = .returned (.bool true) ∧ Below w.heap.size w w' := by
  have HP := hide fun W => parse_any t W ht
  have HQ := hide fun W => rparse_any t W ht
  rw [← same_answer] at HQ
  have hq : (psR t.size (pAll (tx t) 15 0 0 zS)).1.length = 15 := psR_len (by rw [pAll_len]; rfl)
  generalize psR t.size (pAll (tx t) 15 0 0 zS) = q at *
  obtain ⟨vs, at_, er⟩ := q
  dsimp only at hq
  match vs, hq with
  | [x0, x1, x2, x3, x4, x5, x6, x7, x8, x9, x10, x11, x12, x13, x14], _ =>
    clear ht hq
    unfold PsP at HP HQ
    simp only [inv, List.map_cons, List.map_nil] at HP HQ
    have HK1 : Hid (∀ w1 W : World, Below (w1.alloc (.cells #[Value.int .i64 x0, .int .i64 x1, .int .i64 x2, .int .i64 x3, .int .i64 x4, .int .i64 x5, .int .i64 x6, .int .i64 x7, .int .i64 x8, .int .i64 x9, .int .i64 x10, .int .i64 x11, .int .i64 x12, .int .i64 x13, .int .i64 x14] 23)).heap.size (w1.alloc (.cells #[Value.int .i64 x0, .int .i64 x1, .int .i64 x2, .int .i64 x3, .int .i64 x4, .int .i64 x5, .int .i64 x6, .int .i64 x7, .int .i64 x8, .int .i64 x9, .int .i64 x10, .int .i64 x11, .int .i64 x12, .int .i64 x13, .int .i64 x14] 23)) W → (W.alloc (.cells #[Value.int .i64 x0, .int .i64 x1, .int .i64 x2, .int .i64 x3, .int .i64 x4, .int .i64 x5, .int .i64 x6, .int .i64 x7, .int .i64 x8, .int .i64 x9, .int .i64 x10, .int .i64 x11, .int .i64 x12, .int .i64 x13, .int .i64 x14] 23)).heap[w1.heap.size]? = some (.cells #[Value.int .i64 x0, .int .i64 x1, .int .i64 x2, .int .i64 x3, .int .i64 x4, .int .i64 x5, .int .i64 x6, .int .i64 x7, .int .i64 x8, .int .i64 x9, .int .i64 x10, .int .i64 x11, .int .i64 x12, .int .i64 x13, .int .i64 x14] 23 (0, 0))) := hide fun w1 W hW => by
      have h1 := (hW.block w1.heap.size (by simp)).trans (Go.heap_alloc_new w1 _)
      rw [Below.heap_alloc _ _ _ (Array.getElem?_eq_some_iff.1 h1).1]
      exact h1
    have HK2 : Hid (∀ W : World, (W.alloc (.cells #[Value.int .i64 x0, .int .i64 x1, .int .i64 x2, .int .i64 x3, .int .i64 x4, .int .i64 x5, .int .i64 x6, .int .i64 x7, .int .i64 x8, .int .i64 x9, .int .i64 x10, .int .i64 x11, .int .i64 x12, .int .i64 x13, .int .i64 x14] 23)).heap[W.heap.size]? = some (.cells #[Value.int .i64 x0, .int .i64 x1, .int .i64 x2, .int .i64 x3, .int .i64 x4, .int .i64 x5, .int .i64 x6, .int .i64 x7, .int .i64 x8, .int .i64 x9, .int .i64 x10, .int .i64 x11, .int .i64 x12, .int .i64 x13, .int .i64 x14] 23 (0, 0))) := hide fun W => Go.heap_alloc_new W _
    have HIO : Hid ((Try.prog.info? 23).map (·.size) = some 15) := hide (inv_size (vs := zS) rfl)
    go_enter Try.func3, Try.ntmps3
    go_wp2_with (first
      | (go_at_call 9; refine (HP.out _).mono ?_; clear HP; rintro e w1 ⟨rfl, hb1⟩; have HB1 := hide hb1; clear hb1)
      | (go_at_call 10; refine (HQ.out _).mono ?_; clear HQ; rintro e w2 ⟨rfl, hb2⟩; have hkx := HK1.out _ _ hb2; have HKX := hide hkx; have HB2 := hide hb2; clear hb2 hkx)
      | (refine wpList_load_row rfl 23 (.tmp 3) rfl w1.heap.size rfl 23 #[Value.int .i64 x0, .int .i64 x1, .int .i64 x2, .int .i64 x3, .int .i64 x4, .int .i64 x5, .int .i64 x6, .int .i64 x7, .int .i64 x8, .int .i64 x9, .int .i64 x10, .int .i64 x11, .int .i64 x12, .int .i64 x13, .int .i64 x14] (0, 0) _ HKX.out Try.underlying23 rfl HIO.out ?_; clear HKX)
      | (refine wpList_load_row rfl 23 (.tmp 6) rfl w2.heap.size rfl 23 #[Value.int .i64 x0, .int .i64 x1, .int .i64 x2, .int .i64 x3, .int .i64 x4, .int .i64 x5, .int .i64 x6, .int .i64 x7, .int .i64 x8, .int .i64 x9, .int .i64 x10, .int .i64 x11, .int .i64 x12, .int .i64 x13, .int .i64 x14] (0, 0) _ (HK2.out w2) Try.underlying23 rfl HIO.out ?_; clear HK2))
    go_ret
    exact ⟨rfl, (HB1.out.alloc HB1.out.size _).trans (((HB2.out.alloc HB2.out.size _)).mono (by have := HB1.out.size; simp; omega))⟩
end Go.Proofs.Ytdjdcpldofmdjaa
