import Derived.Test.YtepgiomgkgfioaaABase
namespace Go.Proofs.Ytepgiomgkgfioaa
open Go.RowKit
set_option linter.unusedVariables false
set_option maxRecDepth 20000

theorem results_row_tmp {P : Program} {fn : Func} {p u : Tmp} {ty : TypeId} (h : fn.results = #[.cell p ty, .tmp u]) (tmps : Array Value) (w : World) (g : Nat) (t : TypeId) (cs : Array Value) (fr : Nat × Nat) (d : TypeDesc)
    (hp : tmps.getD p undef = .pointer (some ⟨g, 0, none⟩)) (hg : w.heap[g]? = some (.cells cs t fr))
    (hu : P.underlying ty = some d) (hd : (match d with | .struct _ | .array _ _ => true | _ => false) = true) (hi : (P.info? ty).map (·.size) = some cs.size) :
    (results fn tmps).run P w = .ok (.tuple #[.agg cs, tmps.getD u undef]) w := by
  have hp' : tmps[p]?.getD undef = .pointer (some ⟨g, 0, none⟩) := by simpa using hp
  simp [results, h, hp', asAddr, run_loadVar_row w g t ty cs fr d hg hu hd hi]
theorem heap_two (w : World) (A B : Obj) : ((w.alloc A).alloc B).drew.heap[w.heap.size]? = some A := by
  show ((w.alloc A).alloc B).heap[w.heap.size]? = _
  rw [Below.heap_alloc _ _ _ (by simp), Go.heap_alloc_new]
theorem heap_two' (w : World) (A B : Obj) : ((w.alloc A).alloc B).heap[w.heap.size]? = some A := by
  rw [Below.heap_alloc _ _ _ (by simp), Go.heap_alloc_new]
def okSz (n : Int) : Bool := n == 128 || n == 256 || n == 512 || n == 1024
theorem okSz_iff {n : Int} : okSz n = true ↔ (n = 128 ∨ n = 256 ∨ n = 512 ∨ n = 1024) := by simp [okSz, or_assoc]
theorem okSz_cases {n : Int} (h : okSz n = true) : n = 128 ∨ n = 256 ∨ n = 512 ∨ n = 1024 := okSz_iff.1 h
theorem okSz_pos {n : Int} (h : okSz n = true) : 128 ≤ n ∧ n ≤ 1024 := by have := okSz_iff.1 h; omega
theorem okSz_lo {n : Int} (h : ¬ 128 ≤ n) : okSz n = false := by
  cases e : okSz n with
  | false => rfl
  | true => have := okSz_iff.1 e; omega
theorem okSz_hi {n : Int} (h : ¬ n ≤ 1024) : okSz n = false := by
  cases e : okSz n with
  | false => rfl
  | true => have := okSz_iff.1 e; omega
theorem pow_all : ∀ m : Nat, m < 1025 → 128 ≤ m → (bits BinOp.and .i64 (m : Int) ((m : Int) - 1) == 0) = okSz m := by decide +kernel
theorem validSize_any (w : World) (n : Int) : Calls Try.prog 23 #[.int .i64 n] w fun e w' => e = .returned (.bool (okSz n)) ∧ w' = w := by
  by_cases h1 : 128 ≤ n
  · by_cases h2 : n ≤ 1024
    · go_enter Try.func23, Try.ntmps23
      go_wp2_with fail
      go_ret
      refine ⟨?_, rfl⟩
      obtain ⟨m, rfl⟩ : ∃ m : Nat, n = m := ⟨n.toNat, by omega⟩
      have h := pow_all m (by omega) (by omega)
      rw [← h]
      rfl
    · rw [okSz_hi h2]
      go_enter Try.func23, Try.ntmps23
      go_wp2_with fail
      go_ret
      exact ⟨rfl, rfl⟩
  · rw [okSz_lo h1]
    go_enter Try.func23, Try.ntmps23
    go_wp2_with fail
    go_ret
    exact ⟨rfl, rfl⟩
theorem sized_any (w : World) (n : Int) : Calls Try.prog 4 #[.int .i64 n] w fun e w' => e = .returned (.bool (okSz n)) ∧ w' = w := by
  unfold okSz
  by_cases h1 : n = 128
  · subst h1
    go_enter Try.func4, Try.ntmps4
    go_wp2_with fail
    go_ret
    exact ⟨rfl, rfl⟩
  by_cases h2 : n = 256
  · subst h2
    go_enter Try.func4, Try.ntmps4
    go_wp2_with fail
    go_ret
    exact ⟨rfl, rfl⟩
  by_cases h3 : n = 512
  · subst h3
    go_enter Try.func4, Try.ntmps4
    go_wp2_with fail
    go_ret
    exact ⟨rfl, rfl⟩
  go_enter Try.func4, Try.ntmps4
  go_wp2_with fail
  go_ret
  exact ⟨by simp, rfl⟩
end Go.Proofs.Ytepgiomgkgfioaa
