import Derived.Test.YtlkccencilhacaaARef7
namespace Go.Proofs.Ytlkccencilhacaa
open Go.RowKit Go.Sort
set_option linter.unusedVariables false
set_option linter.unusedSimpArgs false
set_option maxRecDepth 20000

/-- a log: its block, and its Lru -/
structure LgR (w : World) (lp p bm : Nat) (kv rv iv : Value) (S : LS) (ext size first written : Nat) : Prop where
  row : w.heap[lp]? = some (.cells #[.pointer (some ⟨p, 0, none⟩), .int .i64 (ext : Int), .int .i64 (size : Int), .int .u32 (first : Int), .int .i64 (written : Int)] 106 (0, 0))
  l : LRep w p bm kv rv iv S
  ap : ¬ LU p bm kv rv iv lp
def GU (lp p bm : Nat) (kv rv iv : Value) (b : Nat) : Prop := b = lp ∨ LU p bm kv rv iv b
theorem LgR.c {w : World} {lp p bm : Nat} {kv rv iv : Value} {S : LS} {ext size first written : Nat} (h : LgR w lp p bm kv rv iv S ext size first written) (i : Nat) : w.cell? ⟨lp, i, none⟩ = (#[.pointer (some ⟨p, 0, none⟩), .int .i64 (ext : Int), .int .i64 (size : Int), .int .u32 (first : Int), .int .i64 (written : Int)] : Array Value)[i]? := cell_of_row _ _ _ _ _ _ h.row
theorem LgR.lt {w : World} {lp p bm : Nat} {kv rv iv : Value} {S : LS} {ext size first written : Nat} (h : LgR w lp p bm kv rv iv S ext size first written) : ∀ b, GU lp p bm kv rv iv b → b < w.heap.size := by
  rintro b (rfl | e)
  · exact (Array.getElem?_eq_some_iff.1 h.row).1
  · exact h.l.lt b e
theorem LgR.kept {w w' : World} {lp p bm : Nat} {kv rv iv : Value} {S : LS} {ext size first written : Nat} (h : LgR w lp p bm kv rv iv S ext size first written) (hk : ∀ b, GU lp p bm kv rv iv b → w'.heap[b]? = w.heap[b]?) : LgR w' lp p bm kv rv iv S ext size first written :=
  ⟨(hk _ (.inl rfl)).trans h.row, h.l.kept fun b e => hk b (.inr e), h.ap⟩
theorem LgR.below {w w' : World} {lp p bm : Nat} {kv rv iv : Value} {S : LS} {ext size first written : Nat} (h : LgR w lp p bm kv rv iv S ext size first written) (hb : Below w.heap.size w w') : LgR w' lp p bm kv rv iv S ext size first written := h.kept fun b e => hb.block b (h.lt b e)
/-- the Lru turned: the log with it -/
theorem LgR.turn {w w' : World} {lp p bm : Nat} {kv rv iv kv' rv' iv' : Value} {S S' : LS} {ext size first written : Nat} (h : LgR w lp p bm kv rv iv S ext size first written) (hl : LRep w' p bm kv' rv' iv' S') (hc : Chg (LU p bm kv rv iv) w w') (hloc : LLoc w p bm kv rv iv kv' rv' iv') : LgR w' lp p bm kv' rv' iv' S' ext size first written := by
  have hlt := h.lt lp (.inl rfl)
  refine ⟨(hc.keep lp hlt h.ap).trans h.row, hl, fun e => ?_⟩
  rcases hloc lp e with e | e
  · exact h.ap e
  · omega
theorem lhas_any {w : World} {lp p bm : Nat} {kv rv iv : Value} {S : LS} {ext size first written : Nat} (h : LgR w lp p bm kv rv iv S ext size first written) (x : Int) :
    Calls Try.prog 47 #[.pointer (some ⟨lp, 0, none⟩), .int .i64 x] w fun e w' => e = .returned (.bool (decide (0 ≤ x ∧ x < (ext : Int)))) ∧ w' = w := by
  have c1 : w.cell? ⟨lp, 1, none⟩ = some (.int .i64 (ext : Int)) := h.c 1
  clear h
  by_cases h0 : 0 ≤ x
  · by_cases h1 : x < (ext : Int)
    · rw [decide_eq_true (And.intro h0 h1)]
      go_enter Try.func47, Try.ntmps47
      go_wp2_with fail
      go_ret
      exact ⟨by simp, rfl⟩
    · rw [decide_eq_false (fun e => h1 e.2)]
      have b1 : (x < (ext : Int)) = False := by simp; omega
      go_enter Try.func47, Try.ntmps47
      go_wp2_with fail
      go_ret
      exact ⟨by simp, rfl⟩
  · rw [decide_eq_false (fun e => h0 e.1)]
    have b1 : (0 ≤ x) = False := by simp; omega
    go_enter Try.func47, Try.ntmps47
    go_wp2_with fail
    go_ret
    exact ⟨by simp, rfl⟩
set_option maxHeartbeats 1000000 in
theorem lEnd_any {w : World} {lp p bm M : Nat} {kv rv iv : Value} {S : LS} {ext size first written : Nat} (h : LgR w lp p bm kv rv iv S ext size first written) (hS : S.Ok M) (hM : M ≤ 4611686018427387904) {x : Int} (hx : i64ok x) :
    Calls Try.prog 20 #[.pointer (some ⟨lp, 0, none⟩), .int .i64 x] w fun e w' => (¬ (0 ≤ x ∧ x < (ext : Int)) ∧ e = .returned (.int .i64 2) ∧ w' = w) ∨
      ((0 ≤ x ∧ x < (ext : Int)) ∧ ∃ S' er iv', PutRes S x S' er ∧ e = .returned (.int .i64 er) ∧ LgR w' lp p bm kv rv iv' S' ext size first written ∧ S'.Ok M ∧ Chg (LU p bm kv rv iv) w w' ∧ LLoc w p bm kv rv iv kv rv iv') := by
  have c0 : w.cell? ⟨lp, 0, none⟩ = some (.pointer (some ⟨p, 0, none⟩)) := h.c 0
  have HH := hide (lhas_any h x)
  have HP := hide (Put_any h.l hS hM hx)
  have HT : Hid (∀ w' kv' rv' iv' S', _ → _ → _ → LgR w' lp p bm kv' rv' iv' S' ext size first written) := hide fun w' kv' rv' iv' S' a b c => h.turn (w' := w') (kv' := kv') (rv' := rv') (iv' := iv') (S' := S') a b c
  clear h hS hx
  by_cases hin : 0 ≤ x ∧ x < (ext : Int)
  · rw [decide_eq_true hin] at HH
    have HI := hide hin
    clear hin
    go_enter Try.func20, Try.ntmps20
    go_wp2_with (first
      | (go_at_call 47; refine HH.out.mono ?_; rintro e w1 ⟨rfl, rfl⟩; clear HH)
      | (go_at_call 51; refine HP.out.mono ?_; rintro e w2 ⟨S', er, iv', hp, rfl, hl, ho, hc, hloc⟩; have HF := hide (And.intro hp (And.intro (HT.out _ _ _ _ _ hl hc hloc) (And.intro ho (And.intro hc hloc)))); clear hp hl ho hc hloc HP HT))
    go_ret
    exact .inr ⟨HI.out, _, _, _, HF.out.1, rfl, HF.out.2⟩
  · rw [decide_eq_false hin] at HH
    have HI := hide hin
    clear hin
    go_enter Try.func20, Try.ntmps20
    go_wp2_with (first
      | (go_at_call 47; refine HH.out.mono ?_; rintro e w1 ⟨rfl, rfl⟩; clear HH))
    go_ret
    exact .inl ⟨HI.out, rfl, rfl⟩
end Go.Proofs.Ytlkccencilhacaa
