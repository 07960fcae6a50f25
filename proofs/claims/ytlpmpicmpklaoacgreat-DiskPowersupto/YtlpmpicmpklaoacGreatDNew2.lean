import Derived.Test.YtlpmpicmpklaoacGreatDNew
namespace Go.Proofs.YtlpmpicmpklaoacGreat
open Go.RowKit Go.Maps
set_option linter.unusedVariables false
set_option linter.unusedSimpArgs false
set_option maxRecDepth 20000

/-- a medium that is being laid: the first i blocks are -/
def midRow (nb i : Nat) (f : Nat → Value) : Array Value := ((List.range nb).map fun j => if j < i then f j else nilS).toArray
theorem midRow_size (nb i : Nat) (f : Nat → Value) : (midRow nb i f).size = nb := by simp [midRow]
theorem midRow_get {nb i j : Nat} (f : Nat → Value) (hj : j < nb) : (midRow nb i f)[j]? = some (if j < i then f j else nilS) := by simp [midRow, hj]
theorem midRow_set {nb i : Nat} (f : Nat → Value) (hi : i < nb) : (midRow nb i f).setIfInBounds i (f i) = midRow nb (i + 1) f := by
  apply Array.ext_getElem?
  intro j
  by_cases hj : j < nb
  · by_cases e : j = i
    · subst e
      rw [Array.getElem?_setIfInBounds_self_of_lt (by rw [midRow_size]; exact hi), midRow_get f hj, if_pos (by omega)]
    · rw [Array.getElem?_setIfInBounds_ne (by omega), midRow_get f hj, midRow_get f hj]
      by_cases h : j < i
      · rw [if_pos h, if_pos (by omega)]
      · rw [if_neg h, if_neg (by omega)]
  · rw [Array.getElem?_eq_none (by simp [midRow]; omega), Array.getElem?_eq_none (by simp [midRow]; omega)]
theorem midRow_full (nb : Nat) (f : Nat → Value) : midRow nb nb f = ((List.range nb).map f).toArray := by
  unfold midRow
  congr 1
  apply List.map_congr_left
  intro j hj
  rw [if_pos (List.mem_range.1 hj)]
theorem made_nils (n : Nat) (f : Nat → Value) : madeCells (Value.slice none 0 0).cells (n * 1) = midRow n 0 f := by
  apply Array.ext_getElem?
  intro i
  by_cases h : i < n
  · rw [midRow_get f h, if_neg (by omega)]
    simp [madeCells, Value.cells, h, Nat.mod_one, nilS]
  · rw [Array.getElem?_eq_none (by rw [size_madeCells]; omega), Array.getElem?_eq_none (by rw [midRow_size]; omega)]

/-- 'make(medium, n)' -/
theorem wpList_nils {ops : Array Oper} {rest : List Oper} {o : Oper} {a : Act} {w : World} {Q : Exit → Act → World → Prop} (hgd : o.guard = none) (l c : Operand) (ho : o.op = Op.makeSlice 81 l c)
    (C : Int) (n : Nat) (hl : a.eval l = .int .i64 C) (hc : a.eval c = .int .i64 C) (hC : C = (n : Int)) (hn : n ≤ 8192) (f : Nat → Value)
    (h : wpList Tryz.prog ops Q rest (a.put o.dst (.slice (some ⟨w.heap.size, 0, none⟩) n n)) (w.alloc (.cells (midRow n 0 f) 22))) : wpList Tryz.prog ops Q (o :: rest) a w := by
  obtain ⟨i0, hi, hz0, hz1, hz2⟩ := info_parts info_bytes
  subst hC
  refine wpList_plain hgd fun K' hK' => ?_
  have hr := run_make (P := Tryz.prog) w 81 22 i0 (.slice none 0 0) Tryz.underlying81 hi hz0 .i64 .i64 (n : Int) (n : Int) (by omega) (Int.le_refl _) (by rw [hz2]; omega) (by omega)
  simp only [Int.toNat_natCast] at hr
  rw [hz1, made_nils n f] at hr
  unfold Oper.wp
  simp only [execOp, ho, hl, hc, hr, Sem.run_bind, Result.andThen_ok, Sem.run_pure]
  exact hK' _ _ h

structure BInv (w wr : World) (nb sz i : Nat) : Prop where
  hi : i ≤ nb
  row : wr.heap[w.heap.size]? = some (.cells (midRow nb i fun _ => sl (w.heap.size + 1) sz) 22 (0, 0))
  pc : PieceAt wr (w.heap.size + 1) (zeros sz)
  be : Below w.heap.size w wr
  sz : wr.heap.size = w.heap.size + 2

theorem blank_any (w : World) (nb sz : Nat) (hnb : nb ≤ 8192) (hsz : sz = 128 ∨ sz = 256 ∨ sz = 512 ∨ sz = 1024) :
    Calls Tryz.prog 42 #[.int .i64 (nb : Int), .int .i64 (sz : Int)] w fun e w' => e = .returned (.slice (some ⟨w.heap.size, 0, none⟩) nb nb) ∧ BInv w w' nb sz nb := by
  have hszn : sz ≤ 281474976710656 := by omega
  obtain ⟨Z, hZ⟩ : ∃ Z, ((zeros sz).map byteV).toArray = Z := ⟨_, rfl⟩
  have START : Hid (BInv w ((w.alloc (.cells (midRow nb 0 fun _ => sl (w.heap.size + 1) sz) 22)).alloc (.cells Z 5)) nb sz 0) := hide
    ⟨Nat.zero_le _, by rw [Below.heap_alloc _ _ _ (by simp)]; exact Go.heap_alloc_new w _, ⟨by rw [hZ]; have := Go.heap_alloc_new (w.alloc (.cells (midRow nb 0 fun _ => sl (w.heap.size + 1) sz) 22)) (.cells Z 5); simpa using this, zeros_lt _, by rw [zeros_len]; unfold maxLen; omega, by rw [zeros_len]; omega⟩, ((Below.refl _ _).alloc (Nat.le_refl _) _).alloc (by simp) _, by simp⟩
  have HZ := hide hZ
  clear hZ
  go_enter Tryz.func42, Tryz.ntmps42
  go_wp2_with (first
    | (at_make; refine wpList_nils rfl _ _ rfl _ nb rfl rfl rfl hnb (fun _ => sl (w.heap.size + 1) sz) ?_)
    | (at_make; refine wpList_zeros rfl _ _ rfl _ sz rfl rfl rfl hszn Z HZ ?_))
  go_loopw [14] (fun i wr => ∃ n : Nat, i = .int .i64 (n : Int) ∧ BInv w wr nb sz n) (fun i _ => nb - (intOf i).toNat)
  case atStart => exact ⟨0, rfl, START.out⟩
  case round =>
    clear START
    obtain ⟨n, rfl, hI⟩ := hrel
    have hn := hI.hi
    have HI := hide hI
    have hrow := hI.row
    clear hI
    by_cases hlt : n < nb
    · have hc : wr.cell? ⟨w.heap.size, n, none⟩ = some nilS := by rw [cell_of_row _ _ _ _ _ _ hrow, midRow_get _ hlt, if_neg (by omega)]
      have hf : wr.frozen? ⟨w.heap.size, n, none⟩ = false := frozen_of_row _ _ _ _ 22 hrow
      have HN : Hid (BInv w (wr.setCell ⟨w.heap.size, n, none⟩ (sl (w.heap.size + 1) sz)) nb sz (n + 1)) := hide
        ⟨by omega, by rw [← midRow_set _ hlt]; exact Go.heap_setCell_same wr w.heap.size n _ 22 _ HI.out.row, HI.out.pc.kept (Go.heap_setCell_other _ _ _ _ (by simp)), HI.out.be.setCell (p := ⟨w.heap.size, n, none⟩) (Nat.le_refl _) _, by simp [World.setCell]; exact HI.out.sz⟩
      clear hrow
      go_wp2
      go_roundw
      case rel => exact ⟨n + 1, by go_num, HN.out⟩
      case measure => simp [intOf]; omega
    · have e : n = nb := by omega
      subst e
      clear hrow
      go_wp2
      go_ret
      exact ⟨rfl, HI.out⟩

/-- what New leaves -/
def NewPost (w : World) (nb sz : Nat) (f : Nat → List Nat) (e : Ending) (w' : World) : Prop :=
  ∃ L : Lay, e = .returned (.tuple #[PD L, .int .i64 0]) ∧ Rep w' L (St.fresh nb sz f) ∧ Below w.heap.size w w' ∧ ∀ b, L.U b → w.heap.size ≤ b

theorem New_bad (w : World) (n s : Int) (h : goodGeo n s = false) :
    Calls Tryz.prog 18 #[.int .i64 n, .int .i64 s] w fun e w' => e = .returned (.tuple #[.pointer none, .int .i64 1]) ∧ w' = w := by
  go_enter Tryz.func18, Tryz.ntmps18
  go_wp2_with (go_at_call 37; refine (geo_any _ _ _).mono ?_; rintro e w' ⟨rfl, rfl⟩; rw [h])
  go_ret2
  exact ⟨rfl, rfl⟩

theorem New_any (w : World) (nb sz : Nat) (h1 : 1 ≤ nb) (h2 : nb ≤ 8192) (hs : sz = 128 ∨ sz = 256 ∨ sz = 512 ∨ sz = 1024) :
    Calls Tryz.prog 18 #[.int .i64 (nb : Int), .int .i64 (sz : Int)] w fun e w' => NewPost w nb sz (fun _ => zeros sz) e w' := by
  have h : goodGeo nb sz = true := decide_eq_true (by omega)
  have HB := hide (blank_any w nb sz h2 hs)
  have HS := hide hs
  clear hs
  go_enter Tryz.func18, Tryz.ntmps18
  go_wp2_with (first
    | (go_at_call 37; refine (geo_any _ _ _).mono ?_; rintro e w0 ⟨rfl, e0⟩; rw [h]; cases e0)
    | (go_at_call 42; refine HB.out.mono ?_; rintro e w1 ⟨rfl, hI⟩; have HI := hide hI; clear hI)
    | (go_at_call 38; refine (made_any _ _ _ _).mono ?_; rintro e w2 ⟨rfl, rfl⟩))
  go_ret2
  have hm : MedRow w1 w.heap.size nb (fun _ => zeros sz) (fun _ => w.heap.size + 1) := ⟨by have := HI.out.row; rw [midRow_full] at this; simpa [zeros_len] using this, fun i _ => HI.out.pc⟩
  have hR := rep_made HI.out.be hm (Nat.le_refl _) (fun _ _ => by omega) h1 h2 HS.out (fun _ _ => zeros_len _)
  exact ⟨_, rfl, hR, (HI.out.be.alloc HI.out.be.size _).alloc (by simp; exact Nat.le_succ_of_le HI.out.be.size) _, fun b hb => hb.1⟩
end Go.Proofs.YtlpmpicmpklaoacGreat
