import Derived.Test.YtkjaaknlhmneoaaDFn
import Derived.Carry

namespace Go.Proofs.Ytkjaaknlhmneoaa.K
open Go.RowKit Go.Maps
set_option linter.unusedVariables false
set_option linter.unusedSimpArgs false
set_option maxRecDepth 20000

def goodGeo (n s : Int) : Bool := decide (1 ≤ n ∧ n ≤ 8192 ∧ (s = 128 ∨ s = 256 ∨ s = 512 ∨ s = 1024))
theorem and_nat : ∀ d : Nat, d < 897 → (bits BinOp.and IntKind.i64 ((128 + d : Nat) : Int) ((127 + d : Nat) : Int) == 0) = decide (128 + d = 128 ∨ 128 + d = 256 ∨ 128 + d = 512 ∨ 128 + d = 1024) := by decide +kernel
theorem and_ok {n s : Int} (h0 : 1 ≤ n ∧ n ≤ 8192) (h1 : 128 ≤ s) (h2 : s ≤ 1024) : (bits BinOp.and IntKind.i64 s (s - 1) == 0) = goodGeo n s := by
  obtain ⟨d, rfl⟩ : ∃ d : Nat, s = ((128 + d : Nat) : Int) := ⟨(s - 128).toNat, by omega⟩
  have e : (((128 + d : Nat) : Int) - 1) = ((127 + d : Nat) : Int) := by omega
  rw [e, and_nat d (by omega)]
  unfold goodGeo
  apply decide_eq_decide.2
  omega

theorem geo_any (w : World) (n s : Int) :
    Calls Try.prog 38 #[.int .i64 n, .int .i64 s] w fun e w' => e = .returned (.bool (goodGeo n s)) ∧ w' = w := by
  by_cases h1 : n < 1
  · have e : goodGeo n s = false := decide_eq_false (by omega)
    rw [e]
    go_enter Try.func38, Try.ntmps38
    go_wp2
    go_ret
    exact ⟨rfl, rfl⟩
  · by_cases h2 : 8192 < n
    · have e : goodGeo n s = false := decide_eq_false (by omega)
      rw [e]
      go_enter Try.func38, Try.ntmps38
      go_wp2
      go_ret
      exact ⟨rfl, rfl⟩
    · by_cases h3 : s < 128
      · have e : goodGeo n s = false := decide_eq_false (by omega)
        rw [e]
        go_enter Try.func38, Try.ntmps38
        go_wp2
        go_ret
        exact ⟨rfl, rfl⟩
      · by_cases h4 : 1024 < s
        · have e : goodGeo n s = false := decide_eq_false (by omega)
          rw [e]
          go_enter Try.func38, Try.ntmps38
          go_wp2
          go_ret
          exact ⟨rfl, rfl⟩
        · have ha := and_ok (n := n) (s := s) (by omega) (by omega) (by omega)
          rw [← ha]
          have HA := hide ha
          clear ha
          go_enter Try.func38, Try.ntmps38
          go_wp2
          go_ret
          exact ⟨rfl, rfl⟩

/-- a medium whose blocks hold f -/
def MedRow (w : World) (mb nb : Nat) (f : Nat → List Nat) (g : Nat → Nat) : Prop :=
  w.heap[mb]? = some (.cells ((List.range nb).map fun i => sl (g i) (f i).length).toArray 45 (0, 0)) ∧ ∀ i, i < nb → PieceAt w (g i) (f i)

def St.fresh (nb sz : Nat) (f : Nat → List Nat) : St := { nb := nb, sz := sz, med := fun i => some (f i), cache := fun _ => [], off := false, fuse := -1, rd := 0, wr := 0, th := 0, fl := 0 }

theorem made_any (w : World) (nb sz mb : Nat) :
    Calls Try.prog 39 #[.int .i64 (nb : Int), .int .i64 (sz : Int), .slice (some ⟨mb, 0, none⟩) nb nb] w fun e w' => e = .returned (.pointer (some ⟨w.heap.size + 1, 0, none⟩)) ∧ w' = (w.alloc (.map #[] 0)).alloc (.cells #[.int .i64 (nb : Int), .int .i64 (sz : Int), .slice (some ⟨mb, 0, none⟩) nb nb, .map (some w.heap.size), .bool false, .int .i64 (-1), .int .i64 0, .int .i64 0, .int .i64 0, .int .i64 0] 73) := by
  have hmm := fun W : World => run_makeMap (P := Try.prog) 69 W
  go_enter Try.func39, Try.ntmps39
  go_wp2
  go_ret
  exact ⟨rfl, rfl⟩

theorem rep_made {w0 w : World} {nb sz mb : Nat} {f : Nat → List Nat} {g : Nat → Nat} (hb : Below w0.heap.size w0 w) (hm : MedRow w mb nb f g) (hmb : w0.heap.size ≤ mb) (hg : ∀ i, i < nb → w0.heap.size ≤ g i) (h1 : 1 ≤ nb) (h2 : nb ≤ 8192) (hs : sz = 128 ∨ sz = 256 ∨ sz = 512 ∨ sz = 1024) (hl : ∀ i, i < nb → (f i).length = sz) :
    Rep ((w.alloc (.map #[] 0)).alloc (.cells #[.int .i64 (nb : Int), .int .i64 (sz : Int), .slice (some ⟨mb, 0, none⟩) nb nb, .map (some w.heap.size), .bool false, .int .i64 (-1), .int .i64 0, .int .i64 0, .int .i64 0, .int .i64 0] 73)) ⟨w.heap.size + 1, mb, w.heap.size, fun b => w0.heap.size ≤ b ∧ b < w.heap.size + 2⟩ (St.fresh nb sz f) := by
  have k1 : ∀ b, b < w.heap.size → ((w.alloc (.map #[] 0)).alloc (.cells #[.int .i64 (nb : Int), .int .i64 (sz : Int), .slice (some ⟨mb, 0, none⟩) nb nb, .map (some w.heap.size), .bool false, .int .i64 (-1), .int .i64 0, .int .i64 0, .int .i64 0, .int .i64 0] 73)).heap[b]? = w.heap[b]? := fun b hb' => by
    rw [Below.heap_alloc _ _ b (by simp; omega), Below.heap_alloc _ _ b hb']
  have hml : mb < w.heap.size := (Array.getElem?_eq_some_iff.1 hm.1).1
  have hsz := hb.size
  refine ⟨fun _ => nilS, .map [], ?_, ?_⟩
  · exact ((World.ownsMap_made w Try.prog 3 Rv).mono (Nat.zero_le _)).alloc _
  · refine ⟨h1, h2, hs, by simp [St.fresh], Go.heap_alloc_new (w.alloc (.map #[] 0)) _ |> fun h => by simpa [diskRow, St.fresh] using h, ⟨_, (k1 mb hml).trans hm.1, by simp [St.fresh], fun i hi => ?_⟩, fun i l hi hl' => ?_, fun i l _ hl' => ?_, fun kl hkl => ?_, fun k hk => ?_, fun k hk => rfl, fun k hk => ?_, fun k j _ _ _ gg h => ?_, fun k _ => by simp [nilS, Value.ownBlock], ?_, ?_, ?_, fun b hb' => ?_⟩
    · have hi' : i < nb := hi
      refine ⟨sl (g i) (f i).length, by simp [hi'], ?_⟩
      have hp := hm.2 i hi'
      exact ⟨g i, rfl, hp.kept (k1 _ hp.lt), hg i hi', by have := hp.lt; show g i < w.heap.size + 2; omega⟩
    · simp only [St.fresh, Option.some.injEq] at hl'
      rw [← hl']; exact hl i hi
    · simp [St.fresh] at hl'
    · simp [has] at hkl
    · simp [has, St.fresh]
    · exact ⟨[], rfl, World.ownsRow_nil _ 0 45 1, by simp [St.fresh], by simp [nilS, Value.ownBlock], fun _ => rfl⟩
    · simp [nilS, Value.ownBlock] at h
    · exact ⟨by show w0.heap.size ≤ w.heap.size + 1; omega, by show w.heap.size + 1 < w.heap.size + 2; omega⟩
    · exact ⟨hmb, by show mb < w.heap.size + 2; omega⟩
    · exact ⟨hsz, by show w.heap.size < w.heap.size + 2; omega⟩
    · simp only [World.size_alloc]
      have : b < w.heap.size + 2 := hb'.2
      omega
end Go.Proofs.Ytkjaaknlhmneoaa.K

namespace Go.Proofs.Ytkjaaknlhmneoaa.K
open Go.RowKit Go.Maps
set_option linter.unusedVariables false
set_option linter.unusedSimpArgs false
set_option maxRecDepth 20000

/-- a medium that is being laid: the first i blocks are -/
def midRow (nb i : Nat) (f : Nat → Value) : Array Value := ((List.range nb).map fun j => if j < i then f j else nilS).toArray
theorem midRow_size (nb i : Nat) (f : Nat → Value) : (midRow nb i f).size = nb := by simp [midRow]
theorem midRow_get {nb i j : Nat} (f : Nat → Value) (hj : j < nb) : (midRow nb i f)[j]? = some (if j < i then f j else nilS) := by simp [midRow, hj]
theorem midRow_set {nb i : Nat} (f : Nat → Value) (hi : i < nb) : (midRow nb i f).setIfInBounds i (f i) = midRow nb (i + 1) f := by
  apply Array.ext_getElem?
  intro j
  by_cases hj : j < nb
  · by_cases e : j = i
    · subst e
      rw [Array.getElem?_setIfInBounds_self_of_lt (by rw [midRow_size]; exact hi), midRow_get f hj, if_pos (by omega)]
    · rw [Array.getElem?_setIfInBounds_ne (by omega), midRow_get f hj, midRow_get f hj]
      by_cases h : j < i
      · rw [if_pos h, if_pos (by omega)]
      · rw [if_neg h, if_neg (by omega)]
  · rw [Array.getElem?_eq_none (by simp [midRow]; omega), Array.getElem?_eq_none (by simp [midRow]; omega)]
theorem midRow_full (nb : Nat) (f : Nat → Value) : midRow nb nb f = ((List.range nb).map f).toArray := by
  unfold midRow
  congr 1
  apply List.map_congr_left
  intro j hj
  rw [if_pos (List.mem_range.1 hj)]
theorem made_nils (n : Nat) (f : Nat → Value) : madeCells (Value.slice none 0 0).cells (n * 1) = midRow n 0 f := by
  apply Array.ext_getElem?
  intro i
  by_cases h : i < n
  · rw [midRow_get f h, if_neg (by omega)]
    simp [madeCells, Value.cells, h, Nat.mod_one, nilS]
  · rw [Array.getElem?_eq_none (by rw [size_madeCells]; omega), Array.getElem?_eq_none (by rw [midRow_size]; omega)]

/-- 'make(medium, n)' -/
theorem wpList_nils {ops : Array Oper} {rest : List Oper} {o : Oper} {a : Act} {w : World} {Q : Exit → Act → World → Prop} (hgd : o.guard = none) (l c : Operand) (ho : o.op = Op.makeSlice 59 l c)
    (C : Int) (n : Nat) (hl : a.eval l = .int .i64 C) (hc : a.eval c = .int .i64 C) (hC : C = (n : Int)) (hn : n ≤ 8192) (f : Nat → Value)
    (h : wpList Try.prog ops Q rest (a.put o.dst (.slice (some ⟨w.heap.size, 0, none⟩) n n)) (w.alloc (.cells (midRow n 0 f) 45))) : wpList Try.prog ops Q (o :: rest) a w := by
  obtain ⟨i0, hi, hz0, hz1, hz2⟩ := info_parts info_bytes
  subst hC
  refine wpList_plain hgd fun K' hK' => ?_
  have hr := run_make (P := Try.prog) w 59 45 i0 (.slice none 0 0) Try.underlying59 hi hz0 .i64 .i64 (n : Int) (n : Int) (by omega) (Int.le_refl _) (by rw [hz2]; omega) (by omega)
  simp only [Int.toNat_natCast] at hr
  rw [hz1, made_nils n f] at hr
  unfold Oper.wp
  simp only [execOp, ho, hl, hc, hr, Sem.run_bind, Result.andThen_ok, Sem.run_pure]
  exact hK' _ _ h

structure BInv (w wr : World) (nb sz i : Nat) : Prop where
  hi : i ≤ nb
  row : wr.heap[w.heap.size]? = some (.cells (midRow nb i fun _ => sl (w.heap.size + 1) sz) 45 (0, 0))
  pc : PieceAt wr (w.heap.size + 1) (zeros sz)
  be : Below w.heap.size w wr
  sz : wr.heap.size = w.heap.size + 2

theorem blank_any (w : World) (nb sz : Nat) (hnb : nb ≤ 8192) (hsz : sz = 128 ∨ sz = 256 ∨ sz = 512 ∨ sz = 1024) :
    Calls Try.prog 40 #[.int .i64 (nb : Int), .int .i64 (sz : Int)] w fun e w' => e = .returned (.slice (some ⟨w.heap.size, 0, none⟩) nb nb) ∧ BInv w w' nb sz nb := by
  have hszn : sz ≤ 281474976710656 := by omega
  obtain ⟨Z, hZ⟩ : ∃ Z, ((zeros sz).map byteV).toArray = Z := ⟨_, rfl⟩
  have START : Hid (BInv w ((w.alloc (.cells (midRow nb 0 fun _ => sl (w.heap.size + 1) sz) 45)).alloc (.cells Z 5)) nb sz 0) := hide
    ⟨Nat.zero_le _, by rw [Below.heap_alloc _ _ _ (by simp)]; exact Go.heap_alloc_new w _, ⟨by rw [hZ]; have := Go.heap_alloc_new (w.alloc (.cells (midRow nb 0 fun _ => sl (w.heap.size + 1) sz) 45)) (.cells Z 5); simpa using this, zeros_lt _, by rw [zeros_len]; unfold maxLen; omega, by rw [zeros_len]; omega⟩, ((Below.refl _ _).alloc (Nat.le_refl _) _).alloc (by simp) _, by simp⟩
  have HZ := hide hZ
  clear hZ
  go_enter Try.func40, Try.ntmps40
  go_wp2_with (first
    | (at_make; refine wpList_nils rfl _ _ rfl _ nb rfl rfl rfl hnb (fun _ => sl (w.heap.size + 1) sz) ?_)
    | (at_make; refine wpList_zeros rfl _ _ rfl _ sz rfl rfl rfl hszn Z HZ ?_))
  go_loopw [14] (fun i wr => ∃ n : Nat, i = .int .i64 (n : Int) ∧ BInv w wr nb sz n) (fun i _ => nb - (intOf i).toNat)
  case atStart => exact ⟨0, rfl, START.out⟩
  case round =>
    clear START
    obtain ⟨n, rfl, hI⟩ := hrel
    have hn := hI.hi
    have HI := hide hI
    have hrow := hI.row
    clear hI
    by_cases hlt : n < nb
    · have hc : wr.cell? ⟨w.heap.size, n, none⟩ = some nilS := by rw [cell_of_row _ _ _ _ _ _ hrow, midRow_get _ hlt, if_neg (by omega)]
      have hf : wr.frozen? ⟨w.heap.size, n, none⟩ = false := frozen_of_row _ _ _ _ 45 hrow
      have HN : Hid (BInv w (wr.setCell ⟨w.heap.size, n, none⟩ (sl (w.heap.size + 1) sz)) nb sz (n + 1)) := hide
        ⟨by omega, by rw [← midRow_set _ hlt]; exact Go.heap_setCell_same wr w.heap.size n _ 45 _ HI.out.row, HI.out.pc.kept (Go.heap_setCell_other _ _ _ _ (by simp)), HI.out.be.setCell (p := ⟨w.heap.size, n, none⟩) (Nat.le_refl _) _, by simp [World.setCell]; exact HI.out.sz⟩
      clear hrow
      go_wp2
      go_roundw
      case rel => exact ⟨n + 1, by go_num, HN.out⟩
      case measure => simp [intOf]; omega
    · have e : n = nb := by omega
      subst e
      clear hrow
      go_wp2
      go_ret
      exact ⟨rfl, HI.out⟩

/-- what New leaves -/
def NewPost (w : World) (nb sz : Nat) (f : Nat → List Nat) (e : Ending) (w' : World) : Prop :=
  ∃ L : Lay, e = .returned (.tuple #[PD L, .int .i64 0]) ∧ Rep w' L (St.fresh nb sz f) ∧ Below w.heap.size w w' ∧ ∀ b, L.U b → w.heap.size ≤ b

theorem New_bad (w : World) (n s : Int) (h : goodGeo n s = false) :
    Calls Try.prog 14 #[.int .i64 n, .int .i64 s] w fun e w' => e = .returned (.tuple #[.pointer none, .int .i64 1]) ∧ w' = w := by
  go_enter Try.func14, Try.ntmps14
  go_wp2_with (go_at_call 38; refine (geo_any _ _ _).mono ?_; rintro e w' ⟨rfl, rfl⟩; rw [h])
  go_ret2
  exact ⟨rfl, rfl⟩

theorem New_any (w : World) (nb sz : Nat) (h1 : 1 ≤ nb) (h2 : nb ≤ 8192) (hs : sz = 128 ∨ sz = 256 ∨ sz = 512 ∨ sz = 1024) :
    Calls Try.prog 14 #[.int .i64 (nb : Int), .int .i64 (sz : Int)] w fun e w' => NewPost w nb sz (fun _ => zeros sz) e w' := by
  have h : goodGeo nb sz = true := decide_eq_true (by omega)
  have HB := hide (blank_any w nb sz h2 hs)
  have HS := hide hs
  clear hs
  go_enter Try.func14, Try.ntmps14
  go_wp2_with (first
    | (go_at_call 38; refine (geo_any _ _ _).mono ?_; rintro e w0 ⟨rfl, e0⟩; rw [h]; cases e0)
    | (go_at_call 40; refine HB.out.mono ?_; rintro e w1 ⟨rfl, hI⟩; have HI := hide hI; clear hI)
    | (go_at_call 39; refine (made_any _ _ _ _).mono ?_; rintro e w2 ⟨rfl, rfl⟩))
  go_ret2
  have hm : MedRow w1 w.heap.size nb (fun _ => zeros sz) (fun _ => w.heap.size + 1) := ⟨by have := HI.out.row; rw [midRow_full] at this; simpa [zeros_len] using this, fun i _ => HI.out.pc⟩
  have hR := rep_made HI.out.be hm (Nat.le_refl _) (fun _ _ => by omega) h1 h2 HS.out (fun _ _ => zeros_len _)
  exact ⟨_, rfl, hR, (HI.out.be.alloc HI.out.be.size _).alloc (by simp; exact Nat.le_succ_of_le HI.out.be.size) _, fun b hb => hb.1⟩
end Go.Proofs.Ytkjaaknlhmneoaa.K
