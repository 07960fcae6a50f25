import Derived.Test.YtlpmpicmpklaoabDLaw3
namespace Go.Proofs.Ytlpmpicmpklaoab
open Go.RowKit Go.Maps
set_option linter.unusedVariables false
set_option linter.unusedSimpArgs false
set_option maxRecDepth 20000

/-- a write that may be made -/
structure PutV where
  block : Int
  tv : Value
  tl : List Nat
  past : Bool
def PutV.val (p : PutV) : Value := .agg #[.int .i64 p.block, p.tv, .bool p.past]
/-- its block -/
def PutV.at_ (p : PutV) (nb : Nat) : Nat := (p.block % (nb : Int)).toNat
/-- its bytes -/
def PutV.bs (p : PutV) (sz : Nat) : List Nat := p.tl.take sz ++ zeros (sz - p.tl.length)

theorem emod_of_tmod (b : Int) {n : Int} (hn : 0 < n) : b % n = if Int.tmod b n < 0 then Int.tmod b n + n else Int.tmod b n := by
  have h1 := Int.tmod_lt_of_pos b hn
  have h2 := Int.lt_tmod_of_pos b hn
  have h3 : b = n * Int.tdiv b n + Int.tmod b n := (Int.mul_tdiv_add_tmod b n).symm
  have h4 : b % n = Int.tmod b n % n := by
    conv => lhs; rw [h3]
    rw [Int.add_comm, Int.add_mul_emod_self_left]
  rw [h4]
  split
  · have h5 : (Int.tmod b n + n) % n = Int.tmod b n % n := by simp
    rw [← h5]
    exact Int.emod_eq_of_lt (by omega) (by omega)
  · exact Int.emod_eq_of_lt (by omega) (by omega)

theorem PutV.at_lt (p : PutV) {nb : Nat} (h : 1 ≤ nb) : p.at_ nb < nb := by
  unfold PutV.at_
  have h1 := Int.emod_nonneg p.block (show (nb : Int) ≠ 0 by omega)
  have h2 := Int.emod_lt_of_pos p.block (show (0 : Int) < nb by omega)
  omega

theorem block_any (w : World) (p : PutV) (nb : Nat) (h1 : 1 ≤ nb) (h2 : nb ≤ 8192) (hp : i64ok p.block) :
    Calls Try.prog 18 #[p.val, .int .i64 (nb : Int)] w fun e w' => e = .returned (.int .i64 (p.at_ nb : Int)) ∧ Below w.heap.size w w' := by
  have hk : ((p.at_ nb : Nat) : Int) = p.block % (nb : Int) := by
    unfold PutV.at_
    have := Int.emod_nonneg p.block (show (nb : Int) ≠ 0 by omega)
    omega
  rw [hk, emod_of_tmod p.block (show (0 : Int) < nb by omega)]
  obtain ⟨i1, i2⟩ := hp
  have hr1 := Int.tmod_lt_of_pos p.block (show (0 : Int) < nb by omega)
  have hr2 := Int.lt_tmod_of_pos p.block (show (0 : Int) < nb by omega)
  have hn0 : ¬ (nb : Int) = 0 := by omega
  unfold PutV.val
  clear hk
  generalize p.tv = tv at *
  generalize p.past = ps at *
  obtain ⟨r, hr⟩ : ∃ r, Int.tmod p.block (nb : Int) = r := ⟨_, rfl⟩
  rw [hr] at hr1 hr2 ⊢
  generalize p.block = b at *
  by_cases hneg : r < 0
  · rw [if_pos hneg]
    go_enter Try.func18, Try.ntmps18
    go_wp2
    go_ret
    exact ⟨rfl, (Below.refl _ _).alloc (Nat.le_refl _) _⟩
  · rw [if_neg hneg]
    go_enter Try.func18, Try.ntmps18
    go_wp2
    go_ret
    exact ⟨rfl, (Below.refl _ _).alloc (Nat.le_refl _) _⟩

structure PInv (w wr : World) (p : PutV) (sz i : Nat) : Prop where
  hi : i ≤ sz ∧ i ≤ p.tl.length
  box : wr.heap[w.heap.size]? = some (.cells #[.int .i64 p.block, p.tv, .bool p.past] 30 (0, 0))
  row : wr.heap[w.heap.size + 1]? = some (.cells ((p.tl.take i ++ zeros (sz - i)).map byteV).toArray 5 (0, 0))
  be : Below w.heap.size w wr

theorem bytesStep {t : List Nat} {sz i : Nat} (hi : i < sz) (ht : i < t.length) : (((t.take i ++ zeros (sz - i)).map byteV).toArray).setIfInBounds i (.int .u8 (t.getD i 0 : Nat)) = ((t.take (i + 1) ++ zeros (sz - (i + 1))).map byteV).toArray := by
  have e1 : sz - i = (sz - (i + 1)) + 1 := by omega
  have e2 : zeros (sz - i) = 0 :: zeros (sz - (i + 1)) := by rw [e1]; rfl
  have e3 : t.take (i + 1) = t.take i ++ [t.getD i 0] := by rw [List.take_add_one, getD_get 0 ht]; rfl
  rw [e2, e3]
  simp only [List.map_append, List.map_cons, List.map_nil, List.setIfInBounds_toArray]
  congr 1
  have hl : ((t.take i).map byteV).length = i := by simp; omega
  rw [List.set_append_right _ _ (by omega), hl, Nat.sub_self, List.set_cons_zero, List.append_assoc]
  rfl

set_option maxHeartbeats 1000000 in
theorem bytes_any (w : World) (p : PutV) (sz : Nat) (hsz : sz = 128 ∨ sz = 256 ∨ sz = 512 ∨ sz = 1024) (hp : BSl w p.tv p.tl) :
    Calls Try.prog 22 #[p.val, .int .i64 (sz : Int)] w fun e w' => ∃ g, e = .returned (sl g sz) ∧ w.heap.size ≤ g ∧ PieceAt w' g (p.bs sz) ∧ Below w.heap.size w w' := by
  have HB := hide hp
  obtain ⟨Z, hZ⟩ : ∃ Z, ((zeros sz).map byteV).toArray = Z := ⟨_, rfl⟩
  have hszn : sz ≤ 281474976710656 := by omega
  have hB0 : Below w.heap.size w ((w.alloc (.cells #[.int .i64 p.block, p.tv, .bool p.past] 30)).alloc (.cells Z 5)) := ((Below.refl _ _).alloc (Nat.le_refl _) _).alloc (by simp) _
  have START : Hid (PInv w ((w.alloc (.cells #[.int .i64 p.block, p.tv, .bool p.past] 30)).alloc (.cells Z 5)) p sz 0) := hide
    ⟨⟨Nat.zero_le _, Nat.zero_le _⟩, by rw [Below.heap_alloc _ _ _ (by simp)]; exact Go.heap_alloc_new w _, by
      have := Go.heap_alloc_new (w.alloc (.cells #[.int .i64 p.block, p.tv, .bool p.past] 30)) (.cells Z 5)
      simp only [List.take_zero, List.nil_append, Nat.sub_zero]
      rw [hZ]
      simpa using this, hB0⟩
  have HZ := hide hZ
  clear hZ hB0
  have hform : ∃ a cap, p.tv = .slice a p.tl.length cap ∧ p.tl.length ≤ 9223372036854775807 := by
    obtain ⟨a, cap, e, x1, x2, _⟩ := hp
    unfold maxLen at x2
    exact ⟨a, cap, e, by omega⟩
  obtain ⟨a, cap, hform, htl⟩ := hform
  clear hp
  unfold PutV.val
  go_enter Try.func22, Try.ntmps22
  go_wp2_with (at_make; refine wpList_zeros rfl _ _ rfl _ sz rfl rfl rfl hszn Z HZ ?_)
  go_loopw [6] (fun i wr => ∃ n : Nat, i = .int .i64 (n : Int) ∧ PInv w wr p sz n) (fun i _ => sz - (intOf i).toNat)
  case atStart => exact ⟨0, rfl, by have := START.out; rw [hform] at this; exact this⟩
  case round =>
    clear START
    obtain ⟨n, rfl, hI⟩ := hrel
    obtain ⟨hn1, hn2⟩ := hI.hi
    have HI := hide hI
    have c1 : wr.cell? ⟨w.heap.size, 1, none⟩ = some (.slice a p.tl.length cap) := by rw [cell_of_row _ _ _ _ _ _ hI.box, ← hform]; rfl
    have hrow := hI.row
    clear hI
    have HPV := hide hform
    by_cases hlt : n < sz ∧ n < p.tl.length
    · obtain ⟨hlt1, hlt2⟩ := hlt
      have hbw := HB.out.below HI.out.be
      rw [hform] at hbw
      obtain ⟨a', cap', e', x1, x2, x3, x4, x5⟩ := hbw
      simp only [Value.slice.injEq] at e'
      obtain ⟨rfl, _, rfl⟩ := e'
      obtain ⟨tb, toff, rfl, hc⟩ := x5 (by omega)
      have hck := hc n hlt2
      have hx : p.tl.getD n 0 < 256 := x4 _ (mem_getD hlt2)
      have hcz : ∃ z, wr.cell? ⟨w.heap.size + 1, n, none⟩ = some z := by
        rw [cell_of_row _ _ _ _ _ _ hrow]
        refine ⟨_, Array.getElem?_eq_getElem (by simp [zeros]; omega)⟩
      obtain ⟨z, hcz⟩ := hcz
      have hfz : wr.frozen? ⟨w.heap.size + 1, n, none⟩ = false := frozen_of_row _ _ _ _ 5 hrow
      have HNX : Hid (PInv w (wr.setCell ⟨w.heap.size + 1, n, none⟩ (.int .u8 (p.tl.getD n 0 : Nat))) p sz (n + 1)) := hide
        ⟨⟨by omega, by omega⟩, (Go.heap_setCell_other _ _ _ _ (by simp)).trans HI.out.box, by rw [← bytesStep hlt1 hlt2]; exact Go.heap_setCell_same wr (w.heap.size + 1) n _ 5 _ HI.out.row, HI.out.be.setCell (p := ⟨w.heap.size + 1, n, none⟩) (by simp) _⟩
      clear hc x1 x2 x3 x4 x5 hrow hform
      generalize p.tl.getD n 0 = x at *
      go_wp2
      go_roundw
      case rel => exact ⟨n + 1, by go_num, HNX.out⟩
      case measure => simp [intOf]; omega
    · have HE : Hid (p.tl.take n ++ zeros (sz - n) = p.bs sz) := hide (by
        unfold PutV.bs
        by_cases h : p.tl.length ≤ sz
        · have : n = p.tl.length := by omega
          rw [this, List.take_length, List.take_of_length_le h]
        · have : n = sz := by omega
          rw [this, Nat.sub_self, show sz - p.tl.length = 0 by omega])
      have HROW := hide hrow
      have HLT := hide hlt
      clear hrow hform
      by_cases hA : n < sz
      · have hB : ¬ n < p.tl.length := fun h => HLT.out ⟨hA, h⟩
        go_wp2
        go_ret
        have hr := HROW.out
        rw [HE.out] at hr
        refine ⟨_, rfl, by omega, ⟨hr, fun b hb => ?_, ?_, ?_⟩, HI.out.be⟩
        · exact (List.mem_append.1 hb).elim (fun h => HB.out.lt256 b (List.mem_of_mem_take h)) (zeros_lt _ b)
        · simp [PutV.bs, zeros_len]; unfold maxLen; omega
        · simp [PutV.bs, zeros_len]; omega
      · go_wp2
        go_ret
        have hr := HROW.out
        rw [HE.out] at hr
        refine ⟨_, rfl, by omega, ⟨hr, fun b hb => ?_, ?_, ?_⟩, HI.out.be⟩
        · exact (List.mem_append.1 hb).elim (fun h => HB.out.lt256 b (List.mem_of_mem_take h)) (zeros_lt _ b)
        · simp [PutV.bs, zeros_len]; unfold maxLen; omega
        · simp [PutV.bs, zeros_len]; omega
end Go.Proofs.Ytlpmpicmpklaoab
