import Derived.Test.YtbkcenpohcjgnaaHex
import Derived.Test.YtbkcenpohcjgnaaArr
namespace Go.Proofs.Ytbkcenpohcjgnaa
open Go.RowKit
open Num
set_option linter.unusedVariables false

/-- the bytes of a string -/
def strL (s : ByteArray) : List Nat := s.data.toList.map UInt8.toNat
theorem strL_len (s : ByteArray) : (strL s).length = s.size := by simp [strL]
theorem strL_at (s : ByteArray) (k : Nat) (h : k < s.size) : (strL s).getD k 0 = (s[k]'h).toNat := by
  have h' : k < s.data.size := h
  simp only [strL, List.getD]
  rw [List.getElem?_map, List.getElem?_eq_getElem (by simpa using h')]
  rfl
theorem strL_lt (s : ByteArray) : ∀ b ∈ strL s, b < 256 := by
  intro b hb
  obtain ⟨c, _, rfl⟩ := List.mem_map.1 hb
  exact c.toNat_lt

def zero32 : Array Value := ((List.replicate 32 0).map byteV).toArray
theorem zero32_size : zero32.size = 32 := by simp [zero32]
theorem oneCell_map (l : List Nat) : (l.map byteV).toArray.all (·.oneCell') = true := all_oneCell_toArray (byteV_oneCell l)
theorem Try.zero22 : (Try.prog.info? 22).map (·.zero) = some (some (.agg zero32)) := by kernel_rfl
theorem Try.size22 : (Try.prog.info? 22).map (·.size) = some 32 := by kernel_rfl
theorem Try.built22 : Try.prog.built 22 [] = some zero32 := by kernel_rfl

theorem size_of_take {ys : Array Value} {l : List Nat} (h : ys.toList = l.map byteV) : ys = (l.map byteV).toArray := by
  rw [← h]

set_option maxHeartbeats 400000 in
theorem unhex_len (s : ByteArray) (hs : ¬ s.size = 64) (hm : s.size ≤ maxLen) (w : World) :
    Calls Try.prog 7 #[.string s] w fun e w' => e = .returned (.tuple #[.agg zero32, .int .i64 11]) ∧ Below w.heap.size w w' := by
  unfold maxLen at hm
  have hne : ((s.size : Int) != 64) = true := by rw [bne_iff_ne]; omega
  go_enter Try.func7, Try.ntmps7
  go_wp2_with (first
    | refine wpList_alloc_as rfl 22 rfl (.agg zero32) zero32 Try.zero22 rfl ?_
    | refine wpList_build_zero rfl 22 rfl zero32 Try.built22 ?_
    | (refine wpList_store_row rfl 22 _ _ rfl w.heap.size zero32 rfl rfl 22 zero32 (heap_alloc_new w _) Try.size22 rfl (oneCell_map _) ?_; rw [World.setRow_alloc_new]))
  refine bodyPost_ret (v := .tuple #[.agg zero32, .int .i64 11]) ?_ rfl ⟨rfl, below_alloc _ _⟩
  rw [results_cell_tmp rfl]
  simp [run_loadVar_new (P := Try.prog) w 22 zero32 32 5 Try.underlying22 Try.size22, asAddr, Result.andThen]

theorem take_succ_set {ys : Array Value} {k : Nat} {A : List Value} (hs : k < ys.size) (h : ys.toList.take k = A) (u : Value) :
    (ys.setIfInBounds k u).toList.take (k + 1) = A ++ [u] := by
  subst h
  have hs' : k < ys.toList.length := by simpa using hs
  simp only [Array.toList_setIfInBounds]
  rw [List.take_succ_eq_append_getElem (by simp; omega)]
  simp [List.take_set_of_le]

theorem nibbles {x y : Nat} (hx : x < 16) (hy : y < 16) : bits BinOp.or IntKind.u8 ((x : Int) * 16) (y : Int) = ((16 * x + y : Nat) : Int) := by
  have h := u8_or_nat (16 * x) y (by omega) (by omega)
  rw [nat_join 4 (16 * x) y (by omega) (by omega)] at h
  rw [← h]; congr 1; omega

theorem heap2_fst (w : World) (A B : Obj) : ((w.alloc A).alloc B).heap[w.heap.size]? = some A := heap_alloc2_old w A B

theorem res_two (w : World) (A B : Array Value) (hA : A.size = 32) : (loadVar 22 ⟨w.heap.size, 0, none⟩).run Try.prog ((w.alloc (.cells A 22)).alloc (.cells B 22)) = .ok (.agg A) ((w.alloc (.cells A 22)).alloc (.cells B 22)) :=
  run_loadVar_row _ _ 22 22 A (0, 0) _ (heap2_fst w _ _) Try.underlying22 rfl (by rw [hA]; exact Try.size22)

theorem ret_unhex {l l2 : List Nat} {e e2 : Int} (h : l = l2) (h2 : e = e2) :
    Ending.returned (.tuple #[.agg (l.map byteV).toArray, .int .i64 e]) = .returned (.tuple #[.agg (l2.map byteV).toArray, .int .i64 e2]) := by rw [h, h2]

set_option maxHeartbeats 1000000 in
theorem unhex_64 (s : ByteArray) (hs : s.size = 64) (w : World) :
    Calls Try.prog 7 #[.string s] w fun e w' => e = .returned (.tuple #[.agg ((unhexOut (strL s)).map byteV).toArray, .int .i64 (unhexErr (strL s))]) ∧ Below w.heap.size w w' := by
  have HS := hide hs
  have HL : Hid ((strL s).length = 64) := by show _ = _; rw [strL_len, hs]
  go_enter Try.func7, Try.ntmps7
  go_wp2_with (first
    | refine wpList_alloc_as rfl 22 rfl (.agg zero32) zero32 Try.zero22 rfl ?_)
  go_loopw [14] (fun i wr => ∃ k : Nat, k ≤ 32 ∧ i = .int .i64 k ∧ okTo (strL s) k = true ∧ ∃ ys : Array Value, ys.size = 32 ∧ ys.toList.take k = (outL (strL s) k).map byteV ∧ wr = ((w.alloc (.cells zero32 22)).alloc (.cells ys 22))) (fun i _ => 32 - (intOf i).toNat)
  case atStart => exact ⟨0, Nat.zero_le _, rfl, rfl, _, rfl, rfl, rfl⟩
  case round =>
    obtain ⟨k, hk, rfl, hok, ys, hy1, hy2, rfl⟩ := hrel
    have HOK := hide hok
    have HY1 := hide hy1
    have HY2 := hide hy2
    clear hok
    by_cases hlt : k < 32
    · obtain ⟨v0, hv0⟩ : ∃ v, ys[k]? = some v := ⟨ys[k]'(by omega), by simp⟩
      clear hy1 hy2
      have hb1 : 0 ≤ 2 * (k : Int) ∧ 2 * (k : Int) < 64 := by omega
      have hb2 : 0 ≤ 2 * (k : Int) + 1 ∧ 2 * (k : Int) + 1 < 64 := by omega
      have e1 := strL_at s (2 * k) (by omega)
      have e2 := strL_at s (2 * k + 1) (by omega)
      have l1 : (s[2 * k]'(by omega)).toNat < 256 := UInt8.toNat_lt _
      have l2 : (s[2 * k + 1]'(by omega)).toNat < 256 := UInt8.toNat_lt _
      have HN := hide (okTo_succ (strL s) k)
      have HO := hide (outL_succ (strL s) k)
      rw [e1, e2] at HN HO
      clear e1 e2
      generalize hc1 : (s[2 * k]'(by omega)).toNat = c1 at *
      generalize hc2 : (s[2 * k + 1]'(by omega)).toNat = c2 at *
      have bad : Hid (okTo (strL s) (k + 1) = false → (Ending.returned (.tuple #[.agg zero32, .int .i64 11]) = .returned (.tuple #[.agg ((unhexOut (strL s)).map byteV).toArray, .int .i64 (unhexErr (strL s))]))) := by
        intro h
        have := unhex_bad hlt h
        rw [this.1, this.2]; rfl
      by_cases ok1 : hexOk c1 = true
      · by_cases ok2 : hexOk c2 = true
        · have hv1 := hexV_lt c1
          have hv2 := hexV_lt c2
          have hn := nibbles hv1 hv2
          have HR : Hid (okTo (strL s) (k + 1) = true) := by show _ = _; rw [HN.out, HOK.out, ok1, ok2]; rfl
          go_wp2_with fail
          refine (hexValue_any c1 l1 _).mono ?_
          rintro e w' ⟨rfl, rfl⟩
          go_wp2_with fail
          refine (hexValue_any c2 l2 _).mono ?_
          rintro e w' ⟨rfl, rfl⟩
          go_wp2_with fail
          go_roundw
          case rel => exact ⟨k + 1, by omega, by go_num, HR.out, ys.setIfInBounds k (byteV (16 * hexV c1 + hexV c2)), by rw [Array.size_setIfInBounds]; exact HY1.out, by rw [take_succ_set (by rw [HY1.out]; omega) HY2.out, HO.out, List.map_append]; rfl, by rw [show byteV (16 * hexV c1 + hexV c2) = .int .u8 (16 * (hexV c1 : Int) + (hexV c2 : Int)) from by simp [byteV]]⟩
          case measure => simp [intOf]; omega
        · rw [Bool.not_eq_true] at ok2
          have HE := bad.out (by rw [HN.out, ok2]; simp)
          have HE' := hide HE
          clear HE
          go_wp2_with fail
          refine (hexValue_any c1 l1 _).mono ?_
          rintro e w' ⟨rfl, rfl⟩
          go_wp2_with fail
          refine (hexValue_any c2 l2 _).mono ?_
          rintro e w' ⟨rfl, rfl⟩
          go_wp2_with (first
            | refine wpList_build_zero rfl 22 rfl zero32 Try.built22 ?_
            | (refine wpList_store_row rfl 22 _ _ rfl w.heap.size zero32 rfl rfl 22 zero32 (heap2_fst w _ _) Try.size22 rfl (oneCell_map _) ?_; rw [setRow_alloc_old _ _ _ _ (by simp), World.setRow_alloc_new]))
          refine bodyPost_ret (v := .tuple #[.agg zero32, .int .i64 11]) ?_ rfl ⟨HE'.out, below_alloc2 _ _ _⟩
          rw [results_cell_tmp rfl]
          simp [res_two w zero32 ys rfl, asAddr, Result.andThen]
      · rw [Bool.not_eq_true] at ok1
        have HE := bad.out (by rw [HN.out, ok1]; simp)
        have HE' := hide HE
        clear HE
        go_wp2_with fail
        refine (hexValue_any c1 l1 _).mono ?_
        rintro e w' ⟨rfl, rfl⟩
        go_wp2_with fail
        refine (hexValue_any c2 l2 _).mono ?_
        rintro e w' ⟨rfl, rfl⟩
        go_wp2_with (first
          | refine wpList_build_zero rfl 22 rfl zero32 Try.built22 ?_
          | (refine wpList_store_row rfl 22 _ _ rfl w.heap.size zero32 rfl rfl 22 zero32 (heap2_fst w _ _) Try.size22 rfl (oneCell_map _) ?_; rw [setRow_alloc_old _ _ _ _ (by simp), World.setRow_alloc_new]))
        refine bodyPost_ret (v := .tuple #[.agg zero32, .int .i64 11]) ?_ rfl ⟨HE'.out, below_alloc2 _ _ _⟩
        rw [results_cell_tmp rfl]
        simp [res_two w zero32 ys rfl, asAddr, Result.andThen]
    · have hk32 : k = 32 := by omega
      subst hk32
      have hys : ys = ((outL (strL s) 32).map byteV).toArray := by
        rw [List.take_of_length_le (by simp [hy1])] at hy2
        rw [← hy2]
      have hg := unhex_good HL.out HOK.out
      have HE : Hid (Ending.returned (.tuple #[.agg ys, .int .i64 0]) = .returned (.tuple #[.agg ((unhexOut (strL s)).map byteV).toArray, .int .i64 (unhexErr (strL s))])) := by
        show _ = _; rw [hg.1, hg.2, hys]
      have hone : ys.all (·.oneCell') = true := by rw [hys]; exact oneCell_map _
      have hsz : (Try.prog.info? 22).map (·.size) = some ys.size := by rw [hy1]; exact Try.size22
      have hzs : zero32.size = ys.size := by rw [hy1]; rfl
      have hys' := hide hy1
      clear hy1 hy2 hys hg
      go_wp2_with (first
        | refine wpList_load_row rfl 22 _ rfl (w.heap.size + 1) rfl 22 ys (0, 0) _ (heap_alloc2_new w _ _) Try.underlying22 rfl hsz ?_
        | (refine wpList_store_row rfl 22 _ _ rfl w.heap.size ys rfl rfl 22 zero32 (heap2_fst w _ _) hsz hzs hone ?_; rw [setRow_alloc_old _ _ _ _ (by simp), World.setRow_alloc_new]))
      refine bodyPost_ret (v := .tuple #[.agg ys, .int .i64 0]) ?_ rfl ⟨HE.out, below_alloc2 _ _ _⟩
      rw [results_cell_tmp rfl]
      simp [res_two w ys ys hys'.out, asAddr, Result.andThen]

theorem unhex_any (s : ByteArray) (hm : s.size ≤ maxLen) (w : World) :
    Calls Try.prog 7 #[.string s] w fun e w' => e = .returned (.tuple #[.agg ((unhexOut (strL s)).map byteV).toArray, .int .i64 (unhexErr (strL s))]) ∧ Below w.heap.size w w' := by
  by_cases hs : s.size = 64
  · exact unhex_64 s hs w
  · have h := unhex_short (cs := strL s) (by rw [strL_len]; exact hs)
    refine (unhex_len s hs hm w).mono fun e w' ⟨he, hb⟩ => ⟨?_, hb⟩
    rw [he, h.1, h.2]; rfl
end Go.Proofs.Ytbkcenpohcjgnaa
