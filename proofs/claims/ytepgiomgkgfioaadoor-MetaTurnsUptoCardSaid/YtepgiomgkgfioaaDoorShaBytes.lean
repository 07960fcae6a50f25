import Derived.Test.YtepgiomgkgfioaaDoorShaMix
namespace Go.Proofs.YtepgiomgkgfioaaDoor
open Go.RowKit
open Num
set_option linter.unusedVariables false

def zero32 : Array Value := ((List.replicate 32 0).map byteV).toArray
theorem Tryd.zero32 : (Tryd.prog.info? 64).map (·.zero) = some (some (.agg zero32)) := by kernel_rfl
theorem Tryd.size32 : (Tryd.prog.info? 64).map (·.size) = some 32 := by kernel_rfl
theorem oneCell_map (l : List Nat) : (l.map byteV).toArray.all (·.oneCell') = true := all_oneCell_toArray (byteV_oneCell l)

def byteAt (l : List Nat) (i : Nat) : Nat := l.getD (i / 4) 0 / 2 ^ (24 - 8 * (i % 4)) % 256
def bytesS (st : St) (k : Nat) : List Nat := (List.range k).map (byteAt st.list)
theorem bytesS_succ (st : St) (k : Nat) : bytesS st (k + 1) = bytesS st k ++ [byteAt st.list k] := by simp [bytesS, List.range_succ]
theorem bytesS_len (st : St) (k : Nat) : (bytesS st k).length = k := by simp [bytesS]
theorem bytesS_lt (st : St) (k : Nat) : ∀ b ∈ bytesS st k, b < 256 := by
  intro b hb
  obtain ⟨i, _, rfl⟩ := List.mem_map.1 hb
  exact Nat.mod_lt _ (by decide)
theorem list_lt {st : St} (h : st.ok) : ∀ i, st.list.getD i 0 < 4294967296 := by
  intro i
  obtain ⟨h1, h2, h3, h4, h5, h6, h7, h8⟩ := h
  by_cases hi : i < st.list.length
  · have : st.list.getD i 0 ∈ st.list := mem_getD hi
    simp only [St.list, List.mem_cons, List.not_mem_nil, or_false] at this
    simp only [St.list]
    rcases this with e | e | e | e | e | e | e | e <;> rw [e] <;> assumption
  · have : st.list.getD i 0 = 0 := by simp [List.getD, List.getElem?_eq_none (Nat.le_of_not_lt hi)]
    rw [this]; decide

theorem set_eq {W : World} {ys : Array Value} {k y : Nat} {E : Int} {t : TypeId} (h : E = (y : Int)) : W.alloc (.cells (ys.setIfInBounds k (.int .u8 E)) t) = W.alloc (.cells (ys.setIfInBounds k (byteV y)) t) := by
  rw [h]; rfl
theorem heap3_snd (w : World) (A B C : Obj) : (((w.alloc A).alloc B).alloc C).heap[w.heap.size + 1]? = some B := heap_more C (heap_alloc2_new w A B)

set_option maxHeartbeats 4000000 in
theorem bytes_any (st : St) (hst : st.ok) (w : World) :
    Calls Tryd.prog 40 #[.agg (st.list.map wordV).toArray] w fun e w' => e = .returned (.agg ((bytesS st 32).map byteV).toArray) ∧ Below w.heap.size w w' := by
  have HX : Hid (∀ i, i < 8 → (st.list.map wordV).toArray[i]? = some (.int .u32 (st.list.getD i 0 : Nat))) := by
    intro i hi; rw [List.getElem?_toArray, map_wordV_getD (by simpa [St.list] using hi)]
  have HL := hide (list_lt hst)
  generalize (st.list.map wordV).toArray = xs at *
  clear hst
  go_enter Tryd.func40, Tryd.ntmps40
  go_wp2_with (refine wpList_alloc_as rfl 64 rfl (.agg zero32) zero32 Tryd.zero32 rfl ?_)
  go_loopw [5] (fun i wr => ∃ k : Nat, k ≤ 32 ∧ i = .int .i64 k ∧ ∃ ys : Array Value, ys.size = 32 ∧ ys.toList.take k = (bytesS st k).map byteV ∧ wr = ((w.alloc (.cells xs 87)).alloc (.cells zero32 64)).alloc (.cells ys 64)) (fun i _ => 32 - (intOf i).toNat)
  case atStart => exact ⟨0, Nat.zero_le _, rfl, _, rfl, rfl, rfl⟩
  case round =>
    obtain ⟨k, hk, rfl, ys, hy1, hy2, rfl⟩ := hrel
    by_cases hlt : k < 32
    · obtain ⟨v0, hv0⟩ : ∃ v, ys[k]? = some v := ⟨ys[k]'(by omega), by simp⟩
      obtain ⟨q, hq⟩ : ∃ q, k / 4 = q := ⟨_, rfl⟩
      have hx := HX.out q (by omega)
      have hxl := HL.out q
      have HS := hide (bytesS_succ st k)
      have hBA : byteAt st.list k = st.list.getD q 0 / 2 ^ (24 - 8 * (k % 4)) % 256 := by rw [byteAt, hq]
      generalize st.list.getD q 0 = x at *
      have hd : (k : Int) / 4 = (q : Int) := by omega
      have hq8 : (q : Int) < 8 := by omega
      have HY1 := hide hy1
      have HY2 := hide hy2
      clear hy1 hy2
      rcases (show k % 4 = 0 ∨ k % 4 = 1 ∨ k % 4 = 2 ∨ k % 4 = 3 by omega) with hm | hm | hm | hm
      all_goals
        rw [hm] at hBA
        obtain ⟨y, hy⟩ : ∃ y, byteAt st.list k = y := ⟨_, rfl⟩
        rw [hy] at hBA HS
        have hBA' := hide hBA
        clear hBA
        have hmi := (show (k : Int) % 4 = ((k % 4 : Nat) : Int) by omega)
        rw [hm] at hmi
        have hmi2 := hide hm
        clear hm hq hy
        go_wp2
      all_goals
        go_roundw
        case rel => exact ⟨k + 1, by omega, by go_num, ys.setIfInBounds k (byteV y), by rw [Array.size_setIfInBounds]; exact HY1.out, by rw [take_succ_set (by rw [HY1.out]; omega) HY2.out, HS.out, List.map_append]; rfl, set_eq (by have := hBA'.out; simp at this; omega)⟩
        case measure => simp [intOf]; omega
    · have hk32 : k = 32 := by omega
      subst hk32
      have hys : ys = ((bytesS st 32).map byteV).toArray := by
        rw [List.take_of_length_le (by simp [hy1])] at hy2
        rw [← hy2]
      have hone : ys.all (·.oneCell') = true := by rw [hys]; exact oneCell_map _
      have hsz : (Tryd.prog.info? 64).map (·.size) = some ys.size := by rw [hy1]; exact Tryd.size32
      have hzs : zero32.size = ys.size := by rw [hy1]; rfl
      have HE : Hid (Ending.returned (.agg ys) = .returned (.agg ((bytesS st 32).map byteV).toArray)) := by show _ = _; rw [hys]
      have HR1 := hide (heap3_snd w (.cells xs 87) (.cells zero32 64) (.cells ys 64))
      have HR2 := hide (heap3_new w (.cells xs 87) (.cells zero32 64) (.cells ys 64))
      have HBL := hide (below_alloc3 w (.cells xs 87) (.cells zero32 64) (.cells ys 64))
      generalize ((w.alloc (.cells xs 87)).alloc (.cells zero32 64)).alloc (.cells ys 64) = wr at *
      have HRS := hide (setRow_heap wr (w.heap.size + 1) zero32 ys 64 (0, 0) HR1.out)
      clear hy1 hy2 hys
      go_wp2_with (first
        | refine wpList_load_row rfl 64 (.tmp 3) rfl (w.heap.size + 1 + 1) rfl 64 ys (0, 0) _ HR2.out Tryd.underlying64 rfl hsz ?_
        | refine wpList_store_row rfl 64 _ _ rfl (w.heap.size + 1) ys rfl rfl 64 zero32 HR1.out hsz hzs hone ?_)
      exact bodyPost_ret (v := .agg ys) (results_cell_row rfl _ _ (w.heap.size + 1) 64 ys (0, 0) _ rfl HRS.out Tryd.underlying64 rfl hsz) rfl ⟨HE.out, below_setRow HBL.out (by omega) _⟩

/-- how many bytes of padding, without the length -/
def padN (n : Nat) : Nat := if n % 64 < 56 then 56 - n % 64 else 120 - n % 64
theorem padN_bd (n : Nat) : 1 ≤ padN n ∧ padN n ≤ 64 := by unfold padN; split <;> omega

theorem padLen_any (n : Nat) (hn : n < 18446744073709551616) (w : World) :
    Calls Tryd.prog 39 #[.int .u64 (n : Int)] w fun e w' => e = .returned (.int .i64 (padN n : Nat)) ∧ w' = w := by
  obtain ⟨m, hm⟩ : ∃ m, padN n = m := ⟨_, rfl⟩
  rw [hm]
  obtain ⟨r, hr⟩ : ∃ r, n % 64 = r := ⟨_, rfl⟩
  unfold padN at hm
  rw [hr] at hm
  have hr2 : (n : Int) % 64 = (r : Int) := by omega
  have hlt : r < 64 := by omega
  by_cases h : r < 56
  · rw [if_pos h] at hm
    have HM := hide hm
    clear hm hr
    go_enter Tryd.func39, Tryd.ntmps39
    go_wp2
    go_ret
    exact ⟨by have := HM.out; rw [show (m : Int) = 56 - (r : Int) by omega]; rfl, rfl⟩
  · rw [if_neg h] at hm
    have HM := hide hm
    clear hm hr
    go_enter Tryd.func39, Tryd.ntmps39
    go_wp2
    go_ret
    exact ⟨by have := HM.out; rw [show (m : Int) = 120 - (r : Int) by omega]; rfl, rfl⟩
end Go.Proofs.YtepgiomgkgfioaaDoor
