import Derived.Test.YtbkcenpohcjgnabDoorByt
import Derived.Test.YtbkcenpohcjgnabDoorShaMac
import Derived.Deep.OwnRows
import Derived.Laws.OwnMore
namespace Go.Proofs.YtbkcenpohcjgnabDoor
open Go.RowKit
open Num
set_option linter.unusedVariables false
set_option linter.unusedSimpArgs false

/-- the first k of p's bytes in n places -/
def fillL (p : List Nat) (n k : Nat) : List Nat := p.take k ++ List.replicate (n - k) 0
theorem fillL_len {p : List Nat} {n k : Nat} (h1 : k ≤ n) (h2 : k ≤ p.length) : (fillL p n k).length = n := by simp [fillL]; omega
theorem fillL_set {p : List Nat} {n k : Nat} (h1 : k < n) (h2 : k < p.length) : (fillL p n k).set k (p.getD k 0) = fillL p n (k + 1) := by
  have h3 : (p.take k).length = k := by simp; omega
  have e : n - k = (n - (k + 1)) + 1 := by omega
  rw [fillL, fillL, List.set_append_right _ _ (by omega), h3, Nat.sub_self, take_snoc p 0 k h2, e, List.replicate_succ, List.set_cons_zero, List.append_assoc]
  rfl
def upToL (p : List Nat) (n : Nat) : List Nat := fillL p n (Nat.min n p.length)
theorem upToL_len (p : List Nat) (n : Nat) : (upToL p n).length = n := fillL_len (Nat.min_le_left _ _) (Nat.min_le_right _ _)
theorem upToL_lt {p : List Nat} (n : Nat) (h : ∀ b ∈ p, b < 256) : ∀ b ∈ upToL p n, b < 256 := by
  intro b hb
  rcases List.mem_append.1 hb with hb | hb
  · exact h b (List.mem_of_mem_take hb)
  · have := List.eq_of_mem_replicate hb; omega
theorem made_fill (p : List Nat) (n : Nat) : madeCells #[Value.int .u8 0] n = ((fillL p n 0).map byteV).toArray := by
  rw [fillL, List.take_zero, List.nil_append, Nat.sub_zero, List.map_replicate]
  apply Array.toList_inj.1
  rw [toList_madeCells_one]; rfl

set_option maxHeartbeats 400000 in
theorem upTo_any (v : Value) (p : List Nat) (n : Nat) (w : World) (h : BSl w v p) (hn : n ≤ 140737488355328) :
    Calls Tryd.prog 19 #[v, .int .i64 (n : Int)] w fun e w' => e = .returned (.slice (some ⟨w.heap.size, 0, none⟩) n n) ∧ w' = w.alloc (.cells ((upToL p n).map byteV).toArray 5) := by
  have hmk := run_make_row' (P := Tryd.prog) 22 5 (.int .u8 0) 1 Tryd.underlying22 Tryd.info5 rfl .i64 .i64 n (by omega) (by omega)
  rw [made_fill p n] at hmk
  have HV := hide h
  have hs := h.short
  unfold maxLen at hs
  obtain ⟨a, cap, rfl, hl, hm, hnn, hb, hcell⟩ := h
  have HC := hide hcell
  clear hcell hb
  go_enter Tryd.func19, Tryd.ntmps19
  go_wp2
  clear hmk
  go_loopw [6] (fun i wr => ∃ k : Nat, k ≤ n ∧ k ≤ p.length ∧ i = .int .i64 k ∧ wr = w.alloc (.cells ((fillL p n k).map byteV).toArray 5)) (fun i _ => n - (intOf i).toNat)
  case atStart => exact ⟨0, Nat.zero_le _, Nat.zero_le _, rfl, rfl⟩
  case round =>
    obtain ⟨k, hk1, hk2, rfl, rfl⟩ := hrel
    have hfl := fillL_len hk1 hk2
    by_cases hlt1 : k < n
    · by_cases hlt2 : k < p.length
      · obtain ⟨b, off, rfl, hcell⟩ := HC.out (by omega)
        have hck := hcell k hlt2
        have hbl : b < w.heap.size := World.block_lt_of_cell? w ⟨b, off + k, none⟩ hck
        have HS : Hid (((fillL p n k).map byteV).toArray.setIfInBounds k (.int .u8 (p.getD k 0 : Nat)) = ((fillL p n (k + 1)).map byteV).toArray) := by
          show _ = _; rw [← fillL_set hlt1 hlt2, List.setIfInBounds_toArray, List.map_set]; rfl
        have hsz : ((fillL p n k).map byteV).toArray.size = n := by rw [List.size_toArray, List.length_map, hfl]
        obtain ⟨v0, hv0⟩ : ∃ v, ((fillL p n k).map byteV).toArray[k]? = some v := ⟨_, Array.getElem?_eq_getElem (by omega)⟩
        generalize ((fillL p n k).map byteV).toArray = ys at *
        generalize p.getD k 0 = x at *
        clear hcell hfl
        go_wp2
        go_roundw
        case rel => exact ⟨k + 1, by omega, by omega, by go_num, by rw [HS.out]⟩
        case measure => simp [intOf]; omega
      · have hE : upToL p n = fillL p n k := by rw [upToL]; congr 1; show min n p.length = k; omega
        have HE : Hid (((fillL p n k).map byteV).toArray = ((upToL p n).map byteV).toArray) := by show _ = _; rw [hE]
        generalize ((fillL p n k).map byteV).toArray = ys at *
        clear hE
        go_wp2
        go_ret
        exact ⟨rfl, by rw [HE.out]⟩
    · have hE : upToL p n = fillL p n k := by rw [upToL]; congr 1; show min n p.length = k; omega
      have HE : Hid (((fillL p n k).map byteV).toArray = ((upToL p n).map byteV).toArray) := by show _ = _; rw [hE]
      generalize ((fillL p n k).map byteV).toArray = ys at *
      clear hE
      go_wp2
      go_ret
      exact ⟨rfl, by rw [HE.out]⟩
end Go.Proofs.YtbkcenpohcjgnabDoor
