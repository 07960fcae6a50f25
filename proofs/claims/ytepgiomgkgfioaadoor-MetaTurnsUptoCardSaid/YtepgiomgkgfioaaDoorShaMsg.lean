import Derived.Test.YtepgiomgkgfioaaDoorShaBytes
namespace Go.Proofs.YtepgiomgkgfioaaDoor
open Go.RowKit
open Num
set_option linter.unusedVariables false

def H0 : List Nat := [0x6a09e667, 0xbb67ae85, 0x3c6ef372, 0xa54ff53a, 0x510e527f, 0x9b05688c, 0x1f83d9ab, 0x5be0cd19]
def st0 : St := ⟨0x6a09e667, 0xbb67ae85, 0x3c6ef372, 0xa54ff53a, 0x510e527f, 0x9b05688c, 0x1f83d9ab, 0x5be0cd19⟩
theorem st0_ok : st0.ok := by refine ⟨?_, ?_, ?_, ?_, ?_, ?_, ?_, ?_⟩ <;> decide

/-- the state behind the first k chunks -/
def absorb (q : List Nat) : Nat → St
  | 0 => st0
  | k + 1 => mixS Ks (absorb q k) ((q.drop (64 * k)).take 64)
theorem absorb_ok (q : List Nat) : ∀ k, (absorb q k).ok
  | 0 => st0_ok
  | k + 1 => mixS_ok
theorem absorb_append (q r : List Nat) : ∀ k, 64 * k ≤ q.length → absorb (q ++ r) k = absorb q k
  | 0, _ => rfl
  | k + 1, h => by
    have ih := absorb_append q r k (by omega)
    rw [absorb, absorb, ih, List.drop_append_of_le_length (by omega), List.take_append_of_le_length (by simp; omega)]

def hcells (st : St) (buf : List Nat) (C : Nat) : List Value := st.list.map wordV ++ (buf.map byteV ++ [.int .u64 (C : Int)])
theorem list_len (st : St) : (st.list.map wordV).length = 8 := rfl
theorem hcells_len {st : St} {buf : List Nat} {C : Nat} (h : buf.length = 64) : (hcells st buf C).length = 73 := by
  rw [hcells, List.length_append, list_len, List.length_append, List.length_map, h]; rfl
theorem hcells_one (st : St) (buf : List Nat) (C : Nat) : ∀ v ∈ hcells st buf C, v.oneCell' = true := by
  intro v hv
  simp only [hcells, List.mem_append, List.mem_map, List.mem_singleton] at hv
  rcases hv with ⟨_, _, rfl⟩ | ⟨_, _, rfl⟩ | rfl <;> rfl
theorem hcells_count {st : St} {buf : List Nat} {C : Nat} (h : buf.length = 64) : (hcells st buf C)[72]? = some (.int .u64 (C : Int)) := by
  rw [hcells, List.getElem?_append_right (by rw [list_len]; omega), list_len, List.getElem?_append_right (by rw [List.length_map, h]; omega), List.length_map, h]
  rfl
theorem hcells_setCount {st : St} {buf : List Nat} {C D : Nat} (h : buf.length = 64) : (hcells st buf C).set 72 (.int .u64 (D : Int)) = hcells st buf D := by
  rw [hcells, List.set_append_right _ _ (by rw [list_len]; omega), list_len, List.set_append_right _ _ (by rw [List.length_map, h]; omega), List.length_map, h]
  rfl
theorem hcells_state (st : St) (buf : List Nat) (C : Nat) : ∀ (j : Nat) v, (st.list.map wordV)[j]? = some v → (hcells st buf C)[j]? = some v := by
  intro j v hv
  have hj := (List.getElem?_eq_some_iff.1 hv).1
  rw [hcells, List.getElem?_append_left hj]; exact hv
theorem hcells_buf {st : St} {buf : List Nat} {C : Nat} (h : buf.length = 64) : ∀ (j : Nat) v, (buf.map byteV)[j]? = some v → (hcells st buf C)[8 + j]? = some v := by
  intro j v hv
  have hj := (List.getElem?_eq_some_iff.1 hv).1
  rw [hcells, List.getElem?_append_right (by rw [list_len]; omega), list_len, show 8 + j - 8 = j by omega, List.getElem?_append_left hj]; exact hv

/-- n bytes laid over the waiting ones from f on -/
def lay (buf : List Nat) (f : Nat) (x : List Nat) : List Nat := buf.take f ++ (x ++ buf.drop (f + x.length))
theorem lay_len {buf x : List Nat} {f : Nat} (h : buf.length = 64) (hf : f + x.length ≤ 64) : (lay buf f x).length = 64 := by
  simp [lay, h]; omega
theorem hcells_lay {st : St} {buf x : List Nat} {C f : Nat} (h : buf.length = 64) (hf : f + x.length ≤ 64) :
    (hcells st buf C).take (8 + f) ++ (x.map byteV ++ (hcells st buf C).drop (8 + f + (x.map byteV).length)) = hcells st (lay buf f x) C := by
  have e1 : (hcells st buf C).take (8 + f) = st.list.map wordV ++ (buf.map byteV).take f := by
    rw [hcells, List.take_append, list_len, List.take_of_length_le (by rw [list_len]; omega), show 8 + f - 8 = f by omega, List.take_append_of_le_length (by rw [List.length_map, h]; omega)]
  have e2 : (hcells st buf C).drop (8 + f + (x.map byteV).length) = (buf.map byteV).drop (f + x.length) ++ [.int .u64 (C : Int)] := by
    rw [hcells, List.length_map, List.drop_append, list_len, List.drop_of_length_le (by rw [list_len]; omega), List.nil_append, show 8 + f + x.length - 8 = f + x.length by omega, List.drop_append_of_le_length (by rw [List.length_map, h]; omega)]
  rw [e1, e2, hcells, lay]
  simp [List.append_assoc]

theorem lay_more {q buf : List Nat} {L n : Nat} (hbuf : buf.length = 64) (hL : L + n ≤ q.length) (hn : L % 64 + n ≤ 64) (ht : buf.take (L % 64) = (q.take L).drop (64 * (L / 64))) :
    (lay buf (L % 64) ((q.drop L).take n)).take (L % 64 + n) = (q.take (L + n)).drop (64 * (L / 64)) := by
  have hx : ((q.drop L).take n).length = n := by simp; omega
  have h1 : (buf.take (L % 64)).length = L % 64 := by simp [hbuf]; omega
  rw [lay, ← List.append_assoc, List.take_append_of_le_length (by rw [List.length_append, h1, hx]; omega), List.take_of_length_le (by rw [List.length_append, h1, hx]; omega), ht]
  have e : q.take (L + n) = q.take L ++ (q.drop L).take n := List.take_add
  rw [e, List.drop_append_of_le_length (by simp; omega)]

theorem lay_full {q buf : List Nat} {L n : Nat} (hbuf : buf.length = 64) (hL : L + n ≤ q.length) (hn : L % 64 + n = 64) (ht : buf.take (L % 64) = (q.take L).drop (64 * (L / 64))) :
    lay buf (L % 64) ((q.drop L).take n) = (q.drop (64 * (L / 64))).take 64 := by
  have hx : ((q.drop L).take n).length = n := by simp; omega
  have h := lay_more hbuf hL (by omega) ht
  rw [hn, List.take_of_length_le (by rw [lay_len hbuf (by rw [hx]; omega)]; omega)] at h
  rw [h, List.drop_take]
  congr 1; omega

theorem take_lt {q : List Nat} (h : ∀ b ∈ q, b < 256) (i n : Nat) : ∀ b ∈ (q.drop i).take n, b < 256 := fun b hb => h b (List.mem_of_mem_drop (List.mem_of_mem_take hb))
theorem lay_lt {buf x : List Nat} {f : Nat} (h : ∀ b ∈ buf, b < 256) (hx : ∀ b ∈ x, b < 256) : ∀ b ∈ lay buf f x, b < 256 := by
  intro b hb
  simp only [lay, List.mem_append] at hb
  rcases hb with hb | hb | hb
  · exact h b (List.mem_of_mem_take hb)
  · exact hx b hb
  · exact h b (List.mem_of_mem_drop hb)
end Go.Proofs.YtepgiomgkgfioaaDoor
