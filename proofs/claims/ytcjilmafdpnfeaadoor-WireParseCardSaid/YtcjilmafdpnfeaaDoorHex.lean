import Derived.Test.YtcjilmafdpnfeaaDoorByt
import Derived.Laws.ResultCell
import Derived.Laws.BytesString
namespace Go.Proofs.YtcjilmafdpnfeaaDoor
open Go.RowKit
open Num
set_option linter.unusedVariables false

theorem take_set2 {ys : Array Value} {k : Nat} {A : List Value} (hs : 2 * k + 1 < ys.size) (h : ys.toList.take (2 * k) = A) (u v : Value) :
    ((ys.setIfInBounds (2 * k) u).setIfInBounds (2 * k + 1) v).toList.take (2 * (k + 1)) = A ++ [u, v] := by
  subst h
  have hs' : 2 * k + 1 < ys.toList.length := by simpa using hs
  have e : 2 * (k + 1) = 2 * k + 1 + 1 := by omega
  rw [e]
  simp only [Array.toList_setIfInBounds]
  rw [List.take_succ_eq_append_getElem (by simp; omega), List.take_succ_eq_append_getElem (by simp; omega)]
  simp [List.take_set_of_le]

theorem hexDigit_at (n : Nat) (h : n < 16) (h' : n < (⟨#[48, 49, 50, 51, 52, 53, 54, 55, 56, 57, 97, 98, 99, 100, 101, 102]⟩ : ByteArray).size) :
    ((⟨#[48, 49, 50, 51, 52, 53, 54, 55, 56, 57, 97, 98, 99, 100, 101, 102]⟩ : ByteArray)[n]'h').toNat = hexC n := by
  revert n; decide +kernel

theorem hexL_snoc {l : List Nat} {k : Nat} (h : k < l.length) : hexL (l.take (k + 1)) = hexL (l.take k) ++ [hexC (l.getD k 0 / 16), hexC (l.getD k 0 % 16)] := by
  rw [take_snoc l 0 k h, hexL_append]; rfl

theorem and15 {x : Nat} (h : x < 256) : bits BinOp.and IntKind.u8 (x : Int) 15 = ((x % 16 : Nat) : Int) := by
  have := u8_and_nat x 15 h (by omega)
  rw [nat_mask4] at this
  exact this

theorem BSl.ofRow {w : World} {g n cap : Nat} {ys : Array Value} {t : TypeId} {fr : Nat × Nat} {l : List Nat} (hg : w.heap[g]? = some (.cells ys t fr)) (h : ys.toList.take n = l.map byteV) (hn : n = l.length)
    (hc : n ≤ cap) (hm : cap ≤ maxLen) (hb : ∀ b ∈ l, b < 256) : BSl w (.slice (some ⟨g, 0, none⟩) n cap) l := by
  subst hn
  refine ⟨_, cap, rfl, hc, hm, by simp, hb, fun _ => ⟨g, 0, rfl, fun i hi => ?_⟩⟩
  rw [cell_of_row w g (0 + i) ys t fr hg, Nat.zero_add, ← map_byteV_getD hi, ← h, List.getElem?_take, if_pos hi, Array.getElem?_toList]

theorem foldl_push (l : List Nat) : ∀ r : ByteArray, (l.map fun n : Nat => (n : Int)).foldl (fun r n => r.push (UInt8.ofNat n.toNat)) r = ⟨r.data ++ (l.map UInt8.ofNat).toArray⟩ := by
  induction l with
  | nil => intro r; simp
  | cons a l ih =>
    intro r
    simp only [List.map_cons, List.foldl_cons]
    rw [ih]
    apply ByteArray.ext
    simp [ByteArray.push, Int.toNat_natCast]

/-- 'string(b)' -/
theorem conv_bytes {W : World} {ad : Addr} {n cap : Nat} {l : List Nat} (h : BSl W (.slice (some ad) n cap) l) :
    (convert 22 9 (.slice (some ad) n cap)).run Tryd.prog W = .ok (.string ⟨(l.map UInt8.ofNat).toArray⟩) W := by
  have hn : n = l.length := by obtain ⟨a, cap, e, _⟩ := h; simp at e; exact e.2.1
  have hl : (loadCells ad (l.map byteV).length).run Tryd.prog W = .ok (l.map byteV).toArray W := run_loadCells_list W ad _ (fun j v hv => h.news j v hv)
  rw [run_convert_bytes_string W 22 9 5 _ _ _ Tryd.underlying22 Tryd.underlying5 Tryd.underlying9]
  have e : l.map byteV = (l.map fun n : Nat => (n : Int)).map (Value.int .u8) := by rw [List.map_map]; rfl
  rw [List.length_map, ← hn, e] at hl
  rw [run_bytesToString W ad n cap _ hl, foldl_push]
  congr 2
  apply ByteArray.ext
  simp

end Go.Proofs.YtcjilmafdpnfeaaDoor
