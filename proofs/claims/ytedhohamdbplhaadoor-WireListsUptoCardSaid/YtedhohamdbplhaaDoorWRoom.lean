import Derived.Test.YtedhohamdbplhaaDoorByt
import Derived.Lib.SliceRun
namespace Go.Proofs.YtedhohamdbplhaaDoor
open Go.RowKit
open Num
set_option linter.unusedVariables false

set_option maxHeartbeats 400000 in
theorem same_eq (v1 v2 : Value) (l : List Nat) (w : World) (h1 : BSl w v1 l) (h2 : BSl w v2 l) :
    Calls Tryd.prog 19 #[v1, v2] w fun e w' => e = .returned (.bool true) ∧ ∃ n, w' = w.drewN n := by
  obtain ⟨a, cap, rfl, hl, hm, hn, hb, hcell⟩ := h1
  obtain ⟨a2, cap2, rfl, hl2, hm2, hn2, hb2, hcell2⟩ := h2
  unfold maxLen at hm hm2
  clear hb2 hn hn2
  have HB : Hid (∀ b ∈ l, b < 256) := hb
  have HC : Hid (0 < l.length → ∃ b off, a = some ⟨b, off, none⟩ ∧ ∀ i, i < l.length → w.cell? ⟨b, off + i, none⟩ = some (.int .u8 (l.getD i 0 : Nat))) := hcell
  have HC2 : Hid (0 < l.length → ∃ b off, a2 = some ⟨b, off, none⟩ ∧ ∀ i, i < l.length → w.cell? ⟨b, off + i, none⟩ = some (.int .u8 (l.getD i 0 : Nat))) := hcell2
  clear hb hcell hcell2
  go_enter Tryd.func19, Tryd.ntmps19
  go_wp2
  go_loopw [5] (fun i wr => ∃ k : Nat, k ≤ l.length ∧ i = .int .i64 k ∧ ∃ n, wr = w.drewN n) (fun i _ => l.length - (intOf i).toNat)
  case atStart => exact ⟨0, Nat.zero_le _, rfl, 0, rfl⟩
  case round =>
    obtain ⟨k, hk, rfl, n, rfl⟩ := hrel
    by_cases hlt : k < l.length
    · obtain ⟨b, off, rfl, hcell⟩ := HC.out (by omega)
      obtain ⟨b2, off2, rfl, hcell2⟩ := HC2.out (by omega)
      have hck := hcell k hlt
      have hck2 := hcell2 k hlt
      have hx : l.getD k 0 < 256 := HB.out _ (mem_getD hlt)
      clear hcell hcell2 HB HC HC2
      generalize l.getD k 0 = x at *
      go_wp2
      go_quiet (fail)
      go_wp2
      go_roundw
      case rel => exact ⟨k + 1, by omega, by go_num, _, rfl⟩
      case measure => simp [intOf]; omega
    · go_wp2
      go_ret
      exact ⟨rfl, n, rfl⟩

/-- the marks behind the end -/
def marks (k : Nat) : List Nat := (List.range k).map fun i => (165 ^^^ i) % 256

theorem marks_succ (k : Nat) : marks (k + 1) = marks k ++ [(165 ^^^ k) % 256] := by simp [marks, List.range_succ]
theorem marks_len (k : Nat) : (marks k).length = k := by simp [marks]
theorem marks_lt (k : Nat) : ∀ b ∈ marks k, b < 256 := by
  intro b hb
  obtain ⟨i, _, rfl⟩ := List.mem_map.1 hb
  omega

theorem xor165 : ∀ k : Nat, k < 40 → bits BinOp.xor IntKind.i64 165 (k : Int) % 256 = (((165 ^^^ k) % 256 : Nat) : Int) := by decide +kernel

theorem own_snoc {w : World} {base : Nat} {v : Value} {l : List Nat} {k : Nat} (hb : ∀ b ∈ l ++ marks k, b < 256) (hx : (165 ^^^ k) % 256 < 256)
    (h : w.ownsRow base 5 1 v ((l ++ marks k).length + 1) ((l ++ marks k).map byteV ++ [.int .u8 (((165 ^^^ k) % 256 : Nat) : Int)])) : Own w base v (l ++ marks (k + 1)) := by
  have e : l ++ marks (k + 1) = (l ++ marks k) ++ [(165 ^^^ k) % 256] := by rw [marks_succ, List.append_assoc]
  rw [e]
  refine ⟨?_, fun b hb' => ?_⟩
  · rw [List.length_append, List.map_append]; exact h
  · rcases List.mem_append.1 hb' with h1 | h1
    · exact hb b h1
    · simp only [List.mem_singleton] at h1; omega

/-- every byte of the first k turned -/
def spoilL (k : Nat) (l : List Nat) : List Nat := (l.take k).map (fun b => b ^^^ 255) ++ l.drop k

theorem spoilL_len (k : Nat) (l : List Nat) : (spoilL k l).length = l.length := by simp [spoilL]; omega
theorem spoilL_lt {k : Nat} {l : List Nat} (h : ∀ b ∈ l, b < 256) : ∀ b ∈ spoilL k l, b < 256 := by
  intro b hb
  rcases List.mem_append.1 hb with h1 | h1
  · obtain ⟨c, hc, rfl⟩ := List.mem_map.1 h1
    exact Nat.xor_lt_two_pow (n := 8) (h c (List.mem_of_mem_take hc)) (by omega)
  · exact h b (List.mem_of_mem_drop h1)
theorem spoilL_getD {k : Nat} {l : List Nat} (hk : k < l.length) : (spoilL k l).getD k 0 = l.getD k 0 := by
  have h1 : ((l.take k).map (fun b => b ^^^ 255)).length = k := by simp; omega
  simp only [spoilL, List.getD]
  rw [List.getElem?_append_right (by omega), h1, List.getElem?_drop]
  simp
theorem spoilL_set {k : Nat} {l : List Nat} (hk : k < l.length) : (spoilL k l).set k (l.getD k 0 ^^^ 255) = spoilL (k + 1) l := by
  have h1 : ((l.take k).map (fun b => b ^^^ 255)).length = k := by simp; omega
  unfold spoilL
  rw [List.set_append_right _ _ (by omega), h1, Nat.sub_self, take_snoc l 0 k hk, List.map_append, List.append_assoc]
  have e : l.drop k = l[k] :: l.drop (k + 1) := List.drop_eq_getElem_cons hk
  rw [e, List.set_cons_zero]
  rfl

theorem map_set_byteV (l : List Nat) (k x : Nat) : (l.map byteV).set k (.int .u8 (x : Int)) = (l.set k x).map byteV := by
  rw [List.map_set]; rfl

theorem Own.stored {w : World} {base g cap : Nat} {l : List Nat} (h : Own w base (.slice (some ⟨g, 0, none⟩) l.length cap) l) (k x : Nat) (hx : x < 256) :
    Own (w.setCell ⟨g, k, none⟩ (.int .u8 (x : Int))) base (.slice (some ⟨g, 0, none⟩) l.length cap) (l.set k x) := by
  have h1 := (h.1.stored k (.int .u8 (x : Int))).1
  rw [map_set_byteV] at h1
  refine ⟨by rw [List.length_set]; exact h1, fun b hb => ?_⟩
  rcases List.mem_or_eq_of_mem_set hb with h2 | h2
  · exact h.2 b h2
  · omega

theorem Own.keptIf {w w' : World} {base : Nat} {v : Value} {l : List Nat} (h : Own w base v l) (hb : ∀ g, v.ownBlock = some g → w'.heap[g]? = w.heap[g]?) : Own w' base v l := by
  refine ⟨⟨h.1.1, ?_⟩, h.2⟩
  rcases h.1.2 with h0 | ⟨g, cap, cur, rfl, h1, hg, r⟩
  · exact .inl h0
  · exact .inr ⟨g, cap, cur, rfl, h1, by rw [hb g rfl]; exact hg, r⟩

end Go.Proofs.YtedhohamdbplhaaDoor
