import Derived.Test.YtbkcenpohcjgnaaUnhex
import Derived.Laws.IdiomStrings
namespace Go.Proofs.Ytbkcenpohcjgnaa
open Go.RowKit
open Num
set_option linter.unusedVariables false

def upC (c : Nat) : Nat := if 97 ≤ c ∧ c ≤ 102 then c - 32 else c
def loC (c : Nat) : Nat := if 65 ≤ c ∧ c ≤ 70 then c + 32 else c

theorem bytesRow_take (s : ByteArray) (cap : Nat) : (bytesRow s cap).toList.take s.size = (strL s).map byteV := by
  have h1 : (s.data.map (fun b => Value.int .u8 b.toNat)).toList.length = s.size := by simp
  simp only [bytesRow, Array.toList_append]
  rw [List.take_append_of_le_length (by omega), List.take_of_length_le (by omega)]
  simp [strL, byteV]
theorem bytesRow_size (s : ByteArray) (cap : Nat) (h : s.size ≤ cap) : (bytesRow s cap).size = cap := by
  have : s.data.size = s.size := rfl
  simp [bytesRow]; omega

theorem frozen_low {w : World} {g j : Nat} {cs : Array Value} {t : TypeId} {a b : Nat} (hg : w.heap[g]? = some (.cells cs t (a, b))) (hj : j < a) : w.frozen? ⟨g, j, none⟩ = false := by
  simp only [World.frozen?, hg]
  simp; omega

/-- the first k letters turned by f -/
def mapTo (f : Nat → Nat) (k : Nat) (l : List Nat) : List Nat := (l.take k).map f ++ l.drop k
theorem mapTo_len (f : Nat → Nat) (k : Nat) (l : List Nat) : (mapTo f k l).length = l.length := by simp [mapTo]; omega
theorem mapTo_getD {f : Nat → Nat} {k : Nat} {l : List Nat} (hk : k < l.length) : (mapTo f k l).getD k 0 = l.getD k 0 := by
  have h1 : ((l.take k).map f).length = k := by simp; omega
  simp only [mapTo, List.getD]
  rw [List.getElem?_append_right (by omega), h1, List.getElem?_drop]
  simp
theorem mapTo_set {f : Nat → Nat} {k : Nat} {l : List Nat} (hk : k < l.length) : (mapTo f k l).set k (f (l.getD k 0)) = mapTo f (k + 1) l := by
  have h1 : ((l.take k).map f).length = k := by simp; omega
  unfold mapTo
  rw [List.set_append_right _ _ (by omega), h1, Nat.sub_self, take_snoc l 0 k hk, List.map_append, List.append_assoc]
  have e : l.drop k = l[k] :: l.drop (k + 1) := List.drop_eq_getElem_cons hk
  rw [e, List.set_cons_zero]
  rfl
theorem mapTo_same {f : Nat → Nat} {k : Nat} {l : List Nat} (hk : k < l.length) (h : f (l.getD k 0) = l.getD k 0) : mapTo f (k + 1) l = mapTo f k l := by
  rw [← mapTo_set hk, h, ← mapTo_getD (f := f) hk]
  apply List.ext_getElem?
  intro i
  rw [List.getElem?_set]
  split
  · rename_i e; subst e
    rw [mapTo_len]
    simp [hk, List.getD, mapTo_len]
  · rfl
theorem mapTo_all {f : Nat → Nat} {l : List Nat} : mapTo f l.length l = l.map f := by simp [mapTo]
theorem mapTo_lt {f : Nat → Nat} {k : Nat} {l : List Nat} (hf : ∀ b, b < 256 → f b < 256) (h : ∀ b ∈ l, b < 256) : ∀ b ∈ mapTo f k l, b < 256 := by
  intro b hb
  rcases List.mem_append.1 hb with h1 | h1
  · obtain ⟨c, hc, rfl⟩ := List.mem_map.1 h1
    exact hf c (h c (List.mem_of_mem_take hc))
  · exact h b (List.mem_of_mem_drop h1)
theorem upC_lt : ∀ b, b < 256 → upC b < 256 := by intro b h; unfold upC; split <;> omega
theorem loC_lt : ∀ b, b < 256 → loC b < 256 := by intro b h; unfold loC; split <;> omega

/-- the row in which the letters lie -/
def CRow (w : World) (g cap : Nat) (l : List Nat) : Prop :=
  ∃ ys : Array Value, w.heap[g]? = some (.cells ys 5 (cap, cap + 1)) ∧ ys.size = cap ∧ ys.toList.take l.length = l.map byteV ∧ l.length ≤ cap ∧ ∀ b ∈ l, b < 256

theorem CRow.cell {w : World} {g cap : Nat} {l : List Nat} (h : CRow w g cap l) {k : Nat} (hk : k < l.length) : w.cell? ⟨g, k, none⟩ = some (.int .u8 (l.getD k 0 : Nat)) := by
  obtain ⟨ys, hg, hs, ht, hl, hb⟩ := h
  rw [cell_of_row w g k ys 5 _ hg, ← map_byteV_getD hk, ← ht, List.getElem?_take, if_pos hk, Array.getElem?_toList]
theorem CRow.free {w : World} {g cap : Nat} {l : List Nat} (h : CRow w g cap l) {k : Nat} (hk : k < l.length) : w.frozen? ⟨g, k, none⟩ = false := by
  obtain ⟨ys, hg, hs, ht, hl, hb⟩ := h
  exact frozen_low hg (by omega)
theorem CRow.stored {w : World} {g cap : Nat} {l : List Nat} (h : CRow w g cap l) {k x : Nat} (hk : k < l.length) (hx : x < 256) : CRow (w.setCell ⟨g, k, none⟩ (.int .u8 (x : Int))) g cap (l.set k x) := by
  obtain ⟨ys, hg, hs, ht, hl, hb⟩ := h
  refine ⟨ys.setIfInBounds k (.int .u8 (x : Int)), ?_, by simpa using hs, ?_, by simpa using hl, ?_⟩
  · rw [setCell_eq_setRow w g k ys 5 _ _ hg]; exact setRow_heap w g ys _ 5 _ hg
  · rw [Array.toList_setIfInBounds, List.length_set, List.take_set, ht, map_set_byteV]
  · intro b hb'
    rcases List.mem_or_eq_of_mem_set hb' with h2 | h2
    · exact hb b h2
    · omega
theorem CRow.bsl {w : World} {g cap : Nat} {l : List Nat} (h : CRow w g cap l) (hm : cap ≤ maxLen) : BSl w (.slice (some ⟨g, 0, none⟩) l.length cap) l := by
  obtain ⟨ys, hg, hs, ht, hl, hb⟩ := h
  exact BSl.ofRow hg ht rfl hl hm hb

theorem ret_str {l m : List Nat} (h : l = m) : Ending.returned (.string ⟨(l.map UInt8.ofNat).toArray⟩) = .returned (.string ⟨(m.map UInt8.ofNat).toArray⟩) := by rw [h]

set_option maxHeartbeats 1000000 in
theorem upper_any (s : ByteArray) (hm : s.size ≤ 140737488351232) (w : World) :
    Calls Try.prog 8 #[.string s] w fun e w' => e = .returned (.string ⟨(((strL s).map upC).map UInt8.ofNat).toArray⟩) ∧ Below w.heap.size w w' := by
  have hcv := run_bytes_of_string (P := Try.prog) w 9 32 5 s Try.underlying9 Try.underlying32 Try.underlying5
  have hcap1 := grownCap_ge w s.size 0 5
  have hcap2 := grownCap_le_maxLen w s.size 0 5 (by unfold maxLen; omega)
  generalize grownCap w s.size 0 5 = cap at *
  have hrow : CRow (w.drew.alloc (.cells (bytesRow s cap) 5 ((bytesRow s cap).size, (bytesRow s cap).size + 1))) w.heap.size cap (strL s) :=
    ⟨bytesRow s cap, by rw [bytesRow_size s cap hcap1]; exact Go.heap_alloc_new w.drew _, bytesRow_size s cap hcap1, by rw [strL_len]; exact bytesRow_take s cap, by rw [strL_len]; exact hcap1, strL_lt s⟩
  have hbel : Below w.heap.size w (w.drew.alloc (.cells (bytesRow s cap) 5 ((bytesRow s cap).size, (bytesRow s cap).size + 1))) := (Below.refl _ _).drew.alloc (Nat.le_refl _) _
  generalize (w.drew.alloc (.cells (bytesRow s cap) 5 ((bytesRow s cap).size, (bytesRow s cap).size + 1))) = w0 at *
  have hl := strL_len s
  have hlt := strL_lt s
  generalize strL s = l at *
  have hml : l.length ≤ 140737488351232 := by omega
  rw [← hl] at hcv
  have HLT := hide hlt
  have HR := hide hrow
  have HB := hide hbel
  have HM := hide hcap2
  obtain ⟨m, hmm⟩ : ∃ m, l.map upC = m := ⟨_, rfl⟩
  rw [hmm]
  have HMM := hide hmm
  clear hrow hbel hcap2 hlt hl hmm
  go_enter Try.func8, Try.ntmps8
  go_wp2
  clear hcv
  go_loopw [4] (fun i wr => ∃ k : Nat, k ≤ l.length ∧ i = .int .i64 k ∧ CRow wr w.heap.size cap (mapTo upC k l) ∧ Below w.heap.size w wr) (fun i _ => l.length - (intOf i).toNat)
  case atStart => exact ⟨0, Nat.zero_le _, rfl, HR.out, HB.out⟩
  case round =>
    clear HR HB
    obtain ⟨k, hk, rfl, hrow, hbel⟩ := hrel
    by_cases hlt : k < l.length
    · have hkl : k < (mapTo upC k l).length := by rw [mapTo_len]; exact hlt
      have hck := hrow.cell hkl
      have hfr := hrow.free hkl
      rw [mapTo_getD hlt] at hck
      have hx : l.getD k 0 < 256 := HLT.out _ (mem_getD hlt)
      have HST := fun (x : Nat) (hx : x < 256) => hide (hrow.stored (x := x) hkl hx)
      have HS1 := hide (mapTo_set (f := upC) hlt)
      have HS2 := hide (fun h => mapTo_same (f := upC) hlt h)
      have HRW := hide hrow
      have HBL := hide hbel
      clear hrow hbel hkl
      generalize l.getD k 0 = x at *
      by_cases h1 : 97 ≤ x ∧ x ≤ 102
      · obtain ⟨h1a, h1b⟩ := h1
        have HU : Hid (upC x = x - 32) := by show _ = _; unfold upC; rw [if_pos ⟨h1a, h1b⟩]
        have HST' := HST (x - 32) (by omega)
        clear HST
        have hc : ((x - 32 : Nat) : Int) = (x : Int) - 32 := by omega
        rw [hc] at HST'
        clear hc
        go_wp2
        go_roundw
        case rel => exact ⟨k + 1, by omega, by go_num, by rw [← HS1.out, HU.out]; exact HST'.out, HBL.out.setCell (Nat.le_refl _) _⟩
        case measure => simp [intOf]; omega
      · have HU : Hid (upC x = x) := by show _ = _; unfold upC; rw [if_neg h1]
        clear HST
        by_cases h2 : 97 ≤ x
        · have h3 : 102 < x := by omega
          clear h1
          go_wp2
          go_roundw
          case rel => exact ⟨k + 1, by omega, by go_num, by rw [HS2.out HU.out]; exact HRW.out, HBL.out⟩
          case measure => simp [intOf]; omega
        · have h3 : x < 97 := by omega
          clear h1 h2
          go_wp2
          go_roundw
          case rel => exact ⟨k + 1, by omega, by go_num, by rw [HS2.out HU.out]; exact HRW.out, HBL.out⟩
          case measure => simp [intOf]; omega
    · have hke : k = l.length := by omega
      have hcv := conv_bytes (hrow.bsl HM.out)
      rw [mapTo_len] at hcv
      rw [hke, mapTo_all, HMM.out] at hcv
      have HBL := hide hbel
      clear hrow hbel hke
      go_wp2
      go_ret
      exact ⟨rfl, HBL.out⟩
set_option maxHeartbeats 1000000 in
theorem lower_any (s : ByteArray) (hm : s.size ≤ 140737488351232) (w : World) :
    Calls Try.prog 11 #[.string s] w fun e w' => e = .returned (.string ⟨(((strL s).map loC).map UInt8.ofNat).toArray⟩) ∧ Below w.heap.size w w' := by
  have hcv := run_bytes_of_string (P := Try.prog) w 9 32 5 s Try.underlying9 Try.underlying32 Try.underlying5
  have hcap1 := grownCap_ge w s.size 0 5
  have hcap2 := grownCap_le_maxLen w s.size 0 5 (by unfold maxLen; omega)
  generalize grownCap w s.size 0 5 = cap at *
  have hrow : CRow (w.drew.alloc (.cells (bytesRow s cap) 5 ((bytesRow s cap).size, (bytesRow s cap).size + 1))) w.heap.size cap (strL s) :=
    ⟨bytesRow s cap, by rw [bytesRow_size s cap hcap1]; exact Go.heap_alloc_new w.drew _, bytesRow_size s cap hcap1, by rw [strL_len]; exact bytesRow_take s cap, by rw [strL_len]; exact hcap1, strL_lt s⟩
  have hbel : Below w.heap.size w (w.drew.alloc (.cells (bytesRow s cap) 5 ((bytesRow s cap).size, (bytesRow s cap).size + 1))) := (Below.refl _ _).drew.alloc (Nat.le_refl _) _
  generalize (w.drew.alloc (.cells (bytesRow s cap) 5 ((bytesRow s cap).size, (bytesRow s cap).size + 1))) = w0 at *
  have hl := strL_len s
  have hlt := strL_lt s
  generalize strL s = l at *
  have hml : l.length ≤ 140737488351232 := by omega
  rw [← hl] at hcv
  have HLT := hide hlt
  have HR := hide hrow
  have HB := hide hbel
  have HM := hide hcap2
  obtain ⟨m, hmm⟩ : ∃ m, l.map loC = m := ⟨_, rfl⟩
  rw [hmm]
  have HMM := hide hmm
  clear hrow hbel hcap2 hlt hl hmm
  go_enter Try.func11, Try.ntmps11
  go_wp2
  clear hcv
  go_loopw [4] (fun i wr => ∃ k : Nat, k ≤ l.length ∧ i = .int .i64 k ∧ CRow wr w.heap.size cap (mapTo loC k l) ∧ Below w.heap.size w wr) (fun i _ => l.length - (intOf i).toNat)
  case atStart => exact ⟨0, Nat.zero_le _, rfl, HR.out, HB.out⟩
  case round =>
    clear HR HB
    obtain ⟨k, hk, rfl, hrow, hbel⟩ := hrel
    by_cases hlt : k < l.length
    · have hkl : k < (mapTo loC k l).length := by rw [mapTo_len]; exact hlt
      have hck := hrow.cell hkl
      have hfr := hrow.free hkl
      rw [mapTo_getD hlt] at hck
      have hx : l.getD k 0 < 256 := HLT.out _ (mem_getD hlt)
      have HST := fun (x : Nat) (hx : x < 256) => hide (hrow.stored (x := x) hkl hx)
      have HS1 := hide (mapTo_set (f := loC) hlt)
      have HS2 := hide (fun h => mapTo_same (f := loC) hlt h)
      have HRW := hide hrow
      have HBL := hide hbel
      clear hrow hbel hkl
      generalize l.getD k 0 = x at *
      by_cases h1 : 65 ≤ x ∧ x ≤ 70
      · obtain ⟨h1a, h1b⟩ := h1
        have HU : Hid (loC x = x + 32) := by show _ = _; unfold loC; rw [if_pos ⟨h1a, h1b⟩]
        have HST' := HST (x + 32) (by omega)
        clear HST
        have hc : ((x + 32 : Nat) : Int) = (x : Int) + 32 := by omega
        rw [hc] at HST'
        clear hc
        go_wp2
        go_roundw
        case rel => exact ⟨k + 1, by omega, by go_num, by rw [← HS1.out, HU.out]; exact HST'.out, HBL.out.setCell (Nat.le_refl _) _⟩
        case measure => simp [intOf]; omega
      · have HU : Hid (loC x = x) := by show _ = _; unfold loC; rw [if_neg h1]
        clear HST
        by_cases h2 : 65 ≤ x
        · have h3 : 70 < x := by omega
          clear h1
          go_wp2
          go_roundw
          case rel => exact ⟨k + 1, by omega, by go_num, by rw [HS2.out HU.out]; exact HRW.out, HBL.out⟩
          case measure => simp [intOf]; omega
        · have h3 : x < 65 := by omega
          clear h1 h2
          go_wp2
          go_roundw
          case rel => exact ⟨k + 1, by omega, by go_num, by rw [HS2.out HU.out]; exact HRW.out, HBL.out⟩
          case measure => simp [intOf]; omega
    · have hke : k = l.length := by omega
      have hcv := conv_bytes (hrow.bsl HM.out)
      rw [mapTo_len] at hcv
      rw [hke, mapTo_all, HMM.out] at hcv
      have HBL := hide hbel
      clear hrow hbel hke
      go_wp2
      go_ret
      exact ⟨rfl, HBL.out⟩
end Go.Proofs.Ytbkcenpohcjgnaa
