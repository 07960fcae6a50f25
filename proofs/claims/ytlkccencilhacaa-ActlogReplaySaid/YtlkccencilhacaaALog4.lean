import Derived.Test.YtlkccencilhacaaALog3
namespace Go.Proofs.Ytlkccencilhacaa
open Go.RowKit Go.Sort
set_option linter.unusedVariables false
set_option linter.unusedSimpArgs false
set_option maxRecDepth 20000

def byV (n : Nat) : Value := .int .u8 (n : Int)
def byts (l : List Nat) : Array Value := (l.map byV).toArray
/-- a number's k lowest bytes, the highest first -/
def be (num : Nat) : Nat → List Nat
  | 0 => []
  | k + 1 => (num / 256 ^ k % 256) :: be num k
theorem be_len (num : Nat) : ∀ k, (be num k).length = k
  | 0 => rfl
  | k + 1 => by simp [be, be_len num k]
theorem be_lt (num : Nat) : ∀ k, ∀ x ∈ be num k, x < 256
  | 0, x, h => by simp [be] at h
  | k + 1, x, h => by
    rcases List.mem_cons.1 h with rfl | h
    · exact Nat.mod_lt _ (by decide)
    · exact be_lt num k x h
/-- the block when the k - m lowest bytes are laid -/
def putB (bs : List Nat) (off k num m : Nat) : List Nat := bs.take (off + m) ++ (be num (k - m) ++ bs.drop (off + k))
theorem putB_len {bs : List Nat} {off k num m : Nat} (hm : m ≤ k) (hk : off + k ≤ bs.length) : (putB bs off k num m).length = bs.length := by
  simp [putB, be_len]; omega
theorem putB_start {bs : List Nat} {off k num : Nat} : putB bs off k num k = bs := by simp [putB, be]
theorem putB_step {bs : List Nat} {off k num m : Nat} (hm : m + 1 ≤ k) (hk : off + k ≤ bs.length) : (putB bs off k num (m + 1)).set (off + m) (num / 256 ^ (k - (m + 1)) % 256) = putB bs off k num m := by
  unfold putB
  have h1 : (bs.take (off + (m + 1))).length = off + (m + 1) := by simp; omega
  rw [List.set_append_left _ _ (by rw [h1]; omega)]
  have h2 : bs.take (off + (m + 1)) = bs.take (off + m) ++ [bs[off + m]'(by omega)] := by
    rw [show off + (m + 1) = off + m + 1 by omega, List.take_succ_eq_append_getElem (by omega)]
  have h3 : (bs.take (off + m)).length = off + m := by simp; omega
  rw [h2, List.set_append_right _ _ (by rw [h3]; exact Nat.le_refl _), h3, Nat.sub_self, List.set_cons_zero, List.append_assoc]
  have h4 : be num (k - m) = (num / 256 ^ (k - (m + 1)) % 256) :: be num (k - (m + 1)) := by
    rw [show k - m = (k - (m + 1)) + 1 by omega]; rfl
  rw [h4]
  simp
theorem byts_set {bs : List Nat} {i x : Nat} : (byts bs).setIfInBounds i (byV x) = byts (bs.set i x) := by
  simp [byts, List.map_set]
/-- the walk of put -/
structure PuR (w wr : World) (g : Nat) (bs : List Nat) (off k num m : Nat) : Prop where
  row : wr.heap[g]? = some (.cells (byts (putB bs off k num m)) 5 (0, 0))
  ch : Chg (fun b => b = g) w wr
theorem PuR.step {w wr : World} {g : Nat} {bs : List Nat} {off k num m : Nat} (h : PuR w wr g bs off k num (m + 1)) (hm : m + 1 ≤ k) (hk : off + k ≤ bs.length) : (∃ v, wr.cell? ⟨g, off + m, none⟩ = some v) ∧ wr.frozen? ⟨g, off + m, none⟩ = false ∧ PuR w (wr.setCell ⟨g, off + m, none⟩ (byV (num / 256 ^ (k - (m + 1)) % 256))) g bs off k num m := by
  have hl := putB_len (num := num) hm hk
  refine ⟨⟨byV ((putB bs off k num (m + 1))[off + m]'(by omega)), ?_⟩, frozen_of_row _ _ _ _ 5 h.row, ⟨?_, h.ch.trans ⟨rfl, rfl, rfl, by rw [World.size_setCell]; exact Nat.le_refl _, fun b _ hn => Go.heap_setCell_other _ _ _ _ (by exact hn)⟩⟩⟩
  · rw [cell_of_row _ _ _ _ _ _ h.row]
    simp only [byts, List.getElem?_toArray, List.getElem?_map]
    rw [List.getElem?_eq_getElem (by omega)]
    rfl
  · rw [Go.heap_setCell_same wr g (off + m) _ 5 _ h.row, byts_set, putB_step hm hk]
set_option maxHeartbeats 1000000 in
theorem put_any {w : World} {g : Nat} {bs : List Nat} {off k cap num : Nat} (hr : w.heap[g]? = some (.cells (byts bs) 5 (0, 0))) (hk : off + k ≤ bs.length) (hk4 : k ≤ 4) (hc : k ≤ cap) (hc2 : cap ≤ maxLen) (hn : num < 4294967296) :
    Calls Try.prog 79 #[.slice (some ⟨g, off, none⟩) k cap, .int .u32 (num : Int)] w fun e w' => e = .returned (.tuple #[]) ∧ w'.heap[g]? = some (.cells (byts (bs.take off ++ (be num k ++ bs.drop (off + k)))) 5 (0, 0)) ∧ Chg (fun b => b = g) w w' := by
  have HT0 : Hid (PuR w w g bs off k num k) := hide ⟨by rw [putB_start]; exact hr, Chg.refl _ _⟩
  have HST : Hid (∀ wr m, PuR w wr g bs off k num (m + 1) → m + 1 ≤ k → _) := hide fun wr m (h : PuR w wr g bs off k num (m + 1)) (hm : m + 1 ≤ k) => h.step hm hk
  unfold maxLen at hc2
  clear hr hk
  go_enter Try.func79, Try.ntmps79
  go_wp2_with fail
  go_loopw [1, 4] (fun nv x wr => ∃ m : Nat, m ≤ k ∧ nv = .int .u32 ((num / 256 ^ (k - m) : Nat) : Int) ∧ x = .int .i64 ((m : Int) - 1) ∧ PuR w wr g bs off k num m) (fun _ x _ => (intOf x + 1).toNat)
  case atStart => exact ⟨k, Nat.le_refl _, by simp, by first | rfl | go_num, HT0.out⟩
  case round =>
    clear HT0
    obtain ⟨m, hmk, rfl, rfl, hpr⟩ := hrel
    cases m with
    | zero =>
      have HF : Hid (wr.heap[g]? = some (.cells (byts (bs.take off ++ (be num k ++ bs.drop (off + k)))) 5 (0, 0)) ∧ Chg (fun b => b = g) w wr) := hide ⟨hpr.row, hpr.ch⟩
      clear hpr HST
      go_wp2_with fail
      go_end0
      exact ⟨rfl, HF.out.1, HF.out.2⟩
    | succ m =>
      obtain ⟨⟨v, c1⟩, c2, c3⟩ := HST.out wr m hpr hmk
      have HN := hide c3
      have hnx : num / 256 ^ (k - m) = num / 256 ^ (k - (m + 1)) / 256 := by
        rw [Nat.div_div_eq_div_mul, ← Nat.pow_succ]
        congr 2
        omega
      have hlt : num / 256 ^ (k - (m + 1)) < 4294967296 := Nat.lt_of_le_of_lt (Nat.div_le_self _ _) hn
      have HNX := hide hnx
      clear hnx c3 hpr HST
      generalize num / 256 ^ (k - (m + 1)) = nn at *
      have e1 : (((m + 1 : Nat) : Int) - 1) = (m : Int) := by omega
      rw [e1]
      go_wp2_with fail
      go_roundw
      case rel =>
        refine ⟨m, by omega, ?_, rfl, ?_⟩
        · rw [HNX.out]; go_num
        · have e : byV (nn % 256) = .int .u8 ((nn : Int) % 256) := by unfold byV; congr 1
          rw [← e]; exact HN.out
      case measure => simp [intOf]
end Go.Proofs.Ytlkccencilhacaa
