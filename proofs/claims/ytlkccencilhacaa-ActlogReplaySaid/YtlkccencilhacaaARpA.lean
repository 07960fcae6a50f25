import Derived.Test.YtlkccencilhacaaARp9
import Derived.Test.YtlkccencilhacaaARing
namespace Go.Proofs.Ytlkccencilhacaa
open Go.RowKit Go.Sort
open Num
set_option linter.unusedVariables false
set_option linter.unusedSimpArgs false
set_option maxRecDepth 20000

def okZ (n : Int) : Bool := n == 128 || n == 256 || n == 512 || n == 1024
theorem okZ_iff {n : Int} : okZ n = true ↔ (n = 128 ∨ n = 256 ∨ n = 512 ∨ n = 1024) := by simp [okZ, or_assoc]
theorem okZ_lo {n : Int} (h : ¬ 128 ≤ n) : okZ n = false := by
  cases e : okZ n with
  | false => rfl
  | true => have := okZ_iff.1 e; omega
theorem okZ_hi {n : Int} (h : ¬ n ≤ 1024) : okZ n = false := by
  cases e : okZ n with
  | false => rfl
  | true => have := okZ_iff.1 e; omega
theorem powZ_all : ∀ m : Nat, m < 1025 → 128 ≤ m → (bits BinOp.and .i64 (m : Int) ((m : Int) - 1) == 0) = okZ m := by decide +kernel
theorem vsizeZ_any (w : World) (n : Int) : Calls Try.prog 54 #[.int .i64 n] w fun e w' => e = .returned (.bool (okZ n)) ∧ w' = w := by
  by_cases h1 : 128 ≤ n
  · by_cases h2 : n ≤ 1024
    · go_enter Try.func54, Try.ntmps54
      go_wp2_with fail
      go_ret
      refine ⟨?_, rfl⟩
      obtain ⟨m, rfl⟩ : ∃ m : Nat, n = m := ⟨n.toNat, by omega⟩
      have h := powZ_all m (by omega) (by omega)
      rw [← h]
      rfl
    · rw [okZ_hi h2]
      go_enter Try.func54, Try.ntmps54
      go_wp2_with fail
      go_ret
      exact ⟨rfl, rfl⟩
  · rw [okZ_lo h1]
    go_enter Try.func54, Try.ntmps54
    go_wp2_with fail
    go_ret
    exact ⟨rfl, rfl⟩
def putA (cs : Array Value) (o : Nat) : List Value → Array Value
  | [] => cs
  | v :: r => putA (cs.setIfInBounds o v) (o + 1) r
theorem setCells_heap (b : Nat) (t : TypeId) : ∀ (vs : List Value) (o : Nat) (w : World) (cs : Array Value), w.heap[b]? = some (.cells cs t (0, 0)) → (w.setCells b o vs).heap[b]? = some (.cells (putA cs o vs) t (0, 0))
  | [], o, w, cs, h => h
  | v :: r, o, w, cs, h => setCells_heap b t r (o + 1) _ _ (Go.heap_setCell_same w b o _ t v h)
theorem setCells_other (b k : Nat) (hk : k ≠ b) : ∀ (vs : List Value) (o : Nat) (w : World), (w.setCells b o vs).heap[k]? = w.heap[k]?
  | [], o, w => rfl
  | v :: r, o, w => (setCells_other b k hk r (o + 1) _).trans (Go.heap_setCell_other _ _ _ _ hk)
theorem setCells_size (b : Nat) : ∀ (vs : List Value) (o : Nat) (w : World), (w.setCells b o vs).heap.size = w.heap.size ∧ (w.setCells b o vs).os = w.os ∧ (w.setCells b o vs).tape = w.tape ∧ (w.setCells b o vs).output = w.output
  | [], o, w => ⟨rfl, rfl, rfl, rfl⟩
  | v :: r, o, w => by
    obtain ⟨h1, h2, h3, h4⟩ := setCells_size b r (o + 1) (w.setCell ⟨b, o, none⟩ v)
    exact ⟨h1.trans (World.size_setCell ..), h2, h3, h4⟩
theorem putA_get : ∀ (vs : List Value) (o : Nat) (cs : Array Value) (x : Nat), o + vs.length ≤ cs.size → (putA cs o vs)[x]? = if o ≤ x ∧ x < o + vs.length then vs[x - o]? else cs[x]?
  | [], o, cs, x, h => by simp [putA]; omega
  | v :: r, o, cs, x, h => by
    simp only [List.length_cons] at h
    rw [putA, putA_get r (o + 1) _ x (by simp; omega)]
    by_cases e : x = o
    · subst e
      rw [if_neg (by omega), if_pos (by simp), Array.getElem?_setIfInBounds_self_of_lt (by omega)]
      simp
    · rw [Array.getElem?_setIfInBounds_ne (fun h => e h.symm)]
      by_cases e2 : o + 1 ≤ x ∧ x < o + 1 + r.length
      · rw [if_pos e2, if_pos (by simp; omega), show x - o = (x - (o + 1)) + 1 by omega, List.getElem?_cons_succ]
      · rw [if_neg e2, if_neg (by simp; omega)]
theorem flatP_len : ∀ P : List (Option Rc), (P.flatMap plV).length = P.length * 12
  | [] => rfl
  | p :: P => by rw [List.flatMap_cons, List.length_append, flatP_len P, plV_len, List.length_cons]; omega
theorem putA_plc (P : List (Option Rc)) (i : Nat) (p : Option Rc) (hi : i < P.length) : putA (P.flatMap plV).toArray (i * 12) (plV p) = ((P.set i p).flatMap plV).toArray := by
  apply Array.ext_getElem?
  intro x
  rw [putA_get _ _ _ _ (by rw [plV_len]; simp only [List.size_toArray, flatP_len]; omega), plV_len]
  have hx : x = x / 12 * 12 + x % 12 := by omega
  by_cases hxl : x / 12 < P.length
  · have hs : (P.set i p)[x / 12]? = some (if x / 12 = i then p else P[x / 12]) := by
      rw [List.getElem?_set]
      by_cases e : i = x / 12
      · rw [if_pos e, if_pos hi, if_pos e.symm]
      · rw [if_neg e, if_neg (fun h => e h.symm), List.getElem?_eq_getElem hxl]
    have h1 := flatP_get (P.set i p) (x / 12) (x % 12) _ hs (by omega)
    have h2 := flatP_get P (x / 12) (x % 12) _ (List.getElem?_eq_getElem hxl) (by omega)
    rw [← hx] at h1 h2
    simp only [List.getElem?_toArray]
    rw [h1, h2]
    by_cases e : x / 12 = i
    · rw [if_pos (by omega), if_pos e, show x - i * 12 = x % 12 by omega]
    · rw [if_neg (by omega), if_neg e]
  · rw [if_neg (by omega)]
    simp only [List.getElem?_toArray]
    rw [List.getElem?_eq_none (by rw [flatP_len]; omega), List.getElem?_eq_none (by rw [flatP_len, List.length_set]; omega)]
/-- a ring's blocks as a list of lists -/
def RSl (w : World) (v : Value) (bs : List (List Nat)) : Prop := ∃ g off cap, v = .slice (some ⟨g, off, none⟩) bs.length cap ∧ bs.length ≤ cap ∧ cap ≤ maxLen ∧ ∀ i, i < bs.length → ∃ x, w.cell? ⟨g, off + i, none⟩ = some x ∧ BSl w x (bs.getD i [])
theorem run_plcs (n : Nat) (hn : n = 1 ∨ n = 2 ∨ n = 4) (w : World) : (Instr.makeSlice 84 (.int .i64 (n : Int)) (.int .i64 (n : Int))).run Try.prog w = .ok (.slice (some ⟨w.heap.size, 0, none⟩) n n) (w.alloc (.cells ((List.replicate n (none : Option Rc)).flatMap plV).toArray 135)) := by
  rcases hn with rfl | rfl | rfl <;> kernel_rfl
theorem validP_any (w : World) (l : List Nat) (slots ext : Nat) (h1 : 1 ≤ slots) (h2 : slots ≤ 16) (hb : ∀ b ∈ l, b < 256) :
    Calls Try.prog 66 #[.agg (recI (prs l)), .int .i64 (slots : Int), .int .i64 (ext : Int)] w (BoolP w ((prs l).Ok slots ext)) := by
  have ha : bvA l 8 2 < 65536 := by
    have h := bval_lt ((l.drop 8).take 2) (fun b hb' => hb b (List.mem_of_mem_drop (List.mem_of_mem_take hb'))) 0
    have h3 : ((l.drop 8).take 2).length ≤ 2 := by simp; omega
    have h4 : 256 ^ ((l.drop 8).take 2).length ≤ 256 ^ 2 := Nat.pow_le_pow_right (by decide) h3
    unfold bvA bval
    omega
  exact valid_any w _ _ _ _ _ _ _ _ _ _ _ slots ext h1 h2 ha
def RdP (w : World) (slots ext : Nat) (bs : List (List Nat)) (e : Ending) (w' : World) : Prop := ((∃ P, Places slots ext bs P ∧ HPl w' w.heap.size P ∧ e = .returned (.tuple #[.slice (some ⟨w.heap.size, 0, none⟩) bs.length bs.length, .bool true])) ∨ ((∃ i, i < bs.length ∧ ∀ p, ¬ plc slots ext bs.length (bs.getD 0 []).length i (bs.getD i []) p) ∧ e = .returned (.tuple #[.slice none 0 0, .bool false]))) ∧ Below w.heap.size w w'
/-- while the places are read -/
structure RpW (w wr : World) (slots ext : Nat) (bs : List (List Nat)) (P : List (Option Rc)) (i : Nat) : Prop where
  be : Below w.heap.size w wr
  pl : HPl wr w.heap.size P
  len : P.length = bs.length
  ok : ∀ j, j < i → plc slots ext bs.length (bs.getD 0 []).length j (bs.getD j []) (P.getD j none)
  no : ∀ j, i ≤ j → P.getD j none = none
theorem RpW.below {w x y : World} {slots ext : Nat} {bs : List (List Nat)} {P : List (Option Rc)} {i : Nat} (h : RpW w x slots ext bs P i) (hb : Below x.heap.size x y) : RpW w y slots ext bs P i :=
  ⟨h.be.trans (hb.mono h.be.size), h.pl.below hb (Array.getElem?_eq_some_iff.1 h.pl).1, h.len, h.ok, h.no⟩
theorem setD_same {P : List (Option Rc)} {i : Nat} {x : Option Rc} (h : i < P.length) : (P.set i x).getD i none = x := by simp [List.getD, h]
theorem setD_ne {P : List (Option Rc)} {i j : Nat} {x : Option Rc} (h : i ≠ j) : (P.set i x).getD j none = P.getD j none := by simp [List.getD, h]
theorem RpW.store {w x : World} {slots ext : Nat} {bs : List (List Nat)} {P : List (Option Rc)} {i : Nat} (h : RpW w x slots ext bs P i) (hi : i < bs.length) {r : Rc} (hp : plc slots ext bs.length (bs.getD 0 []).length i (bs.getD i []) (some r)) : RpW w (x.setCells w.heap.size (i * 12) (plV (some r))) slots ext bs (P.set i (some r)) (i + 1) := by
  have hl : i < P.length := by rw [h.len]; exact hi
  obtain ⟨z1, z2, z3, z4⟩ := setCells_size w.heap.size (plV (some r)) (i * 12) x
  refine ⟨h.be.trans ⟨z2, z3, z4, Nat.le_of_eq z1.symm, fun k hk => setCells_other _ _ (by omega) _ _ _⟩, ?_, by rw [List.length_set]; exact h.len, fun j hj => ?_, fun j hj => ?_⟩
  · unfold HPl
    rw [setCells_heap _ _ _ _ _ _ h.pl, putA_plc P i _ hl]
  · by_cases e : j = i
    · subst e
      rw [setD_same hl]
      exact hp
    · rw [setD_ne (fun h => e h.symm)]
      exact h.ok j (by omega)
  · rw [setD_ne (by omega)]
    exact h.no j (by omega)
theorem RpW.blank {w x : World} {slots ext : Nat} {bs : List (List Nat)} {P : List (Option Rc)} {i : Nat} (h : RpW w x slots ext bs P i) (hp : plc slots ext bs.length (bs.getD 0 []).length i (bs.getD i []) none) : RpW w x slots ext bs P (i + 1) := by
  refine ⟨h.be, h.pl, h.len, fun j hj => ?_, fun j hj => h.no j (by omega)⟩
  by_cases e : j = i
  · subst e; rw [h.no j (Nat.le_refl _)]; exact hp
  · exact h.ok j (by omega)
theorem RpW.there {w x : World} {slots ext : Nat} {bs : List (List Nat)} {P : List (Option Rc)} {i : Nat} (h : RpW w x slots ext bs P i) (hi : i < bs.length) : x.there w.heap.size (i * 12) 12 := fun j hj => by
  refine ⟨?_, frozen_of_row _ _ _ _ 135 h.pl⟩
  rw [cell_of_row _ _ _ _ _ _ h.pl]
  rw [Array.getElem?_eq_getElem (by simp only [List.size_toArray, flatP_len, h.len]; omega)]
  rfl
end Go.Proofs.Ytlkccencilhacaa
