import Derived.Test.YtlkccencilhacaaARpA
import Derived.Test.YtlkccencilhacaaACrc
import Derived.Test.YtlkccencilhacaaARp2
import Derived.Test.YtlkccencilhacaaARp9
import Derived.Test.YtlkccencilhacaaARing
namespace Go.Proofs.Ytlkccencilhacaa
open Go.RowKit Go.Sort
open Num
set_option linter.unusedVariables false
set_option linter.unusedSimpArgs false
set_option maxRecDepth 20000

theorem or_nat (a b : Nat) (ha : a < 4611686018427387904) (hb : b < 4611686018427387904) : bits .or .i64 (a : Int) (b : Int) = ((a ||| b : Nat) : Int) := by
  have e : ∀ x : Nat, x < 4611686018427387904 → (BitVec.ofInt 64 (x : Int)).toNat = x := fun x hx => by
    rw [BitVec.toNat_ofInt]
    omega
  have key : (BitVec.ofInt 64 (a : Int) ||| BitVec.ofInt 64 (b : Int)).toNat = a ||| b := by rw [BitVec.toNat_or, e a ha, e b hb]
  show IntKind.i64.wrap ((BitVec.ofInt 64 (a : Int) ||| BitVec.ofInt 64 (b : Int)).toNat : Nat) = _
  have hl : a ||| b < 2 ^ 62 := Nat.or_lt_two_pow (by exact ha) (by exact hb)
  rw [key, IntKind.wrap_i64]
  have : (2 : Nat) ^ 62 = 4611686018427387904 := by decide
  omega
theorem shl_orI {v x : Nat} (hv : v < 16777216) (hx : x < 256) : bits BinOp.or IntKind.i64 ((v : Int) * 256) (x : Int) = ((v * 256 + x : Nat) : Int) := by
  have h := or_nat (v * 256) x (by omega) (by omega)
  have e : v * 256 ||| x = v * 256 + x := by
    rw [show v * 256 = 2 ^ 8 * v by omega, ← Nat.two_pow_add_eq_or_of_lt (show x < 2 ^ 8 by omega)]
  rw [e] at h
  have e2 : (((v * 256 : Nat)) : Int) = (v : Int) * 256 := by omega
  rw [e2] at h
  exact h
theorem rblank_any (v : Value) (l : List Nat) (w : World) (hv : BSl w v l) :
    Calls Try.prog 94 #[v] w fun e w' => e = .returned (.bool (decide (∀ b ∈ l, b = 0))) ∧ w' = w := by
  obtain ⟨a, cap, rfl, hl1, hm, hn, hb, hcell⟩ := hv
  unfold maxLen at hm
  have HB := hide hb
  have HC := hide hcell
  clear hb hcell hn
  go_enter Try.func94, Try.ntmps94
  go_wp2_with fail
  go_loop [3] (fun i => ∃ k : Nat, k ≤ l.length ∧ i = .int .i64 k ∧ ∀ b ∈ l.take k, b = 0) (fun i => l.length - (intOf i).toNat)
  case atStart => exact ⟨0, Nat.zero_le _, rfl, fun b hb => by simp at hb⟩
  case round =>
    obtain ⟨k, hk, rfl, hz⟩ := hrel
    have HZ := hide hz
    clear hz
    by_cases hlt : k < l.length
    · have HS : Hid (l.getD k 0 = 0 → ∀ b ∈ l.take (k + 1), b = 0) := hide (fun e b hb => by
        rw [take_snoc l 0 k hlt] at hb
        rcases List.mem_append.1 hb with h | h
        · exact HZ.out b h
        · rw [List.mem_singleton.1 h, e])
      have HM : Hid (l.getD k 0 ∈ l) := hide (mem_getD hlt)
      obtain ⟨b, off, rfl, hcell⟩ := HC.out (by omega)
      have hck := hcell k hlt
      clear hcell HC
      generalize l.getD k 0 = x at *
      by_cases hx : x = 0
      · subst hx
        go_wp2
        go_round
        case rel => exact ⟨k + 1, by omega, by go_num, HS.out rfl⟩
        case measure => simp [intOf]; omega
      · have hx2 : ¬ (x : Int) = 0 := by omega
        go_wp2
        go_ret
        refine ⟨?_, rfl⟩
        rw [decide_eq_false (fun h => hx (h x HM.out))]; rfl
    · have HE : Hid (∀ b ∈ l, b = 0) := by have := HZ.out; rw [List.take_of_length_le (by omega)] at this; exact hide this
      go_wp2
      go_ret
      exact ⟨by rw [decide_eq_true HE.out]; rfl, rfl⟩
theorem bvA_snoc (l : List Nat) (i k : Nat) (h : i + k < l.length) : bvA l i (k + 1) = bvA l i k * 256 + l.getD (i + k) 0 := by
  unfold bvA
  have e : (l.drop i).take (k + 1) = (l.drop i).take k ++ [l.getD (i + k) 0] := by
    have hk : k < (l.drop i).length := by simp; omega
    rw [List.take_add_one, List.getElem?_drop, List.getElem?_eq_getElem h]
    simp [List.getD, h]
  rw [e, bval_snoc]
theorem bvA_lt3 (l : List Nat) (hb : ∀ b ∈ l, b < 256) (i k : Nat) (hk : k ≤ 3) : bvA l i k < 16777216 := by
  have h := bval_lt ((l.drop i).take k) (fun b h => hb b (List.mem_of_mem_drop (List.mem_of_mem_take h))) 0
  have h2 : 256 ^ ((l.drop i).take k).length ≤ 256 ^ 3 := Nat.pow_le_pow_right (by decide) (by simp; omega)
  unfold bvA bval
  omega
theorem bvA_lt4 (l : List Nat) (hb : ∀ b ∈ l, b < 256) (i k : Nat) (hk : k ≤ 4) : bvA l i k < 4294967296 := by
  have h := bval_lt ((l.drop i).take k) (fun b h => hb b (List.mem_of_mem_drop (List.mem_of_mem_take h))) 0
  have h2 : 256 ^ ((l.drop i).take k).length ≤ 256 ^ 4 := Nat.pow_le_pow_right (by decide) (by simp; omega)
  unfold bvA bval
  omega
set_option maxHeartbeats 1000000 in
theorem rget_any (v : Value) (l : List Nat) (w : World) (hv : BSl w v l) (at_ n : Nat) (hn : n ≤ 4) (hat : at_ + n ≤ l.length) (hl : l.length ≤ 65536) :
    Calls Try.prog 95 #[v, .int .i64 (at_ : Int), .int .i64 (n : Int)] w fun e w' => e = .returned (.int .i64 (bvA l at_ n : Nat)) ∧ w' = w := by
  obtain ⟨a, cap, rfl, hl1, hm, hn', hb, hcell⟩ := hv
  unfold maxLen at hm
  have HB := hide hb
  have HC := hide hcell
  clear hb hcell hn'
  go_enter Try.func95, Try.ntmps95
  go_wp2_with fail
  go_loop [7, 8] (fun x i => ∃ k : Nat, k ≤ n ∧ i = .int .i64 k ∧ x = .int .i64 (bvA l at_ k : Nat)) (fun _ i => n - (intOf i).toNat)
  case atStart => exact ⟨0, Nat.zero_le _, rfl, by simp [bvA, bval]⟩
  case round =>
    obtain ⟨k, hk, rfl, rfl⟩ := hrel
    by_cases hlt : k < n
    · have HS := hide (bvA_snoc l at_ k (by omega))
      have hx3 := bvA_lt3 l HB.out at_ k (by omega)
      have hy : l.getD (at_ + k) 0 < 256 := HB.out _ (mem_getD (by omega))
      obtain ⟨b, off, rfl, hcell⟩ := HC.out (by omega)
      have hck := hcell (at_ + k) (by omega)
      clear hcell HC
      have hor := shl_orI hx3 hy
      generalize bvA l at_ k = x at *
      generalize l.getD (at_ + k) 0 = y at *
      have hi1 : ¬ (l.length : Int) ≤ (at_ : Int) + (k : Int) := by omega
      have hi2 : (at_ : Int) + (k : Int) < (l.length : Int) := by omega
      go_wp2
      go_round
      case rel => exact ⟨k + 1, by omega, by go_num, by rw [HS.out, ← hor]; first | rfl | go_num⟩
      case measure => simp [intOf]; omega
    · have ek : k = n := by omega
      subst ek
      go_wp2
      go_ret
      exact ⟨rfl, rfl⟩
def extR (x ext : Nat) : Int := if x = 4294967295 then -1 else if ext ≤ x then -2 else (x : Int)
theorem rextent_any (w : World) (x ext : Nat) (hx : x < 4294967296) (he : ext ≤ 1024) : Calls Try.prog 96 #[.int .i64 (x : Int), .int .i64 (ext : Int)] w fun e w' => e = .returned (.int .i64 (extR x ext)) ∧ w' = w := by
  by_cases h1 : x = 4294967295
  · have e : extR x ext = -1 := if_pos h1
    rw [e]
    subst h1
    go_enter Try.func96, Try.ntmps96
    go_wp2
    go_ret
    exact ⟨rfl, rfl⟩
  · have hne : ¬ (x : Int) = 4294967295 := by omega
    by_cases h2 : ext ≤ x
    · have e : extR x ext = -2 := by unfold extR; rw [if_neg h1, if_pos h2]
      rw [e]
      go_enter Try.func96, Try.ntmps96
      go_wp2
      go_ret
      exact ⟨rfl, rfl⟩
    · have e : extR x ext = (x : Int) := by unfold extR; rw [if_neg h1, if_neg h2]
      rw [e]
      have h3 : ¬ (ext : Int) ≤ (x : Int) := by omega
      go_enter Try.func96, Try.ntmps96
      go_wp2
      go_ret
      exact ⟨rfl, rfl⟩
end Go.Proofs.Ytlkccencilhacaa
namespace Go.Proofs.Ytlkccencilhacaa
open Num
set_option linter.unusedVariables false
set_option linter.unusedSimpArgs false
set_option maxRecDepth 20000

/-- the slots as the document's read lays them, after j of the context; -3: nothing yet -/
def zS (slots c0 : Nat) (c1 : Int) (st : Nat) (C : Nat → Int) : Nat → List Int
  | 0 => (List.replicate slots (-3)).set c0 c1
  | j + 1 => (zS slots c0 c1 st C j).set ((st + j) % slots) (C j)
theorem zS_len (slots c0 : Nat) (c1 : Int) (st : Nat) (C : Nat → Int) : ∀ j, (zS slots c0 c1 st C j).length = slots
  | 0 => by simp [zS]
  | j + 1 => by simp [zS, zS_len slots c0 c1 st C j]
/-- may the context's j-th stand? -/
def zOk (slots c0 : Nat) (c1 : Int) (st : Nat) (C : Nat → Int) (j : Nat) : Prop := C j ≠ -2 ∧ ((zS slots c0 c1 st C j).getD ((st + j) % slots) 0 = -3 ∨ (zS slots c0 c1 st C j).getD ((st + j) % slots) 0 = C j)
theorem zS_R {slots c0 : Nat} {c1 : Int} {st : Nat} {C : Nat → Int} {R : List Int} (hR : R.length = slots) (h1 : 1 ≤ slots) (hc : R.getD c0 0 = c1) (hC : ∀ j, j < 4 → C j = R.getD ((st + j) % slots) 0) : ∀ j, j ≤ 4 → ∀ s, s < slots → (zS slots c0 c1 st C j).getD s 0 = -3 ∨ (zS slots c0 c1 st C j).getD s 0 = R.getD s 0
  | 0, _, s, hs => by
    unfold zS
    rw [getDS]
    by_cases e : c0 = s ∧ s < (List.replicate slots (-3 : Int)).length
    · rw [if_pos e, ← hc, e.1]; exact .inr rfl
    · rw [if_neg e]; left; simp [List.getD, hs]
  | j + 1, hj, s, hs => by
    unfold zS
    rw [getDS, zS_len]
    by_cases e : (st + j) % slots = s ∧ s < slots
    · rw [if_pos e, hC j (by omega), e.1]; exact .inr rfl
    · rw [if_neg e]; exact zS_R hR h1 hc hC j (by omega) s hs
theorem zOk_of {slots c0 : Nat} {c1 : Int} {st : Nat} {C : Nat → Int} {R : List Int} (hR : R.length = slots) (h1 : 1 ≤ slots) (hc : R.getD c0 0 = c1) (hC : ∀ j, j < 4 → C j = R.getD ((st + j) % slots) 0) (h2 : ∀ j, j < 4 → C j ≠ -2) : ∀ j, j < 4 → zOk slots c0 c1 st C j := fun j hj => by
  refine ⟨h2 j hj, ?_⟩
  rw [hC j hj]
  exact zS_R hR h1 hc hC j (by omega) _ (Nat.mod_lt _ (by omega))
theorem zS_keep {slots c0 : Nat} {c1 : Int} {st : Nat} {C : Nat → Int} (hp : ∀ j, j < 4 → zOk slots c0 c1 st C j) {j : Nat} {s : Nat} (hn : (zS slots c0 c1 st C j).getD s 0 ≠ -3) : ∀ d, j + d ≤ 4 → (zS slots c0 c1 st C (j + d)).getD s 0 = (zS slots c0 c1 st C j).getD s 0
  | 0, _ => rfl
  | d + 1, hd => by
    have ih := zS_keep hp hn d (by omega)
    rw [show zS slots c0 c1 st C (j + (d + 1)) = (zS slots c0 c1 st C (j + d)).set ((st + (j + d)) % slots) (C (j + d)) from rfl, getDS, zS_len]
    by_cases e : (st + (j + d)) % slots = s ∧ s < slots
    · rw [if_pos e]
      rcases (hp (j + d) (by omega)).2 with h | h
      · rw [e.1, ih] at h; exact absurd h hn
      · rw [← h, e.1, ih]
    · rw [if_neg e, ih]
theorem zOk_R {slots c0 : Nat} {c1 : Int} {st : Nat} {C : Nat → Int} (h1 : 1 ≤ slots) (h0 : c0 < slots) (hc1 : c1 ≠ -3) (hC3 : ∀ j, j < 4 → C j ≠ -3) (hp : ∀ j, j < 4 → zOk slots c0 c1 st C j) : (zS slots c0 c1 st C 4).getD c0 0 = c1 ∧ ∀ j, j < 4 → (zS slots c0 c1 st C 4).getD ((st + j) % slots) 0 = C j := by
  refine ⟨?_, fun j hj => ?_⟩
  · have e0 : (zS slots c0 c1 st C 0).getD c0 0 = c1 := by unfold zS; rw [getDS, if_pos ⟨rfl, by simpa using h0⟩]
    have := zS_keep hp (j := 0) (s := c0) (by rw [e0]; exact hc1) 4 (by omega)
    rw [Nat.zero_add] at this
    rw [this, e0]
  · have hm : (st + j) % slots < slots := Nat.mod_lt _ (by omega)
    have e0 : (zS slots c0 c1 st C (j + 1)).getD ((st + j) % slots) 0 = C j := by unfold zS; rw [getDS, if_pos ⟨rfl, by rw [zS_len]; exact hm⟩]
    have := zS_keep hp (j := j + 1) (s := (st + j) % slots) (by rw [e0]; exact hC3 j hj) (4 - (j + 1)) (by omega)
    rw [show j + 1 + (4 - (j + 1)) = 4 by omega] at this
    rw [this, e0]
/-- what the document's read asks of bytes that are not all zero -/
structure rOk (l : List Nat) (slots ext : Nat) : Prop where
  let_ : l.take 4 = [97, 99, 116, 108]
  sl : bvA l 10 2 = slots
  c0 : bvA l 12 4 < slots
  st : bvA l 24 4 < slots
  c1 : 0 ≤ extR (bvA l 16 4) ext
  o2 : extR (bvA l 20 4) ext ≠ -2
  ne : extR (bvA l 20 4) ext ≠ extR (bvA l 16 4) ext
  cx : ∀ j, j < 4 → zOk slots (bvA l 12 4) (extR (bvA l 16 4) ext) (bvA l 24 4) (fun j => extR (bvA l (28 + 4 * j) 4) ext) j
  ag : bvA l 8 2 < 65535 → bvA l 24 4 = 4 * bvA l 8 2 % slots
  bl : ∀ b ∈ (l.drop 44).take (l.length - 48), b = 0
  cr : bvA l (l.length - 4) 4 = crcM 0 (l.take (l.length - 4))
theorem extR_ok {x ext : Nat} (hx : x < 4294967296) (he : ext ≤ 1024) (h : extR x ext ≠ -2) : sgI x = extR x ext ∧ -1 ≤ sgI x ∧ sgI x < (ext : Int) ∨ ext = 0 := by
  unfold extR at h ⊢
  unfold sgI
  split at h
  · rename_i e; subst e; left; simp; omega
  · split at h
    · exact absurd rfl h
    · rename_i e1 e2
      left
      rw [if_neg e1, if_neg e2, if_pos (by omega)]
      omega
theorem extR_of {x ext : Nat} (hx : x < 4294967296) (he : ext ≤ 1024) (h1 : -1 ≤ sgI x) (h2 : sgI x < (ext : Int)) : extR x ext = sgI x := by
  unfold extR
  unfold sgI at h1 h2 ⊢
  split
  · rename_i e; subst e; simp
  · rename_i e
    split at h1
    · rename_i e2
      rw [if_pos e2] at h2
      rw [if_neg (by omega)]; simp [e2]
    · omega
theorem extR_ge (x ext : Nat) : -2 ≤ extR x ext := by
  unfold extR
  split
  · omega
  · split <;> omega
end Go.Proofs.Ytlkccencilhacaa
namespace Go.Proofs.Ytlkccencilhacaa
open Num
set_option linter.unusedVariables false
set_option linter.unusedSimpArgs false
set_option maxRecDepth 20000

theorem seg_be (l : List Nat) (hb : ∀ b ∈ l, b < 256) (i k : Nat) (h : i + k ≤ l.length) : be (bvA l i k) k = (l.drop i).take k := by
  have hm : ((l.drop i).take k).length = k := by simp; omega
  have := be_bval ((l.drop i).take k) (fun b h => hb b (List.mem_of_mem_drop (List.mem_of_mem_take h))) 0
  rw [hm] at this
  exact this
theorem take_seg (l : List Nat) (i k : Nat) : l.take (i + k) = l.take i ++ (l.drop i).take k := List.take_add
theorem mid_take {l : List Nat} (hl : 48 ≤ l.length) (hb : ∀ b ∈ l, b < 256) (h4 : l.take 4 = [97, 99, 116, 108]) : (prs l).mid = l.take 44 := by
  have w : ∀ i, u32N (sgI (bvA l i 4)) = bvA l i 4 := fun i => u32N_sgI _ (bvA_lt4 l hb i 4 (by omega))
  have e : l.take 44 = [97, 99, 116, 108] ++ (l.drop 4).take 4 ++ (l.drop 8).take 2 ++ (l.drop 10).take 2 ++ (l.drop 12).take 4 ++ (l.drop 16).take 4 ++ (l.drop 20).take 4 ++ (l.drop 24).take 4 ++ (l.drop 28).take 4 ++ (l.drop 32).take 4 ++ (l.drop 36).take 4 ++ (l.drop 40).take 4 := by
    rw [take_seg l 40 4, take_seg l 36 4, take_seg l 32 4, take_seg l 28 4, take_seg l 24 4, take_seg l 20 4, take_seg l 16 4, take_seg l 12 4, take_seg l 10 2, take_seg l 8 2, take_seg l 4 4, h4]
  rw [e]
  unfold Rc.mid prs
  simp only [List.getD_cons_zero, List.getD_cons_succ, w]
  rw [seg_be l hb 4 4 (by omega), seg_be l hb 8 2 (by omega), seg_be l hb 10 2 (by omega), seg_be l hb 12 4 (by omega), seg_be l hb 16 4 (by omega), seg_be l hb 20 4 (by omega), seg_be l hb 24 4 (by omega), seg_be l hb 28 4 (by omega), seg_be l hb 32 4 (by omega), seg_be l hb 36 4 (by omega), seg_be l hb 40 4 (by omega)]
theorem mid_len (r : Rc) : r.mid.length = 44 := by simp [Rc.mid, be_len]
theorem head_lenQ (r : Rc) (size : Nat) (h : 48 ≤ size) : (r.head size).length = size - 4 := by simp [Rc.head, Rc.mid, be_len]; omega
theorem zeros_eq {m : List Nat} (h : ∀ b ∈ m, b = 0) : m = List.replicate m.length 0 := List.eq_replicate_iff.2 ⟨rfl, h⟩
theorem read_bytes {l : List Nat} (hl : 48 ≤ l.length) (hb : ∀ b ∈ l, b < 256) : (prs l).bytes l.length = l ↔ l.take 4 = [97, 99, 116, 108] ∧ (∀ b ∈ (l.drop 44).take (l.length - 48), b = 0) ∧ bvA l (l.length - 4) 4 = crcM 0 (l.take (l.length - 4)) := by
  have hcl : ∀ m : List Nat, (∀ b ∈ m, b < 256) → crcM 0 m < 256 ^ 4 := fun m hm => crcM_lt m (by omega) hm
  constructor
  · intro h
    have hm := mid_len (prs l)
    have hh := head_lenQ (prs l) l.length hl
    have e : l = (prs l).head l.length ++ be (crcM 0 ((prs l).head l.length)) 4 := h.symm
    have t1 : l.take (l.length - 4) = (prs l).head l.length := by
      have this : l.take (l.length - 4) = ((prs l).head l.length ++ be (crcM 0 ((prs l).head l.length)) 4).take (l.length - 4) := congrArg (fun x => x.take (l.length - 4)) e
      rw [this, List.take_append_of_le_length (by omega), List.take_of_length_le (by omega)]
    have t2 : l.drop (l.length - 4) = be (crcM 0 ((prs l).head l.length)) 4 := by
      have this : l.drop (l.length - 4) = ((prs l).head l.length ++ be (crcM 0 ((prs l).head l.length)) 4).drop (l.length - 4) := congrArg (fun x => x.drop (l.length - 4)) e
      rw [this, List.drop_append_of_le_length (by omega), List.drop_of_length_le (by omega), List.nil_append]
    have t3 : (l.take (l.length - 4)).take 44 = (prs l).mid := by
      rw [t1]
      unfold Rc.head
      rw [List.take_append_of_le_length (by omega), List.take_of_length_le (by omega)]
    have t4 : (l.take (l.length - 4)).drop 44 = List.replicate (l.length - 48) 0 := by
      rw [t1]
      unfold Rc.head
      rw [List.drop_append_of_le_length (by omega), List.drop_of_length_le (by omega), List.nil_append]
    refine ⟨?_, ?_, ?_⟩
    · have : l.take 4 = ((l.take (l.length - 4)).take 44).take 4 := by rw [List.take_take, List.take_take]; congr 1 <;> omega
      rw [this, t3]
      simp [Rc.mid]
    · have : (l.drop 44).take (l.length - 48) = (l.take (l.length - 4)).drop 44 := by rw [List.drop_take]; congr 1 <;> omega
      rw [this, t4]
      intro b hb'
      exact List.eq_of_mem_replicate hb'
    · unfold bvA
      rw [t2, List.take_of_length_le (by rw [be_len]; omega), bval_be0 4 _ (hcl _ (by rw [← t1]; exact fun b hb' => hb b (List.mem_of_mem_take hb'))), t1]
  · rintro ⟨h4, hz, hc⟩
    have hm := mid_take hl hb h4
    have t1 : (prs l).head l.length = l.take (l.length - 4) := by
      unfold Rc.head
      rw [hm, show l.length - 4 = 44 + (l.length - 48) by omega, take_seg l 44]
      congr 1
      have := zeros_eq hz
      rw [this]
      congr 1
      simp
      omega
    unfold Rc.bytes
    have t2 : (l.drop (l.length - 4)).take 4 = l.drop (l.length - 4) := List.take_of_length_le (by rw [List.length_drop]; omega)
    rw [t1, ← hc, seg_be l hb _ 4 (by omega), t2, List.take_append_drop]
theorem read_eq {l : List Nat} {slots ext : Nat} (hl : 48 ≤ l.length) (hb : ∀ b ∈ l, b < 256) (h1 : 1 ≤ slots) (h2 : slots ≤ 16) (he1 : 1 ≤ ext) (he : ext ≤ 1024) : rOk l slots ext ↔ (prs l).bytes l.length = l ∧ (prs l).Ok slots ext := by
  have x4 : ∀ i, bvA l i 4 < 4294967296 := fun i => bvA_lt4 l hb i 4 (by omega)
  have sg : ∀ x, x < 16 → sgI x = (x : Int) := fun x hx => by unfold sgI; rw [if_pos (by omega)]
  have sgr : ∀ x, x < 4294967296 → 0 ≤ sgI x → sgI x < (slots : Int) → x < slots ∧ sgI x = (x : Int) := fun x hx q1 q2 => by
    unfold sgI at q1 q2 ⊢
    split at q1
    · rename_i e; rw [if_pos e] at q2 ⊢; omega
    · omega
  have ek : ∀ x, x < 4294967296 → extR x ext ≠ -2 → sgI x = extR x ext ∧ -1 ≤ sgI x ∧ sgI x < (ext : Int) := fun x hx h => by
    rcases extR_ok hx he h with h | h
    · exact h
    · omega
  have hcx : ∀ j, j < 4 → (prs l).C.getD j 0 = sgI (bvA l (28 + 4 * j) 4) := fun j hj => by
    rcases (show j = 0 ∨ j = 1 ∨ j = 2 ∨ j = 3 by omega) with rfl | rfl | rfl | rfl <;> rfl
  rw [read_bytes hl hb]
  constructor
  · intro h
    have c1 := ek _ (x4 16) (by have := h.c1; omega)
    have c2 := ek _ (x4 20) h.o2
    have hc := fun j hj => ek _ (x4 (28 + 4 * j)) (h.cx j hj).1
    have s0 : sgI (bvA l 12 4) = (bvA l 12 4 : Int) := sg _ (by have := h.c0; omega)
    have s1 : sgI (bvA l 24 4) = (bvA l 24 4 : Int) := sg _ (by have := h.st; omega)
    refine ⟨⟨h.let_, h.bl, h.cr⟩, ?_⟩
    obtain ⟨z1, z2⟩ := zOk_R h1 h.c0 (by have := h.c1; omega) (fun j hj => by have := extR_ge (bvA l (28 + 4 * j) 4) ext; omega) h.cx
    refine ⟨h.sl, ?_, ?_, ?_, ?_, ?_, fun i hi => ?_, ?_, ?_, ?_, ?_, ?_, ?_⟩
    · show 0 ≤ sgI (bvA l 12 4); omega
    · show sgI (bvA l 12 4) < (slots : Int); have := h.c0; omega
    · show 0 ≤ sgI (bvA l 24 4); omega
    · show sgI (bvA l 24 4) < (slots : Int); have := h.st; omega
    · show bvA l 8 2 = 65535 ∨ sgI (bvA l 24 4) = ((bvA l 8 2 * 4 % slots : Nat) : Int)
      by_cases e : bvA l 8 2 < 65535
      · right
        rw [s1, h.ag e, Nat.mul_comm]
      · left
        have h3 : bvA l 8 2 < 65536 := by
          have h := bval_lt ((l.drop 8).take 2) (fun b h => hb b (List.mem_of_mem_drop (List.mem_of_mem_take h))) 0
          have h2 : 256 ^ ((l.drop 8).take 2).length ≤ 256 ^ 2 := Nat.pow_le_pow_right (by decide) (by simp; omega)
          unfold bvA bval
          omega
        omega
    · rw [hcx i hi]; have := hc i hi; omega
    · show 0 ≤ sgI (bvA l 16 4); have := h.c1; omega
    · exact c1.2.2
    · exact c2.2.1
    · exact c2.2.2
    · show sgI (bvA l 20 4) ≠ sgI (bvA l 16 4)
      rw [c1.1, c2.1]; exact h.ne
    · refine agrees (R := zS slots (bvA l 12 4) (extR (bvA l 16 4) ext) (bvA l 24 4) (fun j => extR (bvA l (28 + 4 * j) 4) ext) 4) (zS_len _ _ _ _ _ _) h1 (st := bvA l 24 4) s1 ?_ ?_ ?_
      · have hC : (prs l).C = (List.range 4).map fun j => sgI (bvA l (28 + 4 * j) 4) := rfl
        rw [hC]
        unfold ctxL
        refine List.map_congr_left fun j hj => ?_
        have hj := List.mem_range.1 hj
        rw [zS_len, z2 j hj]
        exact (hc j hj).1
      · show (sgI (bvA l 12 4)).toNat < slots
        rw [s0]; simpa using h.c0
      · show (zS _ _ _ _ _ _).getD (sgI (bvA l 12 4)).toNat 0 = sgI (bvA l 16 4)
        rw [s0, Int.toNat_natCast, z1, c1.1]
  · rintro ⟨⟨q1, q2, q3⟩, h⟩
    have a0 : 0 ≤ sgI (bvA l 12 4) := h.a0
    have a1 : sgI (bvA l 12 4) < (slots : Int) := h.a1
    have b0 : 0 ≤ sgI (bvA l 24 4) := h.s0
    have b1 : sgI (bvA l 24 4) < (slots : Int) := h.s1
    have e0 : 0 ≤ sgI (bvA l 16 4) := h.e0
    have e1 : sgI (bvA l 16 4) < (ext : Int) := h.e1
    have o0 : -1 ≤ sgI (bvA l 20 4) := h.o0
    have o1 : sgI (bvA l 20 4) < (ext : Int) := h.o1
    have ne : sgI (bvA l 20 4) ≠ sgI (bvA l 16 4) := h.ne
    obtain ⟨s0, s0'⟩ := sgr _ (x4 12) a0 a1
    obtain ⟨s1, s1'⟩ := sgr _ (x4 24) b0 b1
    have f1 := extR_of (x4 16) he (by omega) e1
    have f2 := extR_of (x4 20) he o0 o1
    have hcr : ∀ i, i < 4 → -1 ≤ sgI (bvA l (28 + 4 * i) 4) ∧ sgI (bvA l (28 + 4 * i) 4) < (ext : Int) := fun i hi => by
      have := h.cx i hi
      rwa [hcx i hi] at this
    have fc := fun j hj => extR_of (x4 (28 + 4 * j)) he (hcr j hj).1 (hcr j hj).2
    have hag : bvA l 8 2 = 65535 ∨ sgI (bvA l 24 4) = ((bvA l 8 2 * 4 % slots : Nat) : Int) := h.ag
    have hca := h.ca
    have hRl : (layR (prs l) (List.replicate slots (-1))).length = slots := by rw [layR_len, List.length_replicate]
    refine ⟨q1, h.sl, s0, s1, by omega, by omega, by omega, ?_, fun hlt => ?_, q2, q3⟩
    · refine zOk_of hRl h1 ?_ (fun j hj => ?_) (fun j hj => by rw [fc j hj]; have := hcr j hj; omega)
      · unfold layR
        have hc0 : (prs l).c0.toNat = bvA l 12 4 := by show (sgI (bvA l 12 4)).toNat = _; rw [s0', Int.toNat_natCast]
        rw [hc0, getDS, if_pos ⟨rfl, by rw [ctxS_len, List.length_replicate]; exact s0⟩, f1]
        rfl
      · rw [fc j hj, ← hcx j hj, ← hca, ctxL_get _ _ _ hj, hRl]
        have : (prs l).st.toNat = bvA l 24 4 := by show (sgI (bvA l 24 4)).toNat = _; rw [s1', Int.toNat_natCast]
        rw [this]
    · rcases hag with h9 | h9
      · omega
      · rw [s1'] at h9
        rw [Nat.mul_comm]
        omega
end Go.Proofs.Ytlkccencilhacaa
namespace Go.Proofs.Ytlkccencilhacaa
open Go.RowKit
open Num
set_option linter.unusedVariables false

set_option maxHeartbeats 1000000 in
theorem refCrcMore_any (c : Nat) (hc : c < 4294967296) (v : Value) (l : List Nat) (w : World) (hv : BSl w v l) :
    Calls Try.prog 103 #[.int .u32 (c : Int), v] w fun e w' => e = .returned (.int .u32 (crcM c l : Nat)) ∧ w' = w := by
  obtain ⟨a, cap, rfl, hl, hm, hn, hb, hcell⟩ := hv
  unfold maxLen at hm
  have HB : Hid (∀ b ∈ l, b < 256) := hb
  clear hb hn
  have HC : Hid (0 < l.length → ∃ b off, a = some ⟨b, off, none⟩ ∧ ∀ i, i < l.length → w.cell? ⟨b, off + i, none⟩ = some (.int .u8 (l.getD i 0 : Nat))) := hcell
  clear hcell
  have HN := xor_ones_u32 hc
  go_enter Try.func103, Try.ntmps103
  go_wp2
  clear HN
  go_loop [5, 6] (fun t i => ∃ k : Nat, k ≤ l.length ∧ i = .int .i64 k ∧ t = .int .u32 (crcL (c ^^^ 4294967295) (l.take k) : Nat)) (fun _ i => l.length - (intOf i).toNat)
  case atStart => exact ⟨0, Nat.zero_le _, rfl, rfl⟩
  case round =>
    obtain ⟨k, hk, rfl, rfl⟩ := hrel
    have hy : crcL (c ^^^ 4294967295) (l.take k) < 4294967296 := crcL_lt _ (xor_ones_lt hc) (fun b hb => HB.out b (List.mem_of_mem_take hb))
    have HS : Hid (k < l.length → crcL (c ^^^ 4294967295) (l.take (k + 1)) = crcN 8 (crcL (c ^^^ 4294967295) (l.take k) ^^^ l.getD k 0)) := by
      intro h; rw [take_snoc l 0 k h, crcL_snoc]
    have HE : Hid (¬ k < l.length → crcM c l = crcL (c ^^^ 4294967295) (l.take k) ^^^ 4294967295) := by
      intro h; rw [crcM, List.take_of_length_le (by omega)]
    generalize crcL (c ^^^ 4294967295) (l.take k) = y at *
    by_cases hlt : k < l.length
    · obtain ⟨b, off, rfl, hcell⟩ := HC.out (by omega)
      have hck := hcell k hlt
      have hx : l.getD k 0 < 256 := HB.out _ (mem_getD hlt)
      have HS' : Hid (crcL (c ^^^ 4294967295) (l.take (k + 1)) = crcN 8 (y ^^^ l.getD k 0)) := HS.out hlt
      clear hcell HS HE HC
      generalize l.getD k 0 = x at *
      have hxy := xor_u32 hy (show x < 4294967296 by omega)
      have hlt2 : y ^^^ x < 4294967296 := Nat.xor_lt_two_pow (n := 32) hy (by omega)
      go_wp2
      clear hxy hck
      generalize y ^^^ x = z at *
      go_loop [5, 7] (fun t i => ∃ k : Nat, k ≤ 8 ∧ i = .int .i64 k ∧ t = .int .u32 (crcN k z : Nat)) (fun _ i => 8 - (intOf i).toNat)
      case atStart => exact ⟨0, Nat.zero_le _, rfl, rfl⟩
      case round =>
        obtain ⟨j, hj, rfl, rfl⟩ := hrel
        have hy2 := crcN_lt j hlt2
        have HS2 : Hid (crcN (j + 1) z = crc1 (crcN j z)) := rfl
        have HE2 : Hid (j = 8 → crcN 8 z = crcN j z) := by intro h; rw [h]
        generalize crcN j z = u at *
        by_cases hlt8 : j < 8
        · go_wp2
          · have h := crc1_yes hy2 (by assumption)
            go_round
            case rel => exact ⟨j + 1, by omega, by go_num, by rw [HS2.out, h]⟩
            case measure => simp [intOf]; omega
          · have h := crc1_no hy2 (by assumption)
            go_round
            case rel => exact ⟨j + 1, by omega, by go_num, by rw [HS2.out, h]⟩
            case measure => simp [intOf]; omega
        · go_wp2
          go_round
          case rel => exact ⟨k + 1, by omega, by go_num, by rw [HS'.out, HE2.out (by omega)]⟩
          case measure => simp [intOf]; omega
    · have HN := xor_ones_u32 hy
      go_wp2
      go_ret
      exact ⟨ret_u32 (HE.out hlt).symm, rfl⟩

set_option maxHeartbeats 400000 in
theorem refCrc_any (v : Value) (l : List Nat) (w : World) (hv : BSl w v l) :
    Calls Try.prog 97 #[v] w fun e w' => e = .returned (.int .u32 (crcM 0 l : Nat)) ∧ w' = w := by
  go_enter Try.func97, Try.ntmps97
  go_wp2_with (go_at_call 103; refine (refCrcMore_any 0 (by omega) v l w hv).mono ?_; rintro e w' ⟨rfl, rfl⟩)
  go_ret
  exact ⟨rfl, rfl⟩
end Go.Proofs.Ytlkccencilhacaa
namespace Go.Proofs.Ytlkccencilhacaa
open Go.RowKit Go.Sort
open Num
set_option linter.unusedVariables false
set_option linter.unusedSimpArgs false
set_option maxRecDepth 20000

theorem rowFacts {w y : World} {o : Array Value} (hy : y.heap[w.heap.size]? = some (.cells o 101 (0, 0))) (hb : Below w.heap.size w y) (cs : Array Value) : (y.setRow w.heap.size cs).heap[w.heap.size]? = some (.cells cs 101 (0, 0)) ∧ Below w.heap.size w (y.setRow w.heap.size cs) :=
  ⟨setRow_heap y w.heap.size o cs 101 (0, 0) hy, hb.trans ⟨rfl, rfl, rfl, Nat.le_of_eq (setRow_size ..).symm, fun k hk => setRow_other _ _ _ _ (by omega)⟩⟩
def zEnt : Array Value := #[.bool false, .int .u32 0, .int .i64 0, .int .i64 0, .int .i64 0, .int .i64 0, .int .i64 0, .int .i64 0, .int .i64 0, .int .i64 0]
/-- an entry's cells -/
def entA (b : Bool) (nu ag st sl : Nat) (x c0 c1 c2 c3 : Int) : Array Value := #[.bool b, .int .u32 (nu : Int), .int .i64 (ag : Int), .int .i64 (st : Int), .int .i64 (sl : Int), .int .i64 x, .int .i64 c0, .int .i64 c1, .int .i64 c2, .int .i64 c3]
theorem entA_z : entA false 0 0 0 0 0 0 0 0 0 = zEnt := rfl
theorem zEnt_lit : (#[.bool false, .int .u32 0, .int .i64 0, .int .i64 0, .int .i64 0, .int .i64 0, .int .i64 0, .int .i64 0, .int .i64 0, .int .i64 0] : Array Value) = zEnt := rfl
theorem twoBox (w : World) (cs : Array Value) : ((((w.alloc (.cells zEnt 101)).alloc (.cells zEnt 101)).setRow (w.heap.size + 1) cs).heap[w.heap.size]? = some (.cells zEnt 101 (0, 0)) ∧ (((w.alloc (.cells zEnt 101)).alloc (.cells zEnt 101)).setRow (w.heap.size + 1) cs).heap[w.heap.size + 1]? = some (.cells cs 101 (0, 0))) ∧ Below w.heap.size w (((w.alloc (.cells zEnt 101)).alloc (.cells zEnt 101)).setRow (w.heap.size + 1) cs) := by
  have hs : (w.alloc (.cells zEnt 101)).heap.size = w.heap.size + 1 := by simp
  have h0 := Go.heap_alloc_new w (.cells zEnt 101)
  have h1 := Go.heap_alloc_new (w.alloc (.cells zEnt 101)) (.cells zEnt 101)
  have hb := ((Below.refl w.heap.size w).alloc (Nat.le_refl _) (.cells zEnt 101)).alloc (by rw [hs]; omega) (.cells zEnt 101)
  have h2 := ((Below.refl (w.alloc (.cells zEnt 101)).heap.size (w.alloc (.cells zEnt 101))).alloc (Nat.le_refl _) (.cells zEnt 101)).block w.heap.size (by rw [hs]; omega)
  rw [hs] at h1
  refine ⟨⟨(setRow_other _ _ _ _ (by omega)).trans (h2.trans h0), setRow_heap _ _ _ _ _ _ h1⟩, hb.trans ⟨rfl, rfl, rfl, Nat.le_of_eq (setRow_size ..).symm, fun k hk => setRow_other _ _ _ _ (by omega)⟩⟩
/-- the entry while its context is read -/
def ctA (b4 b8 b24 b12 : Nat) (e16 : Int) (C : Nat → Int) (j : Nat) : Array Value := entA false b4 b8 b24 b12 e16 (if 0 < j then C 0 else 0) (if 1 < j then C 1 else 0) (if 2 < j then C 2 else 0) (if 3 < j then C 3 else 0)
theorem ctA_get (b4 b8 b24 b12 : Nat) (e16 : Int) (C : Nat → Int) {j : Nat} (h : j < 4) : (ctA b4 b8 b24 b12 e16 C 4)[6 + j]? = some (.int .i64 (C j)) := by
  rcases (show j = 0 ∨ j = 1 ∨ j = 2 ∨ j = 3 by omega) with rfl | rfl | rfl | rfl <;> rfl
theorem ctA_step (b4 b8 b24 b12 : Nat) (e16 : Int) (C : Nat → Int) {j : Nat} (h : j < 4) : (ctA b4 b8 b24 b12 e16 C j).setIfInBounds (6 + j) (.int .i64 (C j)) = ctA b4 b8 b24 b12 e16 C (j + 1) ∧ (ctA b4 b8 b24 b12 e16 C j)[6 + j]? = some (.int .i64 0) := by
  rcases (show j = 0 ∨ j = 1 ∨ j = 2 ∨ j = 3 by omega) with rfl | rfl | rfl | rfl <;> exact ⟨rfl, rfl⟩
/-- the slots while they are filled -/
def filR (n i : Nat) : List Int := List.replicate i (-3) ++ List.replicate (n - i) 0
theorem filR_0 (n : Nat) : filR n 0 = List.replicate n 0 := by simp [filR]
theorem filR_n (n : Nat) : filR n n = List.replicate n (-3) := by simp [filR]
theorem filR_len {n i : Nat} (h : i ≤ n) : (filR n i).length = n := by simp [filR]; omega
theorem ints_set (l : List Int) (i : Nat) (z : Int) : (ints l).setIfInBounds i (.int .i64 z) = ints (l.set i z) := by
  unfold ints
  rw [List.setIfInBounds_toArray, show (Value.int .i64 z) = iV z from rfl, ← List.map_set]
theorem ints_cell {w : World} {g i : Nat} {l : List Int} (h : w.heap[g]? = some (.cells (ints l) 3 (0, 0))) (hi : i < l.length) : w.cell? ⟨g, i, none⟩ = some (.int .i64 (l.getD i 0)) := by
  rw [cell_of_row _ _ _ _ _ _ h]
  simp [ints, List.getD, hi, iV]
theorem filR_step {n i : Nat} (h : i < n) : (filR n i).set i (-3) = filR n (i + 1) := by
  unfold filR
  obtain ⟨k, hk⟩ : ∃ k, n - i = k + 1 := ⟨n - i - 1, by omega⟩
  rw [List.set_append_right _ _ (by simp), List.length_replicate, Nat.sub_self, hk, show n - (i + 1) = k by omega, List.replicate_succ, List.replicate_succ', List.append_assoc]
  rfl
theorem entSize : (Try.prog.info? 101).map (·.size) = some 10 := by kernel_rfl
def entR (l : List Nat) (ext : Nat) : Array Value := entA false (bvA l 4 4) (bvA l 8 2) (bvA l 24 4) (bvA l 12 4) (extR (bvA l 16 4) ext) (extR (bvA l 28 4) ext) (extR (bvA l 32 4) ext) (extR (bvA l 36 4) ext) (extR (bvA l 40 4) ext)
theorem entA_one (b : Bool) (nu ag st sl : Nat) (x c0 c1 c2 c3 : Int) : (entA b nu ag st sl x c0 c1 c2 c3).all (·.oneCell') = true := by simp [entA, Value.oneCell']
theorem zEnt_one : zEnt.all (·.oneCell') = true := by simp [zEnt, Value.oneCell']
/-- what the document's read says -/
def RrP (l : List Nat) (slots ext : Nat) (e : Ending) : Prop := ((∀ b ∈ l, b = 0) ∧ e = .returned (.tuple #[.agg (entA true 0 0 0 0 0 0 0 0 0), .bool true])) ∨ ((¬ ∀ b ∈ l, b = 0) ∧ rOk l slots ext ∧ e = .returned (.tuple #[.agg (entR l ext), .bool true])) ∨ ((¬ ∀ b ∈ l, b = 0) ∧ ¬ rOk l slots ext ∧ e = .returned (.tuple #[.agg zEnt, .bool false]))
theorem str4 {l : List Nat} (hb : ∀ b ∈ l, b < 256) : (((⟨((l.take 4).map UInt8.ofNat).toArray⟩ : ByteArray).toList == [97, 99, 116, 108]) : Bool) = decide (l.take 4 = [97, 99, 116, 108]) := by
  rw [toList_data]
  show ((l.take 4).map UInt8.ofNat == [97, 99, 116, 108].map UInt8.ofNat) = _
  by_cases e : l.take 4 = [97, 99, 116, 108]
  · rw [e]; rfl
  · rw [decide_eq_false e]
    exact beq_false_of_ne fun e2 => e (map_u8_inj (fun x hx => hb x (List.mem_of_mem_take hx)) (by decide) e2)
theorem rgetI_any (v : Value) (l : List Nat) (w : World) (hv : BSl w v l) (at_ n : Nat) (aI nI : Int) (ea : (at_ : Int) = aI) (en : (n : Int) = nI) (hn : n ≤ 4) (hat : at_ + n ≤ l.length) (hl : l.length ≤ 65536) :
    Calls Try.prog 95 #[v, .int .i64 aI, .int .i64 nI] w fun e w' => e = .returned (.int .i64 (bvA l at_ n : Nat)) ∧ w' = w := by
  subst ea en
  exact rget_any v l w hv at_ n hn hat hl
set_option maxHeartbeats 8000000 in
theorem rread_any (v : Value) (l : List Nat) (w : World) (hv : BSl w v l) (slots ext : Nat) (h1 : 1 ≤ slots) (h2 : slots ≤ 16) (he1 : 1 ≤ ext) (he : ext ≤ 1024) (hl : vsz l.length) :
    Calls Try.prog 72 #[v, .int .i64 (slots : Int), .int .i64 (ext : Int)] w fun e w' => RrP l slots ext e ∧ Below w.heap.size w w' := by
  have hge := hl.ge
  obtain ⟨g, off, cap, rfl, q1, q2, q3, q4⟩ := hv.form (by omega)
  unfold maxLen at q2
  have HBK := hide fun x (hx : Below w.heap.size w x) => rblank_any _ l x (hv.below hx)
  have HGT := hide fun x (at_ n : Nat) (aI nI : Int) (ea : (at_ : Int) = aI) (en : (n : Int) = nI) (hn : n ≤ 4) (hat : at_ + n ≤ l.length) (hx : Below w.heap.size w x) => rgetI_any _ l x (hv.below hx) at_ n aI nI ea en hn hat (by omega)
  have HEX := hide fun x z (hz : z < 4294967296) => rextent_any x z ext hz he
  have HX4 := hide fun i => bvA_lt4 l q3 i 4 (by omega)
  have HX2 := hide fun i => bvA_lt4 l q3 i 2 (by omega)
  have HSG := hide fun x (hx : Below w.heap.size w x) i k hk (hk1 : 1 ≤ k) => (hv.below hx).seg i k hk hk1
  have HCV := hide fun x (hx : Below w.heap.size w x) => convS (W := x) (v := .slice (some ⟨g, off + 0, none⟩) 4 (cap - 0)) (l := (l.drop 0).take 4) ((hv.below hx).seg 0 4 (by omega) (by omega)) (by simp; omega)
  have HB := hide q3
  have HY0 := hide (Go.heap_alloc_new w (.cells zEnt 101))
  have B0 := hide ((Below.refl w.heap.size w).alloc (Nat.le_refl _) (.cells zEnt 101))
  clear q4 q3 hv
  by_cases hz : ∀ b ∈ l, b = 0
  · have HBZ : Hid (∀ x, Below w.heap.size w x → _) := hide fun x hx => HBK.out x hx
    rw [decide_eq_true hz] at HBZ
    have HZ := hide hz
    clear hz
    go_enter Try.func72, Try.ntmps72
    go_wp2_with (first
      | (go_at_call 94; refine (HBZ.out _ B0.out).mono ?_; rintro e y ⟨rfl, rfl⟩)
      | (refine wpList_store_row rfl 101 (.tmp 6) (.tmp 18) rfl w.heap.size (entA true 0 0 0 0 0 0 0 0 0) (by first | rfl | simp [Act.eval, Act.put]) (by first | rfl | simp [Act.eval, Act.put, entA]) 101 zEnt HY0.out entSize rfl (entA_one ..) ?_; rw [World.setRow_alloc_new]))
    refine bodyPost_ret (results_row_tmp1 (fn := Try.f72) (p := 6) (u := 7) (ty := 101) (by kernel_rfl) _ _ w.heap.size 101 (entA true 0 0 0 0 0 0 0 0 0) (0, 0) _ rfl (Go.heap_alloc_new w (.cells (entA true 0 0 0 0 0 0 0 0 0) 101)) Try.underlying101 rfl entSize) rfl ?_
    exact ⟨.inl ⟨HZ.out, rfl⟩, (Below.refl _ _).alloc (Nat.le_refl _) _⟩
  · have HBZ : Hid (∀ x, Below w.heap.size w x → _) := hide fun x hx => HBK.out x hx
    rw [decide_eq_false hz] at HBZ
    have HNZ := hide hz
    clear hz HBK
    have hcv := HCV.out _ B0.out
    have hu4 : IntKind.u32.wrap ((bvA l 4 4 : Nat) : Int) = ((bvA l 4 4 : Nat) : Int) := by have := HX4.out 4; simp [IntKind.wrap, IntKind.bits, IntKind.signed]; omega
    rw [Nat.add_zero, Nat.sub_zero, List.drop_zero] at hcv
    have hs4 := str4 HB.out
    generalize (⟨((l.take 4).map UInt8.ofNat).toArray⟩ : ByteArray) = s4 at *
    by_cases hlet : l.take 4 = [97, 99, 116, 108]
    case neg =>
      rw [decide_eq_false hlet] at hs4
      have HLET := hide hlet
      clear hlet
      go_enter Try.func72, Try.ntmps72
      have HEX9 := hide (rowFacts HY0.out B0.out zEnt)
      go_wp2_with (first
        | (refine wpList_store_row rfl 101 (.tmp 6) (.tmp 29) rfl w.heap.size zEnt (by first | rfl | simp [Act.eval, Act.put]) (by first | rfl | simp [Act.eval, Act.put, zEnt]) 101 zEnt HY0.out entSize rfl zEnt_one ?_)
        | (go_at_call 94; refine (HBZ.out _ B0.out).mono ?_; rintro e y ⟨rfl, rfl⟩))
      refine bodyPost_ret (results_row_tmp1 (fn := Try.f72) (p := 6) (u := 7) (ty := 101) (by kernel_rfl) _ _ w.heap.size 101 zEnt (0, 0) _ rfl HEX9.out.1 Try.underlying101 rfl entSize) rfl ?_
      exact ⟨.inr (.inr ⟨HNZ.out, fun h => HLET.out h.let_, rfl⟩), HEX9.out.2⟩
    rw [decide_eq_true hlet] at hs4
    have HLET := hide hlet
    clear hlet
    have HG10 := hide fun x hx => HGT.out x 10 2 10 2 rfl rfl (by omega) (by omega) hx
    have HG4 := hide fun x hx => HGT.out x 4 4 4 4 rfl rfl (by omega) (by omega) hx
    have HG8 := hide fun x hx => HGT.out x 8 2 8 2 rfl rfl (by omega) (by omega) hx
    have HG24 := hide fun x hx => HGT.out x 24 4 24 4 rfl rfl (by omega) (by omega) hx
    have HG12 := hide fun x hx => HGT.out x 12 4 12 4 rfl rfl (by omega) (by omega) hx
    have HG16 := hide fun x hx => HGT.out x 16 4 16 4 rfl rfl (by omega) (by omega) hx
    have HG20 := hide fun x hx => HGT.out x 20 4 20 4 rfl rfl (by omega) (by omega) hx
    have x4 := HX4.out 4
    have x8 := HX2.out 8
    have x12 := HX4.out 12
    have x16 := HX4.out 16
    have x20 := HX4.out 20
    have x24 := HX4.out 24
    by_cases hsl : bvA l 10 2 = slots
    case neg =>
      have HSL : Hid (rOk l slots ext → False) := hide fun h => hsl h.sl
      have hne : ¬ ((bvA l 10 2 : Nat) : Int) = (slots : Int) := by omega
      clear hsl
      generalize bvA l 10 2 = b10 at *
      go_enter Try.func72, Try.ntmps72
      have HEX9 := hide (rowFacts HY0.out B0.out zEnt)
      go_wp2_with (first
        | (refine wpList_store_row rfl 101 (.tmp 6) (.tmp 29) rfl w.heap.size zEnt (by first | rfl | simp [Act.eval, Act.put]) (by first | rfl | simp [Act.eval, Act.put, zEnt]) 101 zEnt HY0.out entSize rfl zEnt_one ?_)
        | (go_at_call 94; refine (HBZ.out _ B0.out).mono ?_; rintro e y ⟨rfl, rfl⟩)
        | (go_at_call 95; (with_reducible refine (HG10.out _ B0.out).mono ?_); rintro e y ⟨rfl, rfl⟩))
      refine bodyPost_ret (results_row_tmp1 (fn := Try.f72) (p := 6) (u := 7) (ty := 101) (by kernel_rfl) _ _ w.heap.size 101 zEnt (0, 0) _ rfl HEX9.out.1 Try.underlying101 rfl entSize) rfl ?_
      exact ⟨.inr (.inr ⟨HNZ.out, fun h => HSL.out h, rfl⟩), HEX9.out.2⟩
    have HSL := hide hsl
    rw [hsl] at HG10
    clear hsl
    have HE16 := hide fun x => HEX.out x (bvA l 16 4) x16
    have HE20 := hide fun x => HEX.out x (bvA l 20 4) x20
    have HROK : Hid (rOk l slots ext → bvA l 12 4 < slots ∧ bvA l 24 4 < slots ∧ 0 ≤ extR (bvA l 16 4) ext ∧ extR (bvA l 20 4) ext ≠ -2 ∧ extR (bvA l 20 4) ext ≠ extR (bvA l 16 4) ext ∧ (∀ j, j < 4 → zOk slots (bvA l 12 4) (extR (bvA l 16 4) ext) (bvA l 24 4) (fun j => extR (bvA l (28 + 4 * j) 4) ext) j) ∧ (bvA l 8 2 < 65535 → bvA l 24 4 = 4 * bvA l 8 2 % slots)) := hide fun h => ⟨h.c0, h.st, h.c1, h.o2, h.ne, h.cx, h.ag⟩
    have HMK : Hid (bvA l 12 4 < slots → bvA l 24 4 < slots → 0 ≤ extR (bvA l 16 4) ext → extR (bvA l 20 4) ext ≠ -2 → extR (bvA l 20 4) ext ≠ extR (bvA l 16 4) ext → (∀ j, j < 4 → zOk slots (bvA l 12 4) (extR (bvA l 16 4) ext) (bvA l 24 4) (fun j => extR (bvA l (28 + 4 * j) 4) ext) j) → (bvA l 8 2 < 65535 → bvA l 24 4 = 4 * bvA l 8 2 % slots) → (∀ b ∈ (l.drop 44).take (l.length - 48), b = 0) → bvA l (l.length - 4) 4 = crcM 0 (l.take (l.length - 4)) → rOk l slots ext) := hide fun a b c d e f g h i => ⟨HLET.out, HSL.out, a, b, c, d, e, f, g, h, i⟩
    have HRR : Hid (entR l ext = entA false (bvA l 4 4) (bvA l 8 2) (bvA l 24 4) (bvA l 12 4) (extR (bvA l 16 4) ext) (extR (bvA l 28 4) ext) (extR (bvA l 32 4) ext) (extR (bvA l 36 4) ext) (extR (bvA l 40 4) ext)) := hide rfl
    clear HLET HSL
    generalize bvA l 4 4 = b4 at *
    generalize bvA l 8 2 = b8 at *
    generalize bvA l 12 4 = b12 at *
    generalize bvA l 24 4 = b24 at *
    generalize bvA l 16 4 = b16 at *
    generalize bvA l 20 4 = b20 at *
    have ge16 := extR_ge b16 ext
    have ge20 := extR_ge b20 ext
    generalize extR b16 ext = e16 at *
    generalize extR b20 ext = e20 at *
    have HA1 := hide (Go.heap_alloc_new (w.alloc (.cells zEnt 101)) (.cells zEnt 101))
    rw [show (w.alloc (.cells zEnt 101)).heap.size = w.heap.size + 1 by simp] at HA1
    have HTB := hide (twoBox w (entA false b4 b8 b24 b12 0 0 0 0 0))
    have HGC := hide fun (j : Nat) (hj : j < 4) x hx => HGT.out x (28 + 4 * j) 4 (28 + 4 * (j : Int)) 4 (by omega) rfl (by omega) (by omega) hx
    have HEC := hide fun (j : Nat) x => HEX.out x (bvA l (28 + 4 * j) 4) (HX4.out _)
    obtain ⟨C, hC⟩ : ∃ C : Nat → Int, C = fun j => extR (bvA l (28 + 4 * j) 4) ext := ⟨_, rfl⟩
    have HCC : Hid (∀ j, extR (bvA l (28 + 4 * j) 4) ext = C j) := hide fun j => by rw [hC]
    have HCC0 : Hid (∀ j, -2 ≤ C j) := hide fun j => by rw [hC]; exact extR_ge _ _
    rw [← hC] at HROK HMK
    clear hC
    obtain ⟨E, hE⟩ : ∃ E, l.length = E + 4 := ⟨l.length - 4, by omega⟩
    have HEI : Hid ((l.length : Int) - 4 = (E : Int) ∧ IntKind.i64.wrap (E : Int) = (E : Int) ∧ E + 4 = l.length) := hide ⟨by omega, by simp [IntKind.wrap, IntKind.bits, IntKind.signed]; omega, hE.symm⟩
    have HBM := hide fun x hx => rblank_any _ _ x (HSG.out x hx 44 (E - 44) (by omega) (by omega))
    have HGE := hide fun x hx => HGT.out x E 4 (E : Int) 4 rfl rfl (by omega) (by omega) hx
    have HCR := hide fun x hx => refCrc_any _ _ x (HSG.out x hx 0 E (by omega) (by omega))
    have x9 := HX4.out E
    have HCL : Hid (crcM 0 (l.take E) < 4294967296) := hide (crcM_lt _ (by decide) fun b hb => HB.out b (List.mem_of_mem_take hb))
    clear hE
    clear HEX HGT
    go_enter Try.func72, Try.ntmps72
    go_wp2_with (first
      | (go_at_call 94; refine (HBZ.out _ B0.out).mono ?_; rintro e y ⟨rfl, rfl⟩)
      | (go_at_call 95; (first | (with_reducible refine (HG10.out _ B0.out).mono ?_) | (with_reducible refine (HG4.out _ B0.out).mono ?_) | (with_reducible refine (HG8.out _ B0.out).mono ?_) | (with_reducible refine (HG24.out _ B0.out).mono ?_) | (with_reducible refine (HG12.out _ B0.out).mono ?_)); rintro e y ⟨rfl, rfl⟩)
      | (refine wpList_store_row rfl 101 (.tmp 8) (.tmp 39) rfl (w.heap.size + 1) (entA false b4 b8 b24 b12 0 0 0 0 0) (by first | rfl | simp [Act.eval, Act.put]) (by first | rfl | simp [Act.eval, Act.put, entA]) 101 zEnt HA1.out entSize rfl (entA_one ..) ?_; (try rw [zEnt_lit]); generalize ((w.alloc (.cells zEnt 101)).alloc (.cells zEnt 101)).setRow (w.heap.size + 1) (entA false b4 b8 b24 b12 0 0 0 0 0) = y1 at *))
    obtain ⟨⟨hy1, hx1⟩, hb1⟩ := HTB.out
    have B1 := hide hb1
    have HY1 := hide hy1
    have HX1 := hide hx1
    have x15 : y1.cell? ⟨w.heap.size + 1, 5, none⟩ = some (.int .i64 0) := cell_of_row _ _ _ _ _ _ hx1
    have x1f : y1.frozen? ⟨w.heap.size + 1, 5, none⟩ = false := frozen_of_row _ _ _ _ 101 hx1
    clear hy1 hx1 hb1 HTB HA1
    go_wp2_with (first
      | (go_at_call 95; (with_reducible refine (HG16.out _ B1.out).mono ?_); rintro e y ⟨rfl, rfl⟩)
      | (go_at_call 96; (with_reducible refine (HE16.out _).mono ?_); rintro e y1 ⟨rfl, rfl⟩))
    have hx2 := Go.heap_setCell_same y1 (w.heap.size + 1) 5 _ 101 (.int .i64 e16) HX1.out
    have HY2 : Hid ((y1.setCell ⟨w.heap.size + 1, 5, none⟩ (.int .i64 e16)).heap[w.heap.size]? = some (.cells zEnt 101 (0, 0))) := hide ((Go.heap_setCell_other _ _ _ _ (by show w.heap.size ≠ w.heap.size + 1; omega)).trans HY1.out)
    have HX2' : Hid ((y1.setCell ⟨w.heap.size + 1, 5, none⟩ (.int .i64 e16)).heap[w.heap.size + 1]? = some (.cells (entA false b4 b8 b24 b12 e16 0 0 0 0) 101 (0, 0))) := hide hx2
    have B2 : Hid (Below w.heap.size w (y1.setCell ⟨w.heap.size + 1, 5, none⟩ (.int .i64 e16))) := hide (B1.out.setCell (by show w.heap.size ≤ w.heap.size + 1; omega) _)
    clear hx2 x15 x1f HY1 HX1 B1
    generalize y1.setCell ⟨w.heap.size + 1, 5, none⟩ (.int .i64 e16) = y2 at *
    have y23 : y2.cell? ⟨w.heap.size + 1, 3, none⟩ = some (.int .i64 (b24 : Int)) := cell_of_row _ _ _ _ _ _ HX2'.out
    have y24 : y2.cell? ⟨w.heap.size + 1, 4, none⟩ = some (.int .i64 (b12 : Int)) := cell_of_row _ _ _ _ _ _ HX2'.out
    have y25 : y2.cell? ⟨w.heap.size + 1, 5, none⟩ = some (.int .i64 e16) := cell_of_row _ _ _ _ _ _ HX2'.out
    by_cases hf1 : slots ≤ b12
    case pos =>
      have HPO : Hid (rOk l slots ext → False) := hide fun h => by have := (HROK.out h).1; omega
      have hfI : (slots : Int) ≤ (b12 : Int) := by omega
      have HEX9 := hide (rowFacts HY2.out B2.out zEnt)
      go_wp2_with (first
        | (refine wpList_store_row rfl 101 (.tmp 6) (.tmp 74) rfl w.heap.size zEnt (by first | rfl | simp [Act.eval, Act.put]) (by first | rfl | simp [Act.eval, Act.put, zEnt]) 101 zEnt HY2.out entSize rfl zEnt_one ?_)
        | (go_at_call 95; (with_reducible refine (HG20.out _ B2.out).mono ?_); rintro e y ⟨rfl, rfl⟩)
        | (go_at_call 96; (with_reducible refine (HE20.out _).mono ?_); rintro e y2 ⟨rfl, rfl⟩))
      refine bodyPost_ret (results_row_tmp1 (fn := Try.f72) (p := 6) (u := 7) (ty := 101) (by kernel_rfl) _ _ w.heap.size 101 zEnt (0, 0) _ rfl HEX9.out.1 Try.underlying101 rfl entSize) rfl ?_
      exact ⟨.inr (.inr ⟨HNZ.out, fun h => HPO.out h, rfl⟩), HEX9.out.2⟩
    have hg1 : ¬ (slots : Int) ≤ (b12 : Int) := by omega
    by_cases hf2 : slots ≤ b24
    case pos =>
      have HPO : Hid (rOk l slots ext → False) := hide fun h => by have := (HROK.out h).2.1; omega
      have hfI : (slots : Int) ≤ (b24 : Int) := by omega
      have HEX9 := hide (rowFacts HY2.out B2.out zEnt)
      go_wp2_with (first
        | (refine wpList_store_row rfl 101 (.tmp 6) (.tmp 74) rfl w.heap.size zEnt (by first | rfl | simp [Act.eval, Act.put]) (by first | rfl | simp [Act.eval, Act.put, zEnt]) 101 zEnt HY2.out entSize rfl zEnt_one ?_)
        | (go_at_call 95; (with_reducible refine (HG20.out _ B2.out).mono ?_); rintro e y ⟨rfl, rfl⟩)
        | (go_at_call 96; (with_reducible refine (HE20.out _).mono ?_); rintro e y2 ⟨rfl, rfl⟩))
      refine bodyPost_ret (results_row_tmp1 (fn := Try.f72) (p := 6) (u := 7) (ty := 101) (by kernel_rfl) _ _ w.heap.size 101 zEnt (0, 0) _ rfl HEX9.out.1 Try.underlying101 rfl entSize) rfl ?_
      exact ⟨.inr (.inr ⟨HNZ.out, fun h => HPO.out h, rfl⟩), HEX9.out.2⟩
    have hg2 : ¬ (slots : Int) ≤ (b24 : Int) := by omega
    by_cases hf3 : e16 < 0
    case pos =>
      have HPO : Hid (rOk l slots ext → False) := hide fun h => by have := (HROK.out h).2.2.1; omega
      have HEX9 := hide (rowFacts HY2.out B2.out zEnt)
      go_wp2_with (first
        | (refine wpList_store_row rfl 101 (.tmp 6) (.tmp 74) rfl w.heap.size zEnt (by first | rfl | simp [Act.eval, Act.put]) (by first | rfl | simp [Act.eval, Act.put, zEnt]) 101 zEnt HY2.out entSize rfl zEnt_one ?_)
        | (go_at_call 95; (with_reducible refine (HG20.out _ B2.out).mono ?_); rintro e y ⟨rfl, rfl⟩)
        | (go_at_call 96; (with_reducible refine (HE20.out _).mono ?_); rintro e y2 ⟨rfl, rfl⟩))
      refine bodyPost_ret (results_row_tmp1 (fn := Try.f72) (p := 6) (u := 7) (ty := 101) (by kernel_rfl) _ _ w.heap.size 101 zEnt (0, 0) _ rfl HEX9.out.1 Try.underlying101 rfl entSize) rfl ?_
      exact ⟨.inr (.inr ⟨HNZ.out, fun h => HPO.out h, rfl⟩), HEX9.out.2⟩
    by_cases hf4 : e20 = -2
    case pos =>
      have HPO : Hid (rOk l slots ext → False) := hide fun h => (HROK.out h).2.2.2.1 hf4
      subst hf4
      have HEX9 := hide (rowFacts HY2.out B2.out zEnt)
      go_wp2_with (first
        | (refine wpList_store_row rfl 101 (.tmp 6) (.tmp 74) rfl w.heap.size zEnt (by first | rfl | simp [Act.eval, Act.put]) (by first | rfl | simp [Act.eval, Act.put, zEnt]) 101 zEnt HY2.out entSize rfl zEnt_one ?_)
        | (go_at_call 95; (with_reducible refine (HG20.out _ B2.out).mono ?_); rintro e y ⟨rfl, rfl⟩)
        | (go_at_call 96; (with_reducible refine (HE20.out _).mono ?_); rintro e y2 ⟨rfl, rfl⟩))
      refine bodyPost_ret (results_row_tmp1 (fn := Try.f72) (p := 6) (u := 7) (ty := 101) (by kernel_rfl) _ _ w.heap.size 101 zEnt (0, 0) _ rfl HEX9.out.1 Try.underlying101 rfl entSize) rfl ?_
      exact ⟨.inr (.inr ⟨HNZ.out, fun h => HPO.out h, rfl⟩), HEX9.out.2⟩
    by_cases hf5 : e20 = e16
    case pos =>
      have HPO : Hid (rOk l slots ext → False) := hide fun h => (HROK.out h).2.2.2.2.1 hf5
      subst hf5
      have HEX9 := hide (rowFacts HY2.out B2.out zEnt)
      go_wp2_with (first
        | (refine wpList_store_row rfl 101 (.tmp 6) (.tmp 74) rfl w.heap.size zEnt (by first | rfl | simp [Act.eval, Act.put]) (by first | rfl | simp [Act.eval, Act.put, zEnt]) 101 zEnt HY2.out entSize rfl zEnt_one ?_)
        | (go_at_call 95; (with_reducible refine (HG20.out _ B2.out).mono ?_); rintro e y ⟨rfl, rfl⟩)
        | (go_at_call 96; (with_reducible refine (HE20.out _).mono ?_); rintro e y2 ⟨rfl, rfl⟩))
      refine bodyPost_ret (results_row_tmp1 (fn := Try.f72) (p := 6) (u := 7) (ty := 101) (by kernel_rfl) _ _ w.heap.size 101 zEnt (0, 0) _ rfl HEX9.out.1 Try.underlying101 rfl entSize) rfl ?_
      exact ⟨.inr (.inr ⟨HNZ.out, fun h => HPO.out h, rfl⟩), HEX9.out.2⟩
    have hb3 : decide (e16 < 0) = false := decide_eq_false hf3
    have hb4 : (e20 == -2) = false := by simpa using hf4
    have hb5 : (e20 == e16) = false := by simpa using hf5
    have hg3 : 0 ≤ e16 := by omega
    have HP5 : Hid (b12 < slots ∧ b24 < slots ∧ e20 ≠ -2 ∧ e20 ≠ e16) := hide ⟨by omega, by omega, hf4, hf5⟩
    have HP6 : Hid (0 ≤ e16) := hide (by omega)
    have ENT : Hid (entR l ext = ctA b4 b8 b24 b12 e16 C 4) := hide (by rw [HRR.out, show (28 : Nat) = 28 + 4 * 0 from rfl, show (32 : Nat) = 28 + 4 * 1 from rfl, show (36 : Nat) = 28 + 4 * 2 from rfl, show (40 : Nat) = 28 + 4 * 3 from rfl, HCC.out, HCC.out, HCC.out, HCC.out]; rfl)
    clear hf3
    go_wp2_with (first
      | (go_at_call 95; (with_reducible refine (HG20.out _ B2.out).mono ?_); rintro e y ⟨rfl, rfl⟩)
      | (go_at_call 96; (with_reducible refine (HE20.out _).mono ?_); rintro e y2 ⟨rfl, rfl⟩))
    go_loopw [10] (fun x wr => ∃ j : Nat, j ≤ 4 ∧ x = .int .i64 (j : Int) ∧ (wr.heap[w.heap.size]? = some (.cells zEnt 101 (0, 0)) ∧ wr.heap[w.heap.size + 1]? = some (.cells (ctA b4 b8 b24 b12 e16 C j) 101 (0, 0))) ∧ Below w.heap.size w wr) (fun x _ => 4 - (intOf x).toNat)
    case atStart => exact ⟨0, by omega, rfl, ⟨HY2.out, HX2'.out⟩, B2.out⟩
    case round =>
      clear y23 y24 y25 HY2 HX2' B2 hg1 hg2 hg3 hb3 hb4 hb5 hf4 hf5
      obtain ⟨j, hj, rfl, ⟨hy, hx⟩, hbw⟩ := hrel
      have HY3 := hide hy
      have HX3 := hide hx
      have B3 := hide hbw
      by_cases hj4 : j < 4
      · have hst := (ctA_step b4 b8 b24 b12 e16 C hj4)
        have cj : wr.cell? ⟨w.heap.size + 1, 6 + j, none⟩ = some (.int .i64 0) := cell_of_row _ _ _ _ _ _ hx |>.trans (by first | exact hst.2 | rfl)
        have cf : wr.frozen? ⟨w.heap.size + 1, 6 + j, none⟩ = false := frozen_of_row _ _ _ _ 101 hx
        have HG := hide (HGC.out j hj4 wr B3.out)
        have HE := hide (HEC.out j)
        rw [HCC.out j] at HE
        have hx4 := Go.heap_setCell_same wr (w.heap.size + 1) (6 + j) _ 101 (.int .i64 (C j)) hx
        rw [hst.1] at hx4
        have HX4' := hide hx4
        have HY4 : Hid ((wr.setCell ⟨w.heap.size + 1, 6 + j, none⟩ (.int .i64 (C j))).heap[w.heap.size]? = some (.cells zEnt 101 (0, 0))) := hide ((Go.heap_setCell_other _ _ _ _ (by show w.heap.size ≠ w.heap.size + 1; omega)).trans hy)
        have B4 : Hid (Below w.heap.size w (wr.setCell ⟨w.heap.size + 1, 6 + j, none⟩ (.int .i64 (C j)))) := hide (B3.out.setCell (by show w.heap.size ≤ w.heap.size + 1; omega) _)
        have hjI : (j : Int) < 4 := by omega
        clear hy hx hbw hx4 hst HY3 HX3 HGC HEC
        generalize bvA l (28 + 4 * j) 4 = bj at *
        generalize C j = cj9 at *
        go_wp2_with (first
          | (go_at_call 95; refine HG.out.mono ?_; rintro e y ⟨rfl, rfl⟩)
          | (go_at_call 96; refine (HE.out _).mono ?_; rintro e wr ⟨rfl, rfl⟩))
        go_roundw
        case rel => exact ⟨j + 1, by omega, by go_num, ⟨HY4.out, HX4'.out⟩, B4.out⟩
        case measure => simp [intOf]; omega
      · have ej : j = 4 := by omega
        subst ej
        clear hy hx hbw HGC HEC
        have hmk := fun W : World => run_ints slots (by omega) W
        have hxl := (Array.getElem?_eq_some_iff.1 HX3.out).1
        obtain ⟨sb, hsb⟩ : ∃ sb, wr.heap.size = sb := ⟨_, rfl⟩
        have hsb2 : w.heap.size + 2 ≤ sb := by omega
        have b6 := (Below.refl wr.heap.size wr).alloc (Nat.le_refl _) (.cells (ints (List.replicate slots 0)) 3)
        have HY6 := hide ((b6.block _ (by omega)).trans HY3.out)
        have HX6 := hide ((b6.block _ hxl).trans HX3.out)
        have HS6 := hide (Go.heap_alloc_new wr (.cells (ints (List.replicate slots 0)) 3))
        rw [hsb] at HS6
        have B6 := hide (B3.out.trans (b6.mono B3.out.size))
        have HSB := hide hsb
        clear b6 hxl HY3 HX3 B3
        go_wp2_with fail
        go_loopw [12] (fun x wr => ∃ i : Nat, i ≤ slots ∧ x = .int .i64 (i : Int) ∧ ((wr.heap[w.heap.size]? = some (.cells zEnt 101 (0, 0)) ∧ wr.heap[w.heap.size + 1]? = some (.cells (ctA b4 b8 b24 b12 e16 C 4) 101 (0, 0))) ∧ wr.heap[sb]? = some (.cells (ints (filR slots i)) 3 (0, 0))) ∧ Below w.heap.size w wr) (fun x _ => slots - (intOf x).toNat)
        case atStart => exact ⟨0, by omega, rfl, ⟨⟨HY6.out, HX6.out⟩, by rw [filR_0]; exact HS6.out⟩, B6.out⟩
        case round =>
          clear HY6 HX6 HS6 B6 HSB hsb
          obtain ⟨i, hi, rfl, ⟨⟨hy, hx⟩, hs⟩, hbw⟩ := hrel
          have HY7 := hide hy
          have HX7 := hide hx
          have HS7 := hide hs
          have B7 := hide hbw
          by_cases his : i < slots
          · have hil : i < (filR slots i).length := by rw [filR_len (by omega)]; exact his
            have c7 : wr.cell? ⟨sb, i, none⟩ = some (.int .i64 ((filR slots i).getD i 0)) := ints_cell hs hil
            have f7 : wr.frozen? ⟨sb, i, none⟩ = false := frozen_of_row _ _ _ _ 3 hs
            have hs8 := Go.heap_setCell_same wr sb i _ 3 (.int .i64 (-3)) hs
            rw [ints_set, filR_step his] at hs8
            have HS8 := hide hs8
            have HY8 : Hid ((wr.setCell ⟨sb, i, none⟩ (.int .i64 (-3))).heap[w.heap.size]? = some (.cells zEnt 101 (0, 0))) := hide ((Go.heap_setCell_other _ _ _ _ (by show w.heap.size ≠ sb; omega)).trans hy)
            have HX8 : Hid ((wr.setCell ⟨sb, i, none⟩ (.int .i64 (-3))).heap[w.heap.size + 1]? = some (.cells (ctA b4 b8 b24 b12 e16 C 4) 101 (0, 0))) := hide ((Go.heap_setCell_other _ _ _ _ (by show w.heap.size + 1 ≠ sb; omega)).trans hx)
            have B8 : Hid (Below w.heap.size w (wr.setCell ⟨sb, i, none⟩ (.int .i64 (-3)))) := hide (B7.out.setCell (by show w.heap.size ≤ sb; omega) _)
            have hiI : (i : Int) < (slots : Int) := by omega
            clear hy hx hs hbw hs8 hil HY7 HX7 HS7
            generalize (filR slots i).getD i 0 = z7 at *
            go_wp2_with fail
            go_roundw
            case rel => exact ⟨i + 1, by omega, by go_num, ⟨⟨HY8.out, HX8.out⟩, HS8.out⟩, B8.out⟩
            case measure => simp [intOf]; omega
          · have ei : slots = i := by omega
            subst ei
            have hb12 : b12 < slots := HP5.out.1
            have hbI : (b12 : Int) < (slots : Int) := by omega
            rw [filR_n] at hs
            have d4 : wr.cell? ⟨w.heap.size + 1, 4, none⟩ = some (.int .i64 (b12 : Int)) := cell_of_row _ _ _ _ _ _ hx
            have d5 : wr.cell? ⟨w.heap.size + 1, 5, none⟩ = some (.int .i64 e16) := cell_of_row _ _ _ _ _ _ hx
            have d0 : wr.cell? ⟨sb, b12, none⟩ = some (.int .i64 ((List.replicate slots (-3)).getD b12 0)) := ints_cell hs (by simpa using hb12)
            have f0 : wr.frozen? ⟨sb, b12, none⟩ = false := frozen_of_row _ _ _ _ 3 hs
            have hs9 := Go.heap_setCell_same wr sb b12 _ 3 (.int .i64 e16) hs
            rw [ints_set] at hs9
            have HS9 : Hid ((wr.setCell ⟨sb, b12, none⟩ (.int .i64 e16)).heap[sb]? = some (.cells (ints (zS slots b12 e16 b24 C 0)) 3 (0, 0))) := hide hs9
            have HY9 : Hid ((wr.setCell ⟨sb, b12, none⟩ (.int .i64 e16)).heap[w.heap.size]? = some (.cells zEnt 101 (0, 0))) := hide ((Go.heap_setCell_other _ _ _ _ (by show w.heap.size ≠ sb; omega)).trans hy)
            have HX9 : Hid ((wr.setCell ⟨sb, b12, none⟩ (.int .i64 e16)).heap[w.heap.size + 1]? = some (.cells (ctA b4 b8 b24 b12 e16 C 4) 101 (0, 0))) := hide ((Go.heap_setCell_other _ _ _ _ (by show w.heap.size + 1 ≠ sb; omega)).trans hx)
            have B9 : Hid (Below w.heap.size w (wr.setCell ⟨sb, b12, none⟩ (.int .i64 e16))) := hide (B7.out.setCell (by show w.heap.size ≤ sb; omega) _)
            clear hy hx hs hbw hs9 HY7 HX7 HS7 B7 his hi
            generalize (List.replicate slots (-3)).getD b12 0 = z0 at *
            go_wp2_with fail
            generalize wr.setCell ⟨sb, b12, none⟩ (.int .i64 e16) = y9 at *
            clear d4 d5 d0 f0
            go_loopw [13, 14] (fun x _ wr => ∃ j : Nat, j ≤ 4 ∧ x = .int .i64 (j : Int) ∧ ((wr.heap[w.heap.size]? = some (.cells zEnt 101 (0, 0)) ∧ wr.heap[w.heap.size + 1]? = some (.cells (ctA b4 b8 b24 b12 e16 C 4) 101 (0, 0))) ∧ wr.heap[sb]? = some (.cells (ints (zS slots b12 e16 b24 C j)) 3 (0, 0))) ∧ Below w.heap.size w wr ∧ ∀ i, i < j → zOk slots b12 e16 b24 C i) (fun x _ _ => 4 - (intOf x).toNat)
            case atStart => exact ⟨0, by omega, rfl, ⟨⟨HY9.out, HX9.out⟩, HS9.out⟩, B9.out, fun i h => by omega⟩
            case round =>
              clear HY9 HX9 HS9 B9
              obtain ⟨j, hj, rfl, ⟨⟨hy, hx⟩, hs⟩, hbw, hz⟩ := hrel
              have HYa := hide hy
              have HXa := hide hx
              have HSa := hide hs
              have Ba := hide hbw
              have HZ := hide hz
              clear hz
              by_cases hj4 : j < 4
              · have hsm : (b24 + j) % slots < slots := Nat.mod_lt _ (by omega)
                have hb24 : b24 < slots := HP5.out.2.1
                have e24 : IntKind.i64.wrap ((b24 : Int) + (j : Int)) = (b24 : Int) + (j : Int) := by simp [IntKind.wrap, IntKind.bits, IntKind.signed]; omega
                have etm : ((b24 : Int) + (j : Int)).tmod (slots : Int) = (((b24 + j) % slots : Nat) : Int) := by rw [Int.tmod_eq_emod_of_nonneg (by omega)]; simp
                have em2 : ((b24 : Int) + (j : Int)) % (slots : Int) = (((b24 + j) % slots : Nat) : Int) := by simp
                have ns0 : ¬ (slots : Int) = 0 := by omega
                have ns1 : ¬ slots = 0 := by omega
                have d3 : wr.cell? ⟨w.heap.size + 1, 3, none⟩ = some (.int .i64 (b24 : Int)) := cell_of_row _ _ _ _ _ _ hx
                have d6 : wr.cell? ⟨w.heap.size + 1, 6 + j, none⟩ = some (.int .i64 (C j)) := (cell_of_row _ _ _ _ _ _ hx).trans (ctA_get b4 b8 b24 b12 e16 C hj4)
                have ds : wr.cell? ⟨sb, (b24 + j) % slots, none⟩ = some (.int .i64 ((zS slots b12 e16 b24 C j).getD ((b24 + j) % slots) 0)) := ints_cell hs (by rw [zS_len]; exact hsm)
                have fs : wr.frozen? ⟨sb, (b24 + j) % slots, none⟩ = false := frozen_of_row _ _ _ _ 3 hs
                have hsb' := Go.heap_setCell_same wr sb ((b24 + j) % slots) _ 3 (.int .i64 (C j)) hs
                rw [ints_set] at hsb'
                have HSb : Hid ((wr.setCell ⟨sb, (b24 + j) % slots, none⟩ (.int .i64 (C j))).heap[sb]? = some (.cells (ints (zS slots b12 e16 b24 C (j + 1))) 3 (0, 0))) := hide hsb'
                have HYb : Hid ((wr.setCell ⟨sb, (b24 + j) % slots, none⟩ (.int .i64 (C j))).heap[w.heap.size]? = some (.cells zEnt 101 (0, 0))) := hide ((Go.heap_setCell_other _ _ _ _ (by show w.heap.size ≠ sb; omega)).trans hy)
                have HXb : Hid ((wr.setCell ⟨sb, (b24 + j) % slots, none⟩ (.int .i64 (C j))).heap[w.heap.size + 1]? = some (.cells (ctA b4 b8 b24 b12 e16 C 4) 101 (0, 0))) := hide ((Go.heap_setCell_other _ _ _ _ (by show w.heap.size + 1 ≠ sb; omega)).trans hx)
                have Bb : Hid (∀ k, Below w.heap.size w ((wr.drewN k).setCell ⟨sb, (b24 + j) % slots, none⟩ (.int .i64 (C j)))) := hide fun k => (hbw.trans (((Qt.refl _).drewN k).2.mono hbw.size)).setCell (by show w.heap.size ≤ sb; omega) _
                have HNO : Hid (C j ≠ -2 ∧ ((zS slots b12 e16 b24 C j).getD ((b24 + j) % slots) 0 = -3 ∨ (zS slots b12 e16 b24 C j).getD ((b24 + j) % slots) 0 = C j) → ∀ i, i < j + 1 → zOk slots b12 e16 b24 C i) := hide fun h i hi => by
                  by_cases e : i = j
                  · subst e; exact h
                  · exact HZ.out i (by omega)
                have HBAD : Hid (rOk l slots ext → C j ≠ -2 ∧ ((zS slots b12 e16 b24 C j).getD ((b24 + j) % slots) 0 = -3 ∨ (zS slots b12 e16 b24 C j).getD ((b24 + j) % slots) 0 = C j)) := hide fun h => (HROK.out h).2.2.2.2.2.1 j hj4
                have HYD : Hid (∀ k, (wr.drewN k).heap[w.heap.size]? = some (.cells zEnt 101 (0, 0))) := hide fun k => hy
                have BD : Hid (∀ k, Below w.heap.size w (wr.drewN k)) := hide fun k => hbw.trans (((Qt.refl _).drewN k).2.mono hbw.size)
                clear hy hx hs hbw hsb'
                generalize (zS slots b12 e16 b24 C j).getD ((b24 + j) % slots) 0 = Z at *
                generalize (b24 + j) % slots = s at *
                have hsI : (s : Int) < (slots : Int) := by omega
                have es : IntKind.i64.wrap (s : Int) = (s : Int) := by simp [IntKind.wrap, IntKind.bits, IntKind.signed]; omega
                generalize C j = cj at *
                by_cases hcj : cj = -2
                case pos =>
                  have HPO : Hid (rOk l slots ext → False) := hide fun h => (HBAD.out h).1 hcj
                  subst hcj
                  go_wp2_with fail
                  go_quiet (fail)
                  have HYd := hide (HYD.out nq)
                  have Bd := hide (BD.out nq)
                  generalize wr.drewN nq = yd at *
                  have HEX9 := hide (rowFacts HYd.out Bd.out zEnt)
                  go_wp2_with (first
                    | (refine wpList_store_row rfl 101 (.tmp 6) (.tmp 138) rfl w.heap.size zEnt (by first | rfl | simp [Act.eval, Act.put]) (by first | rfl | simp [Act.eval, Act.put, zEnt]) 101 zEnt HYd.out entSize rfl zEnt_one ?_)
                  )
                  refine bodyPost_ret (results_row_tmp1 (fn := Try.f72) (p := 6) (u := 7) (ty := 101) (by kernel_rfl) _ _ w.heap.size 101 zEnt (0, 0) _ rfl HEX9.out.1 Try.underlying101 rfl entSize) rfl ?_
                  exact ⟨.inr (.inr ⟨HNZ.out, fun h => HPO.out h, rfl⟩), HEX9.out.2⟩
                by_cases hz3 : Z = -3
                case pos =>
                  have HOK := hide (HNO.out ⟨hcj, .inl hz3⟩)
                  subst hz3
                  have bj : (cj == -2) = false := by simpa using hcj
                  go_wp2_with fail
                  go_quiet (fail)
                  go_wp2_with fail
                  go_roundw
                  case rel =>
                    repeat apply Exists.intro
                    refine ⟨⟨j + 1, by omega, by go_num, ⟨⟨HYb.out, HXb.out⟩, HSb.out⟩, Bb.out _, HOK.out⟩, rfl⟩
                  case measure => simp [intOf]; omega
                by_cases hzc : Z = cj
                case pos =>
                  have HOK := hide (HNO.out ⟨hcj, .inr hzc⟩)
                  subst hzc
                  have bj : (Z == -2) = false := by simpa using hcj
                  have bk : (Z == -3) = false := by simpa using hz3
                  have bk2 : (Z != -3) = true := by simpa using hz3
                  have bl2 : (Z != Z) = false := by simp
                  go_wp2_with fail
                  go_quiet (fail)
                  go_wp2_with fail
                  go_roundw
                  case rel =>
                    repeat apply Exists.intro
                    refine ⟨⟨j + 1, by omega, by go_num, ⟨⟨HYb.out, HXb.out⟩, HSb.out⟩, Bb.out _, HOK.out⟩, rfl⟩
                  case measure => simp [intOf]; omega
                have HPO : Hid (rOk l slots ext → False) := hide fun h => by
                  rcases (HBAD.out h).2 with h | h
                  · exact hz3 h
                  · exact hzc h
                have bj : (cj == -2) = false := by simpa using hcj
                have bk : (Z == -3) = false := by simpa using hz3
                have bl : (Z == cj) = false := by simpa using hzc
                have bk2 : (Z != -3) = true := by simpa using hz3
                have bl2 : (Z != cj) = true := by simpa using hzc
                go_wp2_with fail
                go_quiet (fail)
                have HYd := hide (HYD.out nq)
                have Bd := hide (BD.out nq)
                generalize wr.drewN nq = yd at *
                have HEX9 := hide (rowFacts HYd.out Bd.out zEnt)
                go_wp2_with (first
                  | (refine wpList_store_row rfl 101 (.tmp 6) (.tmp 138) rfl w.heap.size zEnt (by first | rfl | simp [Act.eval, Act.put]) (by first | rfl | simp [Act.eval, Act.put, zEnt]) 101 zEnt HYd.out entSize rfl zEnt_one ?_)
                )
                refine bodyPost_ret (results_row_tmp1 (fn := Try.f72) (p := 6) (u := 7) (ty := 101) (by kernel_rfl) _ _ w.heap.size 101 zEnt (0, 0) _ rfl HEX9.out.1 Try.underlying101 rfl entSize) rfl ?_
                exact ⟨.inr (.inr ⟨HNZ.out, fun h => HPO.out h, rfl⟩), HEX9.out.2⟩
              · have ej : j = 4 := by omega
                subst ej
                have hb24 : b24 < slots := HP5.out.2.1
                have d2 : wr.cell? ⟨w.heap.size + 1, 2, none⟩ = some (.int .i64 (b8 : Int)) := cell_of_row _ _ _ _ _ _ hx
                have d3 : wr.cell? ⟨w.heap.size + 1, 3, none⟩ = some (.int .i64 (b24 : Int)) := cell_of_row _ _ _ _ _ _ hx
                have e4 : IntKind.i64.wrap ((4 : Int) * (b8 : Int)) = (4 : Int) * (b8 : Int) := by simp [IntKind.wrap, IntKind.bits, IntKind.signed]; omega
                have etm : ((4 : Int) * (b8 : Int)).tmod (slots : Int) = ((4 * b8 % slots : Nat) : Int) := by rw [Int.tmod_eq_emod_of_nonneg (by omega)]; simp
                have em2 : ((4 : Int) * (b8 : Int)) % (slots : Int) = ((4 * b8 % slots : Nat) : Int) := by simp
                have ns0 : ¬ (slots : Int) = 0 := by omega
                have ns1 : ¬ slots = 0 := by omega
                have hrs : 4 * b8 % slots < slots := Nat.mod_lt _ (by omega)
                have HAG : Hid (rOk l slots ext → b8 < 65535 → b24 = 4 * b8 % slots) := hide fun h => (HROK.out h).2.2.2.2.2.2
                have HYD : Hid (∀ k, (wr.drewN k).heap[w.heap.size]? = some (.cells zEnt 101 (0, 0))) := hide fun k => hy
                have HXD : Hid (∀ k, (wr.drewN k).heap[w.heap.size + 1]? = some (.cells (ctA b4 b8 b24 b12 e16 C 4) 101 (0, 0))) := hide fun k => hx
                have BD : Hid (∀ k, Below w.heap.size w (wr.drewN k)) := hide fun k => hbw.trans (((Qt.refl _).drewN k).2.mono hbw.size)
                clear hy hx hs hbw HSa HYa HXa Ba hj4 hj
                generalize 4 * b8 % slots = rr at *
                have er : IntKind.i64.wrap (rr : Int) = (rr : Int) := by simp [IntKind.wrap, IntKind.bits, IntKind.signed]; omega
                by_cases hbad : b8 < 65535 ∧ b24 ≠ rr
                case pos =>
                  have HPO : Hid (rOk l slots ext → False) := hide fun h => hbad.2 (HAG.out h hbad.1)
                  have a1 : (b8 : Int) < 65535 := by omega
                  have a2 : ((b24 : Int) != (rr : Int)) = true := by simp only [bne_iff_ne, ne_eq]; omega
                  have a3 : ((b24 : Int) == (rr : Int)) = false := by simp only [beq_eq_false_iff_ne, ne_eq]; omega
                  clear hbad
                  go_wp2_with fail
                  go_quiet (fail)
                  have HYd := hide (HYD.out nq)
                  have Bd := hide (BD.out nq)
                  generalize wr.drewN nq = yd at *
                  have HEX9 := hide (rowFacts HYd.out Bd.out zEnt)
                  go_wp2_with (first
                    | (refine wpList_store_row rfl 101 (.tmp 6) (.tmp 159) rfl w.heap.size zEnt (by first | rfl | simp [Act.eval, Act.put]) (by first | rfl | simp [Act.eval, Act.put, zEnt]) 101 zEnt HYd.out entSize rfl zEnt_one ?_)
                  )
                  refine bodyPost_ret (results_row_tmp1 (fn := Try.f72) (p := 6) (u := 7) (ty := 101) (by kernel_rfl) _ _ w.heap.size 101 zEnt (0, 0) _ rfl HEX9.out.1 Try.underlying101 rfl entSize) rfl ?_
                  exact ⟨.inr (.inr ⟨HNZ.out, fun h => HPO.out h, rfl⟩), HEX9.out.2⟩
                have HAGE : Hid (b8 < 65535 → b24 = rr) := hide fun h => by
                  by_cases e : b24 = rr
                  · exact e
                  · exact absurd ⟨h, e⟩ hbad
                clear hbad
                by_cases ha : b8 < 65535
                case pos =>
                  have a1 : (b8 : Int) < 65535 := by omega
                  have a2 : ((b24 : Int) != (rr : Int)) = false := by have := HAGE.out ha; simp; omega
                  have a3 : ((b24 : Int) == (rr : Int)) = true := by have := HAGE.out ha; simp; omega
                  go_wp2_with fail
                  go_quiet (fail)
                  clear a1 a2 a3 ha
                  have HYe := hide (HYD.out nq)
                  have HXe := hide (HXD.out nq)
                  have Be := hide (BD.out nq)
                  generalize wr.drewN nq = ye at *
                  clear HYD HXD BD HROK
                  have he1 := HEI.out.1
                  have he2 := HEI.out.2.1
                  go_wp2_with fail
                  have he3 := HEI.out.2.2
                  have he4 : (44 : Int) ≤ (E : Int) := by omega
                  have he5 : (E : Int) ≤ (cap : Int) := by omega
                  have he6 : ((E : Int) - 44).toNat = E - 44 := by omega
                  have BE : Hid (∀ k, Below w.heap.size w (ye.drewN k)) := hide fun k => Be.out.trans (((Qt.refl _).drewN k).2.mono Be.out.size)
                  have HXE : Hid (∀ k, (ye.drewN k).heap[w.heap.size + 1]? = some (.cells (ctA b4 b8 b24 b12 e16 C 4) 101 (0, 0))) := hide fun k => HXe.out
                  have HYE : Hid (∀ k, (ye.drewN k).heap[w.heap.size]? = some (.cells zEnt 101 (0, 0))) := hide fun k => HYe.out
                  by_cases hbl : ∀ b ∈ (l.drop 44).take (E - 44), b = 0
                  case neg =>
                    have HBN : Hid (∀ x, Below w.heap.size w x → _) := hide fun x hx => HBM.out x hx
                    rw [decide_eq_false hbl] at HBN
                    have HPO : Hid (rOk l slots ext → False) := hide fun h => hbl (by have := h.bl; rwa [show l.length - 48 = E - 44 by omega] at this)
                    have HB5 : Hid (∀ k, Calls Try.prog 94 #[.slice (some ⟨g, off + 44, none⟩) (E - 44) (cap - 44)] (ye.drewN k) fun e w' => e = .returned (.bool false) ∧ w' = ye.drewN k) := hide fun k => HBN.out _ (BE.out k)
                    clear HBM hbl HBN HGE HCR
                    go_wp2_with fail
                    go_quiet (first | (go_at_call 94; with_reducible exact Calls.quiet_of_same (HB5.out _)))
                    have HYf := hide (HYE.out nq)
                    have Bf := hide (BE.out nq)
                    generalize ye.drewN nq = yf at *
                    have HEX9 := hide (rowFacts HYf.out Bf.out zEnt)
                    go_wp2_with (first
                      | (refine wpList_store_row rfl 101 (.tmp 6) (.tmp 179) rfl w.heap.size zEnt (by first | rfl | simp [Act.eval, Act.put]) (by first | rfl | simp [Act.eval, Act.put, zEnt]) 101 zEnt HYf.out entSize rfl zEnt_one ?_)
                    )
                    refine bodyPost_ret (results_row_tmp1 (fn := Try.f72) (p := 6) (u := 7) (ty := 101) (by kernel_rfl) _ _ w.heap.size 101 zEnt (0, 0) _ rfl HEX9.out.1 Try.underlying101 rfl entSize) rfl ?_
                    exact ⟨.inr (.inr ⟨HNZ.out, fun h => HPO.out h, rfl⟩), HEX9.out.2⟩
                  have HB5 : Hid (∀ k, Calls Try.prog 94 #[.slice (some ⟨g, off + 44, none⟩) (E - 44) (cap - 44)] (ye.drewN k) fun e w' => e = .returned (.bool true) ∧ w' = ye.drewN k) := hide fun k => by
                    have := HBM.out _ (BE.out k)
                    rw [decide_eq_true hbl] at this
                    exact this
                  have HG5 := hide fun k => HGE.out _ (BE.out k)
                  have HC5 : Hid (∀ k, Calls Try.prog 97 #[.slice (some ⟨g, off, none⟩) E cap] (ye.drewN k) fun e w' => e = .returned (.int .u32 (crcM 0 (l.take E) : Nat)) ∧ w' = ye.drewN k) := hide fun k => HCR.out _ (BE.out k)
                  have HMK2 : Hid (bvA l E 4 = crcM 0 (l.take E) → rOk l slots ext) := hide fun h => HMK.out HP5.out.1 HP5.out.2.1 (by have := HP6.out; omega) HP5.out.2.2.1 HP5.out.2.2.2 HZ.out HAGE.out (by rwa [show l.length - 48 = E - 44 by omega]) (by rwa [show l.length - 4 = E by omega])
                  have HNC : Hid (bvA l E 4 ≠ crcM 0 (l.take E) → rOk l slots ext → False) := hide fun h1 h => h1 (by have := h.cr; rwa [show l.length - 4 = E by omega] at this)
                  have hcl := HCL.out
                  have ent : entR l ext = ctA b4 b8 b24 b12 e16 C 4 := ENT.out
                  clear HBM HGE HCR HMK
                  generalize crcM 0 (l.take E) = cc at *
                  generalize bvA l E 4 = bb at *
                  have ecc : IntKind.i64.wrap (cc : Int) = (cc : Int) := by simp [IntKind.wrap, IntKind.bits, IntKind.signed]; omega
                  by_cases hcc : bb = cc
                  case neg =>
                    have HPO : Hid (rOk l slots ext → False) := hide (HNC.out hcc)
                    have hcI : ((bb : Int) != (cc : Int)) = true := by simp only [bne_iff_ne, ne_eq]; omega
                    have hcI2 : ((bb : Int) == (cc : Int)) = false := by simp only [beq_eq_false_iff_ne, ne_eq]; omega
                    go_wp2_with fail
                    go_quiet (first | (go_at_call 94; with_reducible exact Calls.quiet_of_same (HB5.out _)) | (go_at_call 95; with_reducible exact Calls.quiet_of_same (HG5.out _)) | (go_at_call 97; with_reducible exact Calls.quiet_of_same (HC5.out _)))
                    have HYf := hide (HYE.out nq)
                    have Bf := hide (BE.out nq)
                    generalize ye.drewN nq = yf at *
                    have HEX9 := hide (rowFacts HYf.out Bf.out zEnt)
                    go_wp2_with (first
                      | (refine wpList_store_row rfl 101 (.tmp 6) (.tmp 179) rfl w.heap.size zEnt (by first | rfl | simp [Act.eval, Act.put]) (by first | rfl | simp [Act.eval, Act.put, zEnt]) 101 zEnt HYf.out entSize rfl zEnt_one ?_)
                    )
                    refine bodyPost_ret (results_row_tmp1 (fn := Try.f72) (p := 6) (u := 7) (ty := 101) (by kernel_rfl) _ _ w.heap.size 101 zEnt (0, 0) _ rfl HEX9.out.1 Try.underlying101 rfl entSize) rfl ?_
                    exact ⟨.inr (.inr ⟨HNZ.out, fun h => HPO.out h, rfl⟩), HEX9.out.2⟩
                  have HROK5 : Hid (rOk l slots ext) := hide (HMK2.out hcc)
                  have hcI : ((bb : Int) != (cc : Int)) = false := by simp; omega
                  have hcI2 : ((bb : Int) == (cc : Int)) = true := by simp; omega
                  go_wp2_with fail
                  go_quiet (first | (go_at_call 94; with_reducible exact Calls.quiet_of_same (HB5.out _)) | (go_at_call 95; with_reducible exact Calls.quiet_of_same (HG5.out _)) | (go_at_call 97; with_reducible exact Calls.quiet_of_same (HC5.out _)))
                  have HYf := hide (HYE.out nq)
                  have HXf := hide (HXE.out nq)
                  have Bf := hide (BE.out nq)
                  generalize ye.drewN nq = yf at *
                  have HEX9 := hide (rowFacts HYf.out Bf.out (ctA b4 b8 b24 b12 e16 C 4))
                  go_wp2_with (first
                    | (refine wpList_load_row rfl 101 (.tmp 8) rfl (w.heap.size + 1) rfl 101 (ctA b4 b8 b24 b12 e16 C 4) (0, 0) _ HXf.out Try.underlying101 rfl entSize ?_)
                    | (refine wpList_store_row rfl 101 (.tmp 6) (.tmp 180) rfl w.heap.size (ctA b4 b8 b24 b12 e16 C 4) (by first | rfl | simp [Act.eval, Act.put]) (by first | rfl | simp [Act.eval, Act.put]) 101 zEnt HYf.out entSize rfl (entA_one ..) ?_))
                  refine bodyPost_ret (results_row_tmp1 (fn := Try.f72) (p := 6) (u := 7) (ty := 101) (by kernel_rfl) _ _ w.heap.size 101 (ctA b4 b8 b24 b12 e16 C 4) (0, 0) _ rfl HEX9.out.1 Try.underlying101 rfl entSize) rfl ?_
                  exact ⟨.inr (.inl ⟨HNZ.out, HROK5.out, by rw [ent]; rfl⟩), HEX9.out.2⟩
                have a1 : ¬ (b8 : Int) < 65535 := by omega
                have a1' : decide ((b8 : Int) < 65535) = false := decide_eq_false a1
                clear a1
                go_wp2_with fail
                go_quiet (fail)
                have HYe := hide (HYD.out nq)
                have HXe := hide (HXD.out nq)
                have Be := hide (BD.out nq)
                generalize wr.drewN nq = ye at *
                clear HYD HXD BD HROK
                have he1 := HEI.out.1
                have he2 := HEI.out.2.1
                go_wp2_with fail
                have he3 := HEI.out.2.2
                have he4 : (44 : Int) ≤ (E : Int) := by omega
                have he5 : (E : Int) ≤ (cap : Int) := by omega
                have he6 : ((E : Int) - 44).toNat = E - 44 := by omega
                have BE : Hid (∀ k, Below w.heap.size w (ye.drewN k)) := hide fun k => Be.out.trans (((Qt.refl _).drewN k).2.mono Be.out.size)
                have HXE : Hid (∀ k, (ye.drewN k).heap[w.heap.size + 1]? = some (.cells (ctA b4 b8 b24 b12 e16 C 4) 101 (0, 0))) := hide fun k => HXe.out
                have HYE : Hid (∀ k, (ye.drewN k).heap[w.heap.size]? = some (.cells zEnt 101 (0, 0))) := hide fun k => HYe.out
                by_cases hbl : ∀ b ∈ (l.drop 44).take (E - 44), b = 0
                case neg =>
                  have HBN : Hid (∀ x, Below w.heap.size w x → _) := hide fun x hx => HBM.out x hx
                  rw [decide_eq_false hbl] at HBN
                  have HPO : Hid (rOk l slots ext → False) := hide fun h => hbl (by have := h.bl; rwa [show l.length - 48 = E - 44 by omega] at this)
                  have HB5 : Hid (∀ k, Calls Try.prog 94 #[.slice (some ⟨g, off + 44, none⟩) (E - 44) (cap - 44)] (ye.drewN k) fun e w' => e = .returned (.bool false) ∧ w' = ye.drewN k) := hide fun k => HBN.out _ (BE.out k)
                  clear HBM hbl HBN HGE HCR
                  go_wp2_with fail
                  go_quiet (first | (go_at_call 94; with_reducible exact Calls.quiet_of_same (HB5.out _)))
                  have HYf := hide (HYE.out nq)
                  have Bf := hide (BE.out nq)
                  generalize ye.drewN nq = yf at *
                  have HEX9 := hide (rowFacts HYf.out Bf.out zEnt)
                  go_wp2_with (first
                    | (refine wpList_store_row rfl 101 (.tmp 6) (.tmp 179) rfl w.heap.size zEnt (by first | rfl | simp [Act.eval, Act.put]) (by first | rfl | simp [Act.eval, Act.put, zEnt]) 101 zEnt HYf.out entSize rfl zEnt_one ?_)
                  )
                  refine bodyPost_ret (results_row_tmp1 (fn := Try.f72) (p := 6) (u := 7) (ty := 101) (by kernel_rfl) _ _ w.heap.size 101 zEnt (0, 0) _ rfl HEX9.out.1 Try.underlying101 rfl entSize) rfl ?_
                  exact ⟨.inr (.inr ⟨HNZ.out, fun h => HPO.out h, rfl⟩), HEX9.out.2⟩
                have HB5 : Hid (∀ k, Calls Try.prog 94 #[.slice (some ⟨g, off + 44, none⟩) (E - 44) (cap - 44)] (ye.drewN k) fun e w' => e = .returned (.bool true) ∧ w' = ye.drewN k) := hide fun k => by
                  have := HBM.out _ (BE.out k)
                  rw [decide_eq_true hbl] at this
                  exact this
                have HG5 := hide fun k => HGE.out _ (BE.out k)
                have HC5 : Hid (∀ k, Calls Try.prog 97 #[.slice (some ⟨g, off, none⟩) E cap] (ye.drewN k) fun e w' => e = .returned (.int .u32 (crcM 0 (l.take E) : Nat)) ∧ w' = ye.drewN k) := hide fun k => HCR.out _ (BE.out k)
                have HMK2 : Hid (bvA l E 4 = crcM 0 (l.take E) → rOk l slots ext) := hide fun h => HMK.out HP5.out.1 HP5.out.2.1 (by have := HP6.out; omega) HP5.out.2.2.1 HP5.out.2.2.2 HZ.out HAGE.out (by rwa [show l.length - 48 = E - 44 by omega]) (by rwa [show l.length - 4 = E by omega])
                have HNC : Hid (bvA l E 4 ≠ crcM 0 (l.take E) → rOk l slots ext → False) := hide fun h1 h => h1 (by have := h.cr; rwa [show l.length - 4 = E by omega] at this)
                have hcl := HCL.out
                have ent : entR l ext = ctA b4 b8 b24 b12 e16 C 4 := ENT.out
                clear HBM HGE HCR HMK
                generalize crcM 0 (l.take E) = cc at *
                generalize bvA l E 4 = bb at *
                have ecc : IntKind.i64.wrap (cc : Int) = (cc : Int) := by simp [IntKind.wrap, IntKind.bits, IntKind.signed]; omega
                by_cases hcc : bb = cc
                case neg =>
                  have HPO : Hid (rOk l slots ext → False) := hide (HNC.out hcc)
                  have hcI : ((bb : Int) != (cc : Int)) = true := by simp only [bne_iff_ne, ne_eq]; omega
                  have hcI2 : ((bb : Int) == (cc : Int)) = false := by simp only [beq_eq_false_iff_ne, ne_eq]; omega
                  go_wp2_with fail
                  go_quiet (first | (go_at_call 94; with_reducible exact Calls.quiet_of_same (HB5.out _)) | (go_at_call 95; with_reducible exact Calls.quiet_of_same (HG5.out _)) | (go_at_call 97; with_reducible exact Calls.quiet_of_same (HC5.out _)))
                  have HYf := hide (HYE.out nq)
                  have Bf := hide (BE.out nq)
                  generalize ye.drewN nq = yf at *
                  have HEX9 := hide (rowFacts HYf.out Bf.out zEnt)
                  go_wp2_with (first
                    | (refine wpList_store_row rfl 101 (.tmp 6) (.tmp 179) rfl w.heap.size zEnt (by first | rfl | simp [Act.eval, Act.put]) (by first | rfl | simp [Act.eval, Act.put, zEnt]) 101 zEnt HYf.out entSize rfl zEnt_one ?_)
                  )
                  refine bodyPost_ret (results_row_tmp1 (fn := Try.f72) (p := 6) (u := 7) (ty := 101) (by kernel_rfl) _ _ w.heap.size 101 zEnt (0, 0) _ rfl HEX9.out.1 Try.underlying101 rfl entSize) rfl ?_
                  exact ⟨.inr (.inr ⟨HNZ.out, fun h => HPO.out h, rfl⟩), HEX9.out.2⟩
                have HROK5 : Hid (rOk l slots ext) := hide (HMK2.out hcc)
                have hcI : ((bb : Int) != (cc : Int)) = false := by simp; omega
                have hcI2 : ((bb : Int) == (cc : Int)) = true := by simp; omega
                go_wp2_with fail
                go_quiet (first | (go_at_call 94; with_reducible exact Calls.quiet_of_same (HB5.out _)) | (go_at_call 95; with_reducible exact Calls.quiet_of_same (HG5.out _)) | (go_at_call 97; with_reducible exact Calls.quiet_of_same (HC5.out _)))
                have HYf := hide (HYE.out nq)
                have HXf := hide (HXE.out nq)
                have Bf := hide (BE.out nq)
                generalize ye.drewN nq = yf at *
                have HEX9 := hide (rowFacts HYf.out Bf.out (ctA b4 b8 b24 b12 e16 C 4))
                go_wp2_with (first
                  | (refine wpList_load_row rfl 101 (.tmp 8) rfl (w.heap.size + 1) rfl 101 (ctA b4 b8 b24 b12 e16 C 4) (0, 0) _ HXf.out Try.underlying101 rfl entSize ?_)
                  | (refine wpList_store_row rfl 101 (.tmp 6) (.tmp 180) rfl w.heap.size (ctA b4 b8 b24 b12 e16 C 4) (by first | rfl | simp [Act.eval, Act.put]) (by first | rfl | simp [Act.eval, Act.put]) 101 zEnt HYf.out entSize rfl (entA_one ..) ?_))
                refine bodyPost_ret (results_row_tmp1 (fn := Try.f72) (p := 6) (u := 7) (ty := 101) (by kernel_rfl) _ _ w.heap.size 101 (ctA b4 b8 b24 b12 e16 C 4) (0, 0) _ rfl HEX9.out.1 Try.underlying101 rfl entSize) rfl ?_
                exact ⟨.inr (.inl ⟨HNZ.out, HROK5.out, by rw [ent]; rfl⟩), HEX9.out.2⟩
end Go.Proofs.Ytlkccencilhacaa
namespace Go.Proofs.Ytlkccencilhacaa
open Num
set_option linter.unusedVariables false
set_option linter.unusedSimpArgs false

theorem Places.uniq {slots ext : Nat} {bs : List (List Nat)} {P Q : List (Option Rc)} (h : Places slots ext bs P) (k : Places slots ext bs Q) : P = Q := by
  apply List.ext_getElem?
  intro i
  by_cases hi : i < bs.length
  · have e := (h.2 i hi).uniq (k.2 i hi)
    have hp : i < P.length := by rw [h.1]; exact hi
    have hq : i < Q.length := by rw [k.1]; exact hi
    rw [List.getD_eq_getElem?_getD, List.getD_eq_getElem?_getD, List.getElem?_eq_getElem hp, List.getElem?_eq_getElem hq] at e
    rw [List.getElem?_eq_getElem hp, List.getElem?_eq_getElem hq]
    exact congrArg some e
  · rw [List.getElem?_eq_none (by rw [h.1]; omega), List.getElem?_eq_none (by rw [k.1]; omega)]
theorem Newest.uniq {P : List (Option Rc)} {r r' : Rc} (h : Newest P r) (k : Newest P r') : r = r' := by
  obtain ⟨i, hi, he, hn⟩ := h
  obtain ⟨j, hj, ke, kn⟩ := k
  rcases Nat.lt_trichotomy i j with c | c | c
  · exact absurd he (kn i r c hi)
  · subst c
    rw [hi] at hj
    exact Option.some.inj (Option.some.inj hj)
  · exact absurd ke (hn j r' c hj)
theorem Run.uniq {P : List (Option Rc)} {r : Rc} {rs rs' : List Rc} (h : Run P r rs) (k : Run P r rs') : rs = rs' := by
  apply List.ext_getElem?
  intro i
  have hl : rs.length = rs'.length := by rw [h.len, k.len]
  by_cases hi : i < rs.length
  · have e1 := List.getElem?_eq_getElem hi
    have e2 := List.getElem?_eq_getElem (show i < rs'.length by omega)
    rw [e1, e2]
    by_cases h0 : i = 0
    · rw [(h.pl i _ e1).1 h0, (k.pl i _ e2).1 h0]
    · have a := (h.pl i _ e1).2 (by omega)
      have b := (k.pl i _ e2).2 (by omega)
      rw [a] at b
      exact b
  · rw [List.getElem?_eq_none (by omega), List.getElem?_eq_none (by omega)]
theorem Run.notBad {P : List (Option Rc)} {r : Rc} {rs : List Rc} (h : Run P r rs) (k : RunBad P r) : False := by
  obtain ⟨i, i1, i2, i3, hb⟩ := k
  have hi : i < rs.length := by rw [h.len]; omega
  have e1 := List.getElem?_eq_getElem hi
  have a := (h.pl i _ e1).2 (by omega)
  rcases hb with hb | ⟨q, q', hq, hq', hf⟩
  · rw [hb] at a; cases a
  · rw [hq'] at a
    have eq' := Option.some.inj a
    have hi' : i - 1 < rs.length := by omega
    have e0 := List.getElem?_eq_getElem hi'
    have hfo := h.fo (i - 1) _ _ e0 (by rw [show i - 1 + 1 = i by omega]; exact e1)
    have eq0 : q = rs[i - 1] := by
      rcases hq with ⟨c, rfl⟩ | ⟨c, hq⟩
      · exact ((h.pl (i - 1) _ e0).1 (by omega)).symm
      · have b := (h.pl (i - 1) _ e0).2 (by omega)
        rw [hq] at b
        exact Option.some.inj b
    rw [eq0, eq'] at hf
    exact hf hfo
/-- two answers of one ring are one -/
theorem RpRes.uniq {slots ext : Nat} {bs : List (List Nat)} {a b : Option (List Int × Nat)} (h : RpRes slots ext bs a) (k : RpRes slots ext bs b) : a = b := by
  have bad : ∀ {x : List Int × Nat}, RpRes slots ext bs none → RpRes slots ext bs (some x) → False := by
    rintro ⟨row, N⟩ h ⟨P, hP, hr⟩
    rcases h with ⟨i, hi, hn⟩ | ⟨Q, hQ, hne, hw⟩
    · exact hn _ (hP.2 i hi)
    · rw [hQ.uniq hP] at hne hw
      rcases hr with ⟨c, -, -⟩ | ⟨-, r, rs, hN, hR, -, -⟩
      · exact hne c
      · rcases hw with hw | ⟨r', hN', hB⟩
        · exact hw r hN
        · rw [← hN.uniq hN'] at hB
          exact hR.notBad hB
  rcases a with - | ⟨row, N⟩ <;> rcases b with - | ⟨row', N'⟩
  · rfl
  · exact (bad h k).elim
  · exact (bad k h).elim
  · obtain ⟨P, hP, hr⟩ := h
    obtain ⟨Q, hQ, kr⟩ := k
    rw [← hP.uniq hQ] at kr
    rcases hr with ⟨c, rfl, rfl⟩ | ⟨c, r, rs, hN, hR, rfl, rfl⟩ <;> rcases kr with ⟨d, rfl, rfl⟩ | ⟨d, r', rs', kN, kR, rfl, rfl⟩
    · rfl
    · exact absurd c d
    · exact absurd d c
    · have e := hN.uniq kN
      subst e
      rw [hR.uniq kR]
end Go.Proofs.Ytlkccencilhacaa
namespace Go.Proofs.Ytlkccencilhacaa
open Go.RowKit Go.Sort
open Num
set_option linter.unusedVariables false
set_option linter.unusedSimpArgs false
set_option maxRecDepth 20000

/-- a place's cells as the document's entry -/
def enC : Option Rc → Array Value
  | none => entA true 0 0 0 0 0 0 0 0 0
  | some r => #[.bool false, .int .u32 (r.num : Int), .int .i64 (r.age : Int), .int .i64 r.st, .int .i64 r.c0, .int .i64 r.c1, .int .i64 (r.C.getD 0 0), .int .i64 (r.C.getD 1 0), .int .i64 (r.C.getD 2 0), .int .i64 (r.C.getD 3 0)]
def flE (ps : List (Option Rc)) : List Value := ps.flatMap fun p => (enC p).toList
theorem enC_len (p : Option Rc) : (enC p).toList.length = 10 := by cases p <;> simp [enC, entA]
theorem flE_len : ∀ ps : List (Option Rc), (flE ps).length = ps.length * 10
  | [] => rfl
  | p :: ps => by
    have := flE_len ps
    unfold flE at this ⊢
    rw [List.flatMap_cons, List.length_append, this, enC_len, List.length_cons]
    omega
theorem flE_get : ∀ (ps : List (Option Rc)) (i j : Nat) (p : Option Rc), ps[i]? = some p → j < 10 → (flE ps)[i * 10 + j]? = (enC p).toList[j]?
  | [], i, j, r, h, _ => by simp at h
  | q :: rs, 0, j, r, h, hj => by
    simp only [List.getElem?_cons_zero, Option.some.injEq] at h
    subst h
    unfold flE
    rw [List.flatMap_cons, Nat.zero_mul, Nat.zero_add, List.getElem?_append_left (by rw [enC_len]; exact hj)]
  | q :: rs, i + 1, j, r, h, hj => by
    have ih := flE_get rs i j r (by simpa using h) hj
    unfold flE at ih ⊢
    rw [List.flatMap_cons, List.getElem?_append_right (by rw [enC_len]; omega), enC_len, show (i + 1) * 10 + j - 10 = i * 10 + j by omega]
    exact ih
/-- the document's entries in a row -/
def ERow (w : World) (v : Value) (ps : List (Option Rc)) : Prop := w.ownsRow 0 101 10 v ps.length (flE ps)
theorem ERow.range {w : World} {g cap : Nat} {ps : List (Option Rc)} (h : ERow w (.slice (some ⟨g, 0, none⟩) ps.length cap) ps) {i : Nat} {p : Option Rc} (hp : ps[i]? = some p) : w.rangeAt g (i * 10) (enC p).toList := by
  intro j v hj
  have hjl : j < 10 := by rw [← enC_len p]; exact (List.getElem?_eq_some_iff.1 hj).1
  have hi : i < ps.length := (List.getElem?_eq_some_iff.1 hp).1
  rw [h.cellAt (i * 10 + j) (by omega), flE_get ps i j p hp hjl]
  exact hj
/-- what read says, in the words of a place -/
def RrQ (l : List Nat) (slots ext : Nat) (e : Ending) : Prop :=
  (∃ p, ((p = none ∧ ∀ b ∈ l, b = 0) ∨ (p = some (prs l) ∧ (¬ ∀ b ∈ l, b = 0) ∧ (prs l).bytes l.length = l ∧ (prs l).Ok slots ext)) ∧ e = .returned (.tuple #[.agg (enC p), .bool true])) ∨
  ((¬ ∀ b ∈ l, b = 0) ∧ ¬ ((prs l).bytes l.length = l ∧ (prs l).Ok slots ext) ∧ e = .returned (.tuple #[.agg zEnt, .bool false]))
theorem RrP.q {l : List Nat} {slots ext : Nat} {e : Ending} (h : RrP l slots ext e) (hl : 48 ≤ l.length) (hb : ∀ b ∈ l, b < 256) (h1 : 1 ≤ slots) (h2 : slots ≤ 16) (he1 : 1 ≤ ext) (he : ext ≤ 1024) : RrQ l slots ext e := by
  have hq := read_eq hl hb h1 h2 he1 he
  rcases h with ⟨hz, rfl⟩ | ⟨hz, hok, rfl⟩ | ⟨hz, hno, rfl⟩
  · exact .inl ⟨none, .inl ⟨rfl, hz⟩, rfl⟩
  · refine .inl ⟨some (prs l), .inr ⟨rfl, hz, (hq.1 hok).1, (hq.1 hok).2⟩, ?_⟩
    have x4 : ∀ i, bvA l i 4 < 4294967296 := fun i => bvA_lt4 l hb i 4 (by omega)
    have sg : ∀ x, x < 16 → sgI x = (x : Int) := fun x hx => by unfold sgI; rw [if_pos (by omega)]
    have ho := (hq.1 hok).2
    have a1 : extR (bvA l 16 4) ext = sgI (bvA l 16 4) := by
      rcases extR_ok (x4 16) he (by have := hok.c1; omega) with ⟨h, -⟩ | h
      · exact h.symm
      · omega
    have a2 : ∀ j, j < 4 → extR (bvA l (28 + 4 * j) 4) ext = sgI (bvA l (28 + 4 * j) 4) := fun j hj => by
      rcases extR_ok (x4 (28 + 4 * j)) he (hok.cx j hj).1 with ⟨h, -⟩ | h
      · exact h.symm
      · omega
    have e0 := a2 0 (by omega)
    have e1 := a2 1 (by omega)
    have e2 := a2 2 (by omega)
    have e3 := a2 3 (by omega)
    have b1 := sg (bvA l 24 4) (by have := hok.st; omega)
    have b2 := sg (bvA l 12 4) (by have := hok.c0; omega)
    simp only [Nat.mul_zero, Nat.add_zero, Nat.mul_one, Nat.reduceMul, Nat.reduceAdd] at e0 e1 e2 e3
    show _ = Ending.returned (.tuple #[.agg #[.bool false, .int .u32 ((bvA l 4 4 : Nat) : Int), .int .i64 ((bvA l 8 2 : Nat) : Int), .int .i64 (sgI (bvA l 24 4)), .int .i64 (sgI (bvA l 12 4)), .int .i64 (sgI (bvA l 16 4)), .int .i64 (sgI (bvA l 28 4)), .int .i64 (sgI (bvA l 32 4)), .int .i64 (sgI (bvA l 36 4)), .int .i64 (sgI (bvA l 40 4))], .bool true])
    rw [b1, b2, ← a1, ← e0, ← e1, ← e2, ← e3]
    rfl
  · exact .inr ⟨hz, fun h => hno (hq.2 h), rfl⟩
end Go.Proofs.Ytlkccencilhacaa
namespace Go.Proofs.Ytlkccencilhacaa
open Go.RowKit Go.Sort
open Num
set_option linter.unusedVariables false
set_option linter.unusedSimpArgs false
set_option maxRecDepth 20000

/-- while newest looks -/
structure NwI (P : List (Option Rc)) (n d : Nat) (b : Bool) : Prop where
  le : d ≤ P.length
  en : b = true ↔ ∃ k, k < d ∧ pAt P (wd n k) = none
  ok : ∀ k, k < d → ∀ r, pAt P (wd n k) = some r → r.num = wd n k ∧ ∀ k', k' < k → pAt P (wd n k') ≠ none
theorem NwI.zero (P : List (Option Rc)) (n : Nat) : NwI P n 0 false := ⟨Nat.zero_le _, ⟨fun h => by simp at h, fun ⟨k, h, _⟩ => by omega⟩, fun k h => by omega⟩
theorem NwI.blank {P : List (Option Rc)} {n d : Nat} {b : Bool} (h : NwI P n d b) (hd : d < P.length) (hp : pAt P (wd n d) = none) : NwI P n (d + 1) true := by
  refine ⟨hd, ⟨fun _ => ⟨d, by omega, hp⟩, fun _ => rfl⟩, fun k hk r hr => ?_⟩
  by_cases e : k = d
  · subst e; rw [hp] at hr; cases hr
  · exact h.ok k (by omega) r hr
theorem NwI.rec_ {P : List (Option Rc)} {n d : Nat} (h : NwI P n d false) (hd : d < P.length) {r : Rc} (hp : pAt P (wd n d) = some r) (hn : r.num = wd n d) : NwI P n (d + 1) false := by
  have hno : ∀ k, k < d → pAt P (wd n k) ≠ Option.none := fun k hk e => by
    have := h.en.2 ⟨k, hk, e⟩
    cases this
  refine ⟨hd, ⟨fun h => (by cases h), fun ⟨k, hk, e⟩ => ?_⟩, fun k hk q hq => ?_⟩
  · by_cases ek : k = d
    · subst ek; rw [hp] at e; cases e
    · exact absurd e (hno k (by omega))
  · by_cases e : k = d
    · subst e
      rw [hp] at hq
      rw [← Option.some.inj hq]
      exact ⟨hn, fun k' hk' => hno k' hk'⟩
    · exact h.ok k (by omega) q hq
theorem NwI.bad {P : List (Option Rc)} {n d : Nat} {b : Bool} (h : NwI P n d b) (hd : d < P.length) {r : Rc} (hp : pAt P (wd n d) = Option.some r) (hn : b = true ∨ r.num ≠ wd n d) : ¬ EndAt P n := fun he => by
  obtain ⟨h1, h2⟩ := he d hd r hp
  rcases hn with hb | hn
  · obtain ⟨k, hk, e⟩ := h.en.1 hb
    exact h2 k hk e
  · exact hn h1
theorem NwI.end_ {P : List (Option Rc)} {n : Nat} {b : Bool} (h : NwI P n P.length b) : EndAt P n := fun k hk r hr => h.ok k hk r hr
theorem r_rem (ev : Operand → Value) (w : World) (o : Oper) (s t k n : Nat) (ho : o.op = .binOp .rem 3 (.tmp s) (.tmp t) 3) (h : ev (.tmp s) = .int .i64 (k : Int)) (h2 : ev (.tmp t) = .int .i64 (n : Int)) (hn : 1 ≤ n) (hk : k < 9223372036854775807) : (execOp ev o).run Try.prog w = .ok (.value (.int .i64 ((k % n : Nat) : Int))) w := by
  cases o
  cases ho
  have htm : (k : Int).tmod (n : Int) = ((k % n : Nat) : Int) := by rw [Int.tmod_eq_emod_of_nonneg (by omega)]; simp
  have hn0 : ¬ (n : Int) = 0 := by omega
  have hn1 : ¬ n = 0 := by omega
  have hl : k % n ≤ k := Nat.mod_le _ _
  generalize k % n = m at *
  have hw : IntKind.i64.wrap (m : Int) = (m : Int) := by simp [IntKind.wrap, IntKind.bits, IntKind.signed]; omega
  simp [execOp, h, h2, go_sem, htm, hn0, hn1, hw]
theorem wpList_rem {ops : Array Oper} {rest : List Oper} {o : Oper} {a : Act} {w : World} {Q : Exit → Act → World → Prop} (hgd : o.guard = none) (s t : Nat) (ho : o.op = .binOp .rem 3 (.tmp s) (.tmp t) 3) (k n : Nat) (h : a.eval (.tmp s) = .int .i64 (k : Int)) (h2 : a.eval (.tmp t) = .int .i64 (n : Int)) (hn : 1 ≤ n) (hk : k < 9223372036854775807) (hh : wpList Try.prog ops Q rest (a.put o.dst (.int .i64 ((k % n : Nat) : Int))) w) : wpList Try.prog ops Q (o :: rest) a w :=
  wpList_plain hgd fun K hK => opv (r_rem _ w o s t k n ho h h2 hn hk) (hK _ _ hh)
theorem enC_lit (p : Option Rc) : ∃ f : Bool, ∃ nu ag : Nat, ∃ st c0 c1 z0 z1 z2 z3 : Int, enC p = #[.bool f, .int .u32 (nu : Int), .int .i64 (ag : Int), .int .i64 st, .int .i64 c0, .int .i64 c1, .int .i64 z0, .int .i64 z1, .int .i64 z2, .int .i64 z3] ∧ (f = true ↔ p = none) ∧ ∀ r, p = some r → r.num = nu ∧ r.age = ag ∧ r.st = st ∧ r.c0 = c0 ∧ r.c1 = c1 ∧ r.C.getD 0 0 = z0 ∧ r.C.getD 1 0 = z1 ∧ r.C.getD 2 0 = z2 ∧ r.C.getD 3 0 = z3 := by
  rcases p with - | r
  · exact ⟨true, 0, 0, 0, 0, 0, 0, 0, 0, 0, rfl, by simp, fun r h => by cases h⟩
  · exact ⟨false, r.num, r.age, r.st, r.c0, r.c1, _, _, _, _, rfl, by simp, fun q h => by cases h; exact ⟨rfl, rfl, rfl, rfl, rfl, rfl, rfl, rfl, rfl⟩⟩
set_option maxHeartbeats 4000000 in
theorem newestR_any {w : World} {g cap n : Nat} {P : List (Option Rc)} (h : ERow w (.slice (some ⟨g, 0, none⟩) P.length cap) P) (h1 : 1 ≤ P.length) (h2 : P.length ≤ 4) (hn : n < 4294967296) (hg : g < w.heap.size) :
    Calls Try.prog 44 #[.slice (some ⟨g, 0, none⟩) P.length cap, .int .u32 (n : Int)] w (BoolP w (EndAt P n)) := by
  have HR := hide h
  clear h
  go_enter Try.func44, Try.ntmps44
  go_wp2_with fail
  go_loopw [5, 6] (fun bv x wr => ∃ (d : Nat) (b : Bool), x = .int .i64 (d : Int) ∧ bv = .bool b ∧ NwI P n d b ∧ Below w.heap.size w wr) (fun _ x _ => P.length - (intOf x).toNat)
  case atStart => exact ⟨0, false, rfl, rfl, NwI.zero P n, Below.refl _ _⟩
  case round =>
    obtain ⟨d, b, rfl, rfl, hi, hbw⟩ := hrel
    have HI := hide hi
    clear hi
    by_cases hlt : d < P.length
    · have hk : IntKind.u32.wrap ((n : Int) - (d : Int)) = ((wd n d : Nat) : Int) := by unfold wd; simp [IntKind.wrap, IntKind.bits, IntKind.signed]; omega
      have hdw : IntKind.u32.wrap (d : Int) = (d : Int) := by simp [IntKind.wrap, IntKind.bits, IntKind.signed]; omega
      have hkw : wd n d < 4294967296 := by unfold wd; omega
      have hki : IntKind.i64.wrap ((wd n d : Nat) : Int) = ((wd n d : Nat) : Int) := by simp [IntKind.wrap, IntKind.bits, IntKind.signed]; omega
      have hix : wd n d % P.length < P.length := Nat.mod_lt _ (by omega)
      have hRw : ERow wr (.slice (some ⟨g, 0, none⟩) P.length cap) P := rowKept HR.out fun b e => hbw.block b (by cases e; exact hg)
      have hpe : P[wd n d % P.length]? = some (pAt P (wd n d)) := by
        unfold pAt
        rw [List.getD_eq_getElem?_getD, List.getElem?_eq_getElem hix]
        rfl
      have hra := hRw.range hpe
      clear hRw hpe
      have HBL : Hid (pAt P (wd n d) = none → NwI P n (d + 1) true) := hide fun e => HI.out.blank hlt e
      have HRC : Hid (∀ r, b = false → pAt P (wd n d) = some r → r.num = wd n d → NwI P n (d + 1) false) := hide fun r e e1 e2 => by
        have := HI.out
        rw [e] at this
        exact this.rec_ hlt e1 e2
      have HBD : Hid (∀ r, pAt P (wd n d) = some r → (b = true ∨ r.num ≠ wd n d) → ¬ EndAt P n) := hide fun r e1 e2 => HI.out.bad hlt e1 e2
      clear HI
      obtain ⟨p, hp⟩ : ∃ p, pAt P (wd n d) = p := ⟨_, rfl⟩
      rw [hp] at hra HBL HRC HBD
      clear hp
      obtain ⟨f, nu, ag, st, c0, c1, z0, z1, z2, z3, e1, e2, e3⟩ := enC_lit p
      rw [e1] at hra
      have HN1 : Hid (f = true → NwI P n (d + 1) true) := hide fun e => HBL.out (e2.1 e)
      have HN2 : Hid (f = false → b = false → nu = wd n d → NwI P n (d + 1) false) := hide fun e eb en => by
        rcases p with - | r
        · rw [e2.2 rfl] at e; cases e
        · exact HRC.out r eb rfl (by rw [(e3 r rfl).1, en])
      have HN3 : Hid (f = false → (b = true ∨ nu ≠ wd n d) → ¬ EndAt P n) := hide fun e en => by
        rcases p with - | r
        · rw [e2.2 rfl] at e; cases e
        · exact HBD.out r rfl (by rw [(e3 r rfl).1]; exact en)
      clear e1 e2 e3 HBL HRC HBD
      generalize wd n d = k at *
      obtain ⟨ix, hixe⟩ : ∃ ix, k % P.length = ix := ⟨_, rfl⟩
      rw [hixe] at hra hix
      have HIE := hide hixe
      clear hixe
      have hiI : (ix : Int) < (P.length : Int) := by omega
      have HRb : Hid (wr.rangeAt g (ix * 10) [.bool f, .int .u32 (nu : Int), .int .i64 (ag : Int), .int .i64 st, .int .i64 c0, .int .i64 c1, .int .i64 z0, .int .i64 z1, .int .i64 z2, .int .i64 z3]) := hide hra
      have HZ : Hid ((wr.alloc (.cells zEnt 101)).heap[wr.heap.size]? = some (.cells zEnt 101 (0, 0))) := hide (Go.heap_alloc_new wr (.cells zEnt 101))
      have HB1 : Hid (Below w.heap.size w (wr.alloc (.cells #[.bool f, .int .u32 (nu : Int), .int .i64 (ag : Int), .int .i64 st, .int .i64 c0, .int .i64 c1, .int .i64 z0, .int .i64 z1, .int .i64 z2, .int .i64 z3] 101))) := hide (hbw.alloc hbw.size _)
      clear hra hbw HR
      generalize EndAt P n = ED at *
      cases f with
      | true =>
        go_wp2_with (first
          | (refine wpList_rem (by rfl) 21 23 (by rfl) k P.length (by rfl) (by rfl) h1 (Nat.lt_trans hkw (by decide)) ?_; rw [HIE.out])
          | refine wpList_load_mid rfl 101 (.tmp 25) rfl g (ix * 10) rfl _ _ HRb.out Try.underlying101 rfl entSize ?_
          | (refine wpList_store_row rfl 101 (.tmp 8) (.tmp 26) rfl wr.heap.size _ rfl rfl 101 zEnt HZ.out entSize rfl (by first | kernel_rfl | simp [Value.oneCell']) ?_; rw [World.setRow_alloc_new]))
        go_roundw
        case rel => exact ⟨d + 1, true, by go_num, rfl, HN1.out rfl, HB1.out⟩
        case measure => simp [intOf]; omega
      | false =>
        cases b with
        | true =>
          go_wp2_with (first
            | (refine wpList_rem (by rfl) 21 23 (by rfl) k P.length (by rfl) (by rfl) h1 (Nat.lt_trans hkw (by decide)) ?_; rw [HIE.out])
            | refine wpList_load_mid rfl 101 (.tmp 25) rfl g (ix * 10) rfl _ _ HRb.out Try.underlying101 rfl entSize ?_
            | (refine wpList_store_row rfl 101 (.tmp 8) (.tmp 26) rfl wr.heap.size _ rfl rfl 101 zEnt HZ.out entSize rfl (by first | kernel_rfl | simp [Value.oneCell']) ?_; rw [World.setRow_alloc_new]))
          go_ret
          exact ⟨false, rfl, by simp only [Bool.false_eq_true, false_iff]; exact HN3.out (by first | trivial | rfl) (.inl (by first | trivial | rfl)), HB1.out⟩
        | false =>
          by_cases hnk : nu = k
          · subst hnk
            go_wp2_with (first
              | (refine wpList_rem (by rfl) 21 23 (by rfl) nu P.length (by rfl) (by rfl) h1 (Nat.lt_trans hkw (by decide)) ?_; rw [HIE.out])
              | refine wpList_load_mid rfl 101 (.tmp 25) rfl g (ix * 10) rfl _ _ HRb.out Try.underlying101 rfl entSize ?_
              | (refine wpList_store_row rfl 101 (.tmp 8) (.tmp 26) rfl wr.heap.size _ rfl rfl 101 zEnt HZ.out entSize rfl (by first | kernel_rfl | simp [Value.oneCell']) ?_; rw [World.setRow_alloc_new]))
            go_roundw
            case rel => exact ⟨d + 1, false, by go_num, rfl, HN2.out rfl rfl rfl, HB1.out⟩
            case measure => simp [intOf]; omega
          · have hnk' : ¬ (nu : Int) = (k : Int) := by omega
            have HNK := hide hnk
            clear hnk
            go_wp2_with (first
              | (refine wpList_rem (by rfl) 21 23 (by rfl) k P.length (by rfl) (by rfl) h1 (Nat.lt_trans hkw (by decide)) ?_; rw [HIE.out])
              | refine wpList_load_mid rfl 101 (.tmp 25) rfl g (ix * 10) rfl _ _ HRb.out Try.underlying101 rfl entSize ?_
              | (refine wpList_store_row rfl 101 (.tmp 8) (.tmp 26) rfl wr.heap.size _ rfl rfl 101 zEnt HZ.out entSize rfl (by first | kernel_rfl | simp [Value.oneCell']) ?_; rw [World.setRow_alloc_new]))
            go_ret
            exact ⟨false, rfl, by simp only [Bool.false_eq_true, false_iff]; exact HN3.out (by first | trivial | rfl) (.inr HNK.out), HB1.out⟩
    · have hd : d = P.length := by have := HI.out.le; omega
      subst hd
      have HE : Hid (EndAt P n) := hide HI.out.end_
      clear HI
      go_wp2_with fail
      go_ret
      exact ⟨true, rfl, ⟨fun _ => HE.out, fun _ => rfl⟩, hbw⟩
end Go.Proofs.Ytlkccencilhacaa
namespace Go.Proofs.Ytlkccencilhacaa
open Go.RowKit Go.Sort
open Num
set_option linter.unusedVariables false
set_option linter.unusedSimpArgs false
set_option maxRecDepth 20000

theorem info_ent : (Try.prog.info? 101).map (fun i => (i.zero, i.size, i.bytes)) = some (some (.agg zEnt), 10, 72) := by kernel_rfl
/-- while run gathers, the oldest first: the records m, m - 1, .. i are there -/
structure RnI (w wr : World) (P : List (Option Rc)) (n m i : Nat) (r : Rc) (qs : List Rc) (v : Value) : Prop where
  be : Below w.heap.size w wr
  box : wr.heap[w.heap.size]? = some (.cells (enC (some r)) 101 (0, 0))
  row : ERow wr v (qs.map some)
  own : ∀ b, v.ownBlock = some b → w.heap.size < b
  len : qs.length = (m + 1) - i
  pl : ∀ j q, qs[j]? = some q → pAt P (wd n (m - j)) = some q
  fo : ∀ j q q', qs[j]? = some q → qs[j + 1]? = some q' → Fol q' q
theorem RnI.below {w x y : World} {P : List (Option Rc)} {n m i : Nat} {r : Rc} {qs : List Rc} {v : Value} (h : RnI w x P n m i r qs v) (hb : Below x.heap.size x y) : RnI w y P n m i r qs v := by
  refine ⟨h.be.trans (hb.mono h.be.size), (hb.block _ (Array.getElem?_eq_some_iff.1 h.box).1).trans h.box, rowKept h.row fun g hg => ?_, h.own, h.len, h.pl, h.fo⟩
  obtain ⟨cs, hc⟩ := rowCells h.row hg
  exact hb.block _ (Array.getElem?_eq_some_iff.1 hc).1
theorem RnI.skip {w x : World} {P : List (Option Rc)} {n m d : Nat} {r : Rc} {qs : List Rc} {v : Value} (h : RnI w x P n m (d + 1) r qs v) (hd : m < d) : RnI w x P n m d r qs v := ⟨h.be, h.box, h.row, h.own, by rw [h.len]; omega, h.pl, h.fo⟩
theorem RnI.more {w x w6 : World} {P : List (Option Rc)} {n m d : Nat} {r q : Rc} {qs : List Rc} {v v6 : Value} {o : Obj} (h : RnI w x P n m (d + 1) r qs v) (hd : d ≤ m) (ho : w6.ownsRow 0 101 10 v6 (qs.length + 1) (flE (qs.map some) ++ (enC (some q)).toList)) (hu : UponC (x.alloc o) w6 v v6) (hq : pAt P (wd n d) = some q) (hf : ∀ y, qs[qs.length - 1]? = some y → 0 < qs.length → Fol q y) : RnI w w6 P n m d r (qs ++ [q]) v6 := by
  have hb0 := (Below.refl x.heap.size x).alloc (Nat.le_refl _) o
  have hb : Below (w.heap.size + 1) x w6 := by
    obtain ⟨e1, e2, e3⟩ := hu.same
    refine ⟨e1, e2, e3, Nat.le_trans (by simp) hu.size, fun b hb => ?_⟩
    have hbx := (Array.getElem?_eq_some_iff.1 h.box).1
    rw [hu.block b (by simp; omega) (fun e => by have := h.own b e; omega)]
    exact hb0.block b (by omega)
  have hl := h.len
  refine ⟨h.be.trans (hb.mono (by omega)), (hb.block _ (by omega)).trans h.box, by unfold ERow; rw [List.map_append, List.length_append, List.length_map]; simpa [flE] using ho, fun b e => ?_, by rw [List.length_append, hl]; simp; omega, fun k q' hk => ?_, fun k a b hka hkb => ?_⟩
  · rcases hu.loc b e with h1 | h1
    · exact h.own b h1
    · have hbx := (Array.getElem?_eq_some_iff.1 h.box).1
      rw [h1]; simp; omega
  · by_cases e : k < qs.length
    · rw [List.getElem?_append_left e] at hk
      exact h.pl k q' hk
    · rw [List.getElem?_append_right (by omega)] at hk
      have hk0 : k = qs.length := by
        rcases Nat.lt_or_ge qs.length k with h9 | h9
        · rw [List.getElem?_eq_none (by simp; omega)] at hk; cases hk
        · omega
      subst hk0
      simp at hk
      subst hk
      rw [hl, show m - (m + 1 - (d + 1)) = d by omega]
      exact hq
  · by_cases e : k + 1 < qs.length
    · rw [List.getElem?_append_left (by omega)] at hka
      rw [List.getElem?_append_left e] at hkb
      exact h.fo k a b hka hkb
    · have hk0 : k + 1 = qs.length := by
        rcases Nat.lt_or_ge qs.length (k + 1) with h9 | h9
        · rw [List.getElem?_eq_none (by simp; omega)] at hkb; cases hkb
        · omega
      rw [List.getElem?_append_left (by omega)] at hka
      rw [List.getElem?_append_right (by omega), show k + 1 - qs.length = 0 by omega] at hkb
      simp at hkb
      subst hkb
      exact hf a (by rw [← hk0]; simpa using hka) (by omega)
theorem wd_zero {n : Nat} (h : n < 4294967296) : wd n 0 = n := by unfold wd; omega
theorem RnI.run {w x : World} {P : List (Option Rc)} {n m : Nat} {r : Rc} {qs : List Rc} {v : Value} (h : RnI w x P n m 0 r qs v) (hn : n < 4294967296) (hm : m = min (P.length - 1) r.age) (hP : 1 ≤ P.length) (hr : pAt P n = some r) (hrn : r.num = n) : Run P r qs.reverse := by
  have hl := h.len
  have hget : ∀ k q, qs.reverse[k]? = some q → k < qs.length ∧ qs[qs.length - 1 - k]? = some q := fun k q hk => by
    have hkl : k < qs.length := by have := (List.getElem?_eq_some_iff.1 hk).1; simpa using this
    rw [List.getElem?_reverse hkl] at hk
    exact ⟨hkl, hk⟩
  refine ⟨by rw [List.length_reverse]; omega, fun k q hk => ?_, fun k q q' hk hk' => ?_⟩
  · obtain ⟨hkl, hk⟩ := hget k q hk
    have hp := h.pl _ _ hk
    rw [show m - (qs.length - 1 - k) = k by omega] at hp
    refine ⟨fun e => ?_, fun _ => by rw [hrn]; exact hp⟩
    subst e
    rw [wd_zero hn, hr] at hp
    exact (Option.some.inj hp).symm
  · obtain ⟨hkl, hk⟩ := hget k q hk
    obtain ⟨hkl', hk'⟩ := hget (k + 1) q' hk'
    exact h.fo (qs.length - 1 - (k + 1)) q' q hk' (by rw [show qs.length - 1 - (k + 1) + 1 = qs.length - 1 - k by omega]; exact hk)
theorem run_blank {P : List (Option Rc)} {n m d : Nat} {r : Rc} (hn : n < 4294967296) (hm : m = min (P.length - 1) r.age) (hP : 1 ≤ P.length) (hr : pAt P n = some r) (hrn : r.num = n) (hd : d ≤ m) (h : pAt P (wd n d) = none) : RunBad P r := by
  refine ⟨d, ?_, by omega, by omega, .inl (by rw [hrn]; exact h)⟩
  rcases d with - | d
  · rw [wd_zero hn, hr] at h; cases h
  · omega
theorem RnI.bad {w x : World} {P : List (Option Rc)} {n m d : Nat} {r q y : Rc} {qs : List Rc} {v : Value} (h : RnI w x P n m (d + 1) r qs v) (hn : n < 4294967296) (hm : m = min (P.length - 1) r.age) (hr : pAt P n = some r) (hrn : r.num = n) (hk : 0 < qs.length) (hy : qs[qs.length - 1]? = some y) (hq : pAt P (wd n d) = some q) (hf : ¬ Fol q y) : RunBad P r := by
  have hl := h.len
  have hp := h.pl _ _ hy
  rw [show m - (qs.length - 1) = d + 1 by omega] at hp
  refine ⟨d + 1, by omega, by omega, by omega, .inr ⟨q, y, ?_, by rw [hrn]; exact hp, hf⟩⟩
  rcases d with - | d
  · left
    rw [wd_zero hn, hr] at hq
    exact ⟨rfl, (Option.some.inj hq).symm⟩
  · exact .inr ⟨by omega, by rw [hrn]; exact hq⟩
theorem fol_iff {q y : Rc} {s : Nat} (gq : GdR q s) (gy : GdR y s) : Fol q y ↔ ((q.age = y.age + 1 ∨ (q.age = 65535 ∧ y.age = 65535)) ∧ q.st = (y.st + 4) % (s : Int)) := by
  unfold Fol
  rw [gq.s]
  have := gq.a
  have := gy.a
  constructor
  · rintro ⟨h1, h2⟩
    exact ⟨by omega, h2⟩
  · rintro ⟨h1, h2⟩
    exact ⟨by omega, h2⟩
theorem setRow_new2 (w : World) (A : Obj) (c c' : Array Value) (t : TypeId) : ((w.alloc A).alloc (.cells c t)).setRow (w.heap.size + 1) c' = (w.alloc A).alloc (.cells c' t) := by
  have h := World.setRow_alloc_new (w.alloc A) c c' t
  rwa [World.size_alloc] at h
theorem wrap_u (d : Nat) (h : d < 4294967296) : IntKind.u32.wrap (d : Int) = (d : Int) := by simp [IntKind.wrap, IntKind.bits, IntKind.signed]; omega
theorem wrap_i (k : Nat) (h : k < 4294967296) : IntKind.i64.wrap (k : Int) = (k : Int) := by simp [IntKind.wrap, IntKind.bits, IntKind.signed]; omega
theorem wrap_s (n d : Nat) (hn : n < 4294967296) (hd : d ≤ 4) : IntKind.u32.wrap ((n : Int) - (d : Int)) = ((wd n d : Nat) : Int) := by unfold wd; simp [IntKind.wrap, IntKind.bits, IntKind.signed]; omega
theorem wd_lt (n d : Nat) : wd n d < 4294967296 := by unfold wd; omega
theorem wrap_p (k : Nat) (h1 : 1 ≤ k) (h2 : k ≤ 4) : IntKind.i64.wrap ((k : Int) - 1) = ((k - 1 : Nat) : Int) := by simp [IntKind.wrap, IntKind.bits, IntKind.signed]; omega
theorem r_eql (ev : Operand → Value) (w : World) (o : Oper) (s t : Nat) (x y : Int) (b : Bool) (ho : o.op = .binOp .eql 3 (.tmp s) (.tmp t) 3) (h : ev (.tmp s) = .int .i64 x) (h2 : ev (.tmp t) = .int .i64 y) (hb : (x == y) = b) : (execOp ev o).run Try.prog w = .ok (.value (.bool b)) w := by
  cases o
  cases ho
  subst hb
  simp [execOp, h, h2, go_sem]
theorem wpList_eql {ops : Array Oper} {rest : List Oper} {o : Oper} {a : Act} {w : World} {Q : Exit → Act → World → Prop} (hgd : o.guard = none) (s t : Nat) (ho : o.op = .binOp .eql 3 (.tmp s) (.tmp t) 3) (x y : Int) (b : Bool) (h : a.eval (.tmp s) = .int .i64 x) (h2 : a.eval (.tmp t) = .int .i64 y) (hb : (x == y) = b) (hh : wpList Try.prog ops Q rest (a.put o.dst (.bool b)) w) : wpList Try.prog ops Q (o :: rest) a w :=
  wpList_plain hgd fun K hK => opv (r_eql _ w o s t x y b ho h h2 hb) (hK _ _ hh)
/-- what the document's run answers -/
def RunQ (w : World) (P : List (Option Rc)) (r : Rc) (e : Ending) (w' : World) : Prop := ((∃ rs v, Run P r rs ∧ e = .returned (.tuple #[v, .bool true]) ∧ ERow w' v (rs.reverse.map some) ∧ ∀ b, v.ownBlock = some b → w.heap.size ≤ b) ∨ (RunBad P r ∧ e = .returned (.tuple #[.slice none 0 0, .bool false]))) ∧ Below w.heap.size w w'
set_option maxHeartbeats 8000000 in
theorem runR_any {w : World} {g cap n slots : Nat} {P : List (Option Rc)} (h : ERow w (.slice (some ⟨g, 0, none⟩) P.length cap) P) (h1 : 1 ≤ P.length) (h2 : P.length ≤ 4) (hn : n < 4294967296) (hg : g < w.heap.size) (hs1 : 1 ≤ slots) (hs2 : slots ≤ 16) (r : Rc) (hr : pAt P n = some r) (hrn : r.num = n) (hP : ∀ (i : Nat) (q : Rc), P[i]? = some (some q) → GdR q slots) :
    Calls Try.prog 45 #[.slice (some ⟨g, 0, none⟩) P.length cap, .int .u32 (n : Int), .int .i64 (slots : Int)] w (RunQ w P r) := by
  have HR := hide h
  have HPG : Hid (∀ m q, pAt P m = some q → GdR q slots) := hide fun m q hq => by
    unfold pAt at hq
    rw [List.getD_eq_getElem?_getD, List.getElem?_eq_getElem (Nat.mod_lt _ (by omega))] at hq
    exact hP _ q (by rw [List.getElem?_eq_getElem (Nat.mod_lt _ (by omega))]; simpa using hq)
  have HIX : Hid (∀ k, P[k % P.length]? = some (pAt P k)) := hide fun k => by
    unfold pAt
    rw [List.getD_eq_getElem?_getD, List.getElem?_eq_getElem (Nat.mod_lt _ (by omega))]
    rfl
  have HRA : Hid (w.rangeAt g (n % P.length * 10) (enC (some r)).toList) := hide (h.range (by rw [HIX.out n, hr]))
  obtain ⟨m, hm⟩ : ∃ m, m = min (P.length - 1) r.age := ⟨_, rfl⟩
  have HW0 : Hid (RnI w (w.alloc (.cells (enC (some r)) 101)) P n m P.length r [] (.slice none 0 0)) := hide ⟨(Below.refl _ _).alloc (Nat.le_refl _) _, Go.heap_alloc_new _ _, World.ownsRow_nil _ _ _ _, fun b e => by simp [Value.ownBlock] at e, by simp; omega, fun j q hj => by simp at hj, fun j q q' hj => by simp at hj⟩
  have HFIN : Hid (∀ wr qs v, RnI w wr P n m 0 r qs v → Run P r qs.reverse) := hide fun wr qs v hh => hh.run hn hm h1 hr hrn
  have HBLK : Hid (∀ d, d ≤ m → pAt P (wd n d) = none → RunBad P r) := hide fun d hd hh => run_blank hn hm h1 hr hrn hd hh
  have HBAD : Hid (∀ (x : World) (d : Nat) (q y : Rc) (qs : List Rc) (v : Value), RnI w x P n m (d + 1) r qs v → 0 < qs.length → qs[qs.length - 1]? = some y → pAt P (wd n d) = some q → ¬ Fol q y → RunBad P r) := hide fun x d q y qs v hh => hh.bad hn hm hr hrn
  have HMI : Hid (m = min (P.length - 1) r.age) := hide hm
  obtain ⟨lf, lnu, lag, lst, lc0, lc1, l0, l1, l2, l3, e1, e2, e3⟩ := enC_lit (some r)
  have HLC : Hid (enC (some r) = #[.bool lf, .int .u32 (lnu : Int), .int .i64 (lag : Int), .int .i64 lst, .int .i64 lc0, .int .i64 lc1, .int .i64 l0, .int .i64 l1, .int .i64 l2, .int .i64 l3]) := hide e1
  have HAG : Hid (r.age = lag) := hide (e3 r rfl).2.1
  rw [e1] at HRA HW0
  clear h hr hrn hP hm e1 e2 e3
  have hix : n % P.length < P.length := Nat.mod_lt _ (by omega)
  have hki := wrap_i n hn
  have HZ0 : Hid ((w.alloc (.cells zEnt 101)).heap[w.heap.size]? = some (.cells zEnt 101 (0, 0))) := hide (Go.heap_alloc_new w (.cells zEnt 101))
  obtain ⟨ix, hixe⟩ : ∃ ix, n % P.length = ix := ⟨_, rfl⟩
  rw [hixe] at HRA hix
  have HIE0 := hide hixe
  clear hixe
  have hiI : (ix : Int) < (P.length : Int) := by omega
  go_enter Try.func45, Try.ntmps45
  go_wp2_with (first
    | (refine wpList_rem (by rfl) 16 18 (by rfl) n P.length (by rfl) (by rfl) h1 (Nat.lt_trans hn (by decide)) ?_; rw [HIE0.out])
    | refine wpList_load_mid rfl 101 (.tmp 20) rfl g (ix * 10) rfl _ _ HRA.out Try.underlying101 rfl entSize ?_
    | (refine wpList_store_row rfl 101 (.tmp 8) (.tmp 21) rfl w.heap.size _ rfl rfl 101 zEnt HZ0.out entSize rfl (by first | kernel_rfl | simp [Value.oneCell']) ?_; rw [World.setRow_alloc_new]))
  clear hix hki HZ0 hiI HRA HIE0
  go_loopw [9, 10] (fun vv x wr => ∃ (i : Nat) (qs : List Rc), i ≤ P.length ∧ x = .int .i64 ((i : Int) - 1) ∧ RnI w wr P n m i r qs vv) (fun _ x _ => ((intOf x) + 1).toNat)
  case atStart => exact ⟨P.length, [], Nat.le_refl _, rfl, HW0.out⟩
  case round =>
    clear HW0
    obtain ⟨i, qs, hi, rfl, hru⟩ := hrel
    rcases i with - | d
    · have HRUN := hide (HFIN.out _ _ _ hru)
      have HRU := hide hru
      clear hru
      have hd0 : ¬ (0 : Int) ≤ ((0 : Nat) : Int) - 1 := by omega
      go_wp2_with fail
      go_ret2
      exact ⟨.inl ⟨_, _, HRUN.out, rfl, by rw [List.reverse_reverse]; exact HRU.out.row, fun b e => Nat.le_of_lt (HRU.out.own b e)⟩, HRU.out.be⟩
    rw [show (((d + 1 : Nat) : Int)) - 1 = (d : Int) by omega]
    have hdl : d < P.length := by omega
    have kb : wr.heap[w.heap.size]? = some (.cells #[.bool lf, .int .u32 (lnu : Int), .int .i64 (lag : Int), .int .i64 lst, .int .i64 lc0, .int .i64 lc1, .int .i64 l0, .int .i64 l1, .int .i64 l2, .int .i64 l3] 101 (0, 0)) := by rw [← HLC.out]; exact hru.box
    have k2 : wr.cell? ⟨w.heap.size, 2, none⟩ = some (.int .i64 (lag : Int)) := cell_of_row _ _ _ _ _ _ kb
    clear kb
    have hdI : (0 : Int) ≤ (d : Int) := by omega
    by_cases hda : lag < d
    · have HRU := hide (hru.skip (by have := HMI.out; have := HAG.out; omega))
      clear hru
      have hdaI : (lag : Int) < (d : Int) := by omega
      go_wp2_with fail
      go_roundw
      case rel => exact ⟨d, qs, by omega, rfl, HRU.out⟩
      case measure => first | (simp [intOf]; done) | (simp [intOf]; omega)
    have hdm : d ≤ m := by have := HMI.out; have := HAG.out; omega
    have hdaI : ¬ (lag : Int) < (d : Int) := by omega
    clear hda
    obtain ⟨ga, cap2, rfl, hc1, hc2⟩ := rowForm hru.row
    rw [List.length_map] at hc1 hru ⊢
    have HRU := hide hru
    have hk := wrap_s n d hn (by omega)
    have hdw := wrap_u d (by omega)
    have hkw := wd_lt n d
    have hki := wrap_i (wd n d) hkw
    have hix : wd n d % P.length < P.length := Nat.mod_lt _ (by omega)
    have hRw : ERow wr (.slice (some ⟨g, 0, none⟩) P.length cap) P := rowKept HR.out fun b e => hru.be.block b (by cases e; exact hg)
    have hra := hRw.range (HIX.out (wd n d))
    clear hRw hru
    obtain ⟨p, hp⟩ : ∃ p, pAt P (wd n d) = p := ⟨_, rfl⟩
    rw [hp] at hra
    obtain ⟨f, nu, ag, st, c0, c1, z0, z1, z2, z3, e1, e2, e3⟩ := enC_lit p
    rw [e1] at hra
    have HPE := hide hp
    have HE1 := hide e1
    have HE2 := hide e2
    have HE3 := hide e3
    have HRB : Hid (wr.rangeAt g (wd n d % P.length * 10) [.bool f, .int .u32 (nu : Int), .int .i64 (ag : Int), .int .i64 st, .int .i64 c0, .int .i64 c1, .int .i64 z0, .int .i64 z1, .int .i64 z2, .int .i64 z3]) := hide hra
    have HZ : Hid ((wr.alloc (.cells zEnt 101)).heap[wr.heap.size]? = some (.cells zEnt 101 (0, 0))) := hide (Go.heap_alloc_new wr (.cells zEnt 101))
    have HNW : Hid ((wr.alloc (.cells #[.bool f, .int .u32 (nu : Int), .int .i64 (ag : Int), .int .i64 st, .int .i64 c0, .int .i64 c1, .int .i64 z0, .int .i64 z1, .int .i64 z2, .int .i64 z3] 101)).heap[wr.heap.size]? = some (.cells #[.bool f, .int .u32 (nu : Int), .int .i64 (ag : Int), .int .i64 st, .int .i64 c0, .int .i64 c1, .int .i64 z0, .int .i64 z1, .int .i64 z2, .int .i64 z3] 101 (0, 0))) := hide (Go.heap_alloc_new wr _)
    have HR3 : Hid (RnI w (wr.alloc (.cells #[.bool f, .int .u32 (nu : Int), .int .i64 (ag : Int), .int .i64 st, .int .i64 c0, .int .i64 c1, .int .i64 z0, .int .i64 z1, .int .i64 z2, .int .i64 z3] 101)) P n m (d + 1) r qs (.slice ga qs.length cap2)) := hide (HRU.out.below ((Below.refl _ _).alloc (Nat.le_refl _) _))
    clear hp e1 e2 e3 hra HRU
    obtain ⟨k, hke⟩ : ∃ k, k = wd n d := ⟨_, rfl⟩
    rw [← hke] at hk hkw hki hix HRB
    clear hke
    obtain ⟨jx, hixe⟩ : ∃ jx, k % P.length = jx := ⟨_, rfl⟩
    rw [hixe] at HRB hix
    have HIE := hide hixe
    clear hixe
    have hiI : (jx : Int) < (P.length : Int) := by omega
    cases f with
    | true =>
      have HBD : Hid (RunBad P r) := hide (HBLK.out d hdm (HPE.out.trans (HE2.out.1 rfl)))
      go_wp2_with (first
        | (refine wpList_rem (by rfl) 38 40 (by rfl) k P.length (by rfl) (by rfl) h1 (Nat.lt_trans hkw (by decide)) ?_; rw [HIE.out])
              | refine wpList_load_mid rfl 101 (.tmp 42) rfl g (jx * 10) rfl _ _ HRB.out Try.underlying101 rfl entSize ?_
        | (refine wpList_store_row rfl 101 (.tmp 11) (.tmp 43) rfl wr.heap.size _ rfl rfl 101 zEnt HZ.out entSize rfl (by first | kernel_rfl | simp [Value.oneCell']) ?_; rw [World.setRow_alloc_new]))
      go_ret2
      exact ⟨.inr ⟨HBD.out, rfl⟩, HR3.out.be⟩
    | false =>
      obtain ⟨q, hq⟩ : ∃ q, p = some q := by
        rcases p with - | q
        · have := HE2.out.2 rfl; cases this
        · exact ⟨q, rfl⟩
      subst hq
      have HGQ := hide (HPG.out _ _ HPE.out)
      obtain ⟨i0, hi0, hz0, hz1, hz2⟩ := info_parts info_ent
      generalize hKL : qs.length = kl at *
      have HKL := hide hKL
      have hkl4 : kl ≤ 4 := by have h1 := HR3.out.len; have h2 := HMI.out; rw [HKL.out] at h1; omega
      clear hKL
      by_cases hk0 : kl = 0
      · have hk0I : ¬ (0 : Int) < (kl : Int) := by omega
        have HMORE : Hid (∀ w6 v6 o, w6.ownsRow 0 101 10 v6 (kl + 1) (flE (qs.map some) ++ [.bool false, .int .u32 (nu : Int), .int .i64 (ag : Int), .int .i64 st, .int .i64 c0, .int .i64 c1, .int .i64 z0, .int .i64 z1, .int .i64 z2, .int .i64 z3]) → UponC ((wr.alloc (.cells #[.bool false, .int .u32 (nu : Int), .int .i64 (ag : Int), .int .i64 st, .int .i64 c0, .int .i64 c1, .int .i64 z0, .int .i64 z1, .int .i64 z2, .int .i64 z3] 101)).alloc o) w6 (.slice ga kl cap2) v6 → RnI w w6 P n m d r (qs ++ [q]) v6) := hide fun w6 v6 o ho hu => HR3.out.more hdm (by rw [HKL.out, HE1.out]; exact ho) hu HPE.out (fun y _ hy => by rw [HKL.out] at hy; omega)
        have HOWN : Hid (∀ o, ((wr.alloc (.cells #[.bool false, .int .u32 (nu : Int), .int .i64 (ag : Int), .int .i64 st, .int .i64 c0, .int .i64 c1, .int .i64 z0, .int .i64 z1, .int .i64 z2, .int .i64 z3] 101)).alloc o).ownsRow 0 101 10 (.slice ga kl cap2) kl (flE (qs.map some))) := hide fun o => by
          have := (HR3.out.below ((Below.refl _ _).alloc (Nat.le_refl _) o)).row
          unfold ERow at this
          rw [List.length_map, HKL.out] at this
          exact this
        clear hk0
        go_wp2_with (first
          | (refine wpList_rem (by rfl) 38 40 (by rfl) k P.length (by rfl) (by rfl) h1 (Nat.lt_trans hkw (by decide)) ?_; rw [HIE.out])
              | refine wpList_load_mid rfl 101 (.tmp 42) rfl g (jx * 10) rfl _ _ HRB.out Try.underlying101 rfl entSize ?_
          | (refine wpList_store_row rfl 101 (.tmp 11) (.tmp 43) rfl wr.heap.size _ rfl rfl 101 zEnt HZ.out entSize rfl (by first | kernel_rfl | simp [Value.oneCell']) ?_; rw [World.setRow_alloc_new])
          | refine wpList_load_row rfl 101 (.tmp 11) rfl wr.heap.size rfl 101 #[.bool false, .int .u32 (nu : Int), .int .i64 (ag : Int), .int .i64 st, .int .i64 c0, .int .i64 c1, .int .i64 z0, .int .i64 z1, .int .i64 z2, .int .i64 z3] (0, 0) _ HNW.out Try.underlying101 rfl entSize ?_
          | (refine wpList_appendC _ rfl (.tmp 83) (.tmp 85) 97 rfl 101 i0 (.agg zEnt) 10 72 Try.underlying97 hi0 hz0 hz1 hz2 rfl (by decide) (.slice ga kl cap2) kl (flE (qs.map some)) rfl (HOWN.out _) ⟨wr.heap.size + 1, 0, none⟩ 1 1 [.bool false, .int .u32 (nu : Int), .int .i64 (ag : Int), .int .i64 st, .int .i64 c0, .int .i64 c1, .int .i64 z0, .int .i64 z1, .int .i64 z2, .int .i64 z3] rfl rfl (by decide) (fun j u hj => by rw [Addr.add_lit, Nat.zero_add]; exact (rangeTake (by have := Go.heap_alloc_new (wr.alloc (.cells #[.bool false, .int .u32 (nu : Int), .int .i64 (ag : Int), .int .i64 st, .int .i64 c0, .int .i64 c1, .int .i64 z0, .int .i64 z1, .int .i64 z2, .int .i64 z3] 101)) (.cells #[.bool false, .int .u32 (nu : Int), .int .i64 (ag : Int), .int .i64 st, .int .i64 c0, .int .i64 c1, .int .i64 z0, .int .i64 z1, .int .i64 z2, .int .i64 z3] 101); rw [World.size_alloc] at this; exact this) rfl) j u hj ▸ (by simp)) (by intro u hu; simp only [List.mem_cons, List.not_mem_nil, or_false] at hu; rcases hu with rfl | rfl | rfl | rfl | rfl | rfl | rfl | rfl | rfl | rfl <;> rfl) (by unfold maxLen; omega) (by omega) ?_; intro v6 w6 ho6 hu6; have HM6 := hide (HMORE.out _ _ _ ho6 hu6); clear ho6 hu6))
        go_roundw
        case rel => exact ⟨d, qs ++ [q], by omega, rfl, HM6.out⟩
        case measure => first | (simp [intOf]; done) | (simp [intOf]; omega)
      · have hk0I : (0 : Int) < (kl : Int) := by omega
        obtain ⟨g2, rfl⟩ : ∃ g2, ga = some ⟨g2, 0, none⟩ := by
          rcases HR3.out.row.2 with ⟨e, e2⟩ | ⟨g', cap', cur, e, _⟩
          · have := HKL.out
            simp at e2
            rw [e2] at this
            simp at this
            omega
          · simp only [Value.slice.injEq] at e
            exact ⟨g', e.1⟩
        obtain ⟨y, hy⟩ : ∃ y, qs[kl - 1]? = some y := ⟨_, List.getElem?_eq_getElem (by rw [HKL.out]; omega)⟩
        have HYQ := hide hy
        have HGY : Hid (GdR y slots) := hide (HPG.out _ y (HR3.out.pl _ _ hy))
        have HRY0 : Hid ((wr.alloc (.cells #[.bool false, .int .u32 (nu : Int), .int .i64 (ag : Int), .int .i64 st, .int .i64 c0, .int .i64 c1, .int .i64 z0, .int .i64 z1, .int .i64 z2, .int .i64 z3] 101)).rangeAt g2 ((kl - 1) * 10) (enC (some y)).toList) := hide ((by have := HR3.out.row; rw [← HKL.out, ← List.length_map (f := some)] at this; exact this : ERow _ (.slice (some ⟨g2, 0, none⟩) (qs.map some).length cap2) (qs.map some)).range (by rw [List.getElem?_map, hy]; rfl))
        obtain ⟨yf, ynu, yag, yst, yc0, yc1, y0, y1, y2, y3, b1, b2, b3⟩ := enC_lit (some y)
        rw [b1] at HRY0
        have HRY : Hid ((wr.alloc (.cells #[.bool false, .int .u32 (nu : Int), .int .i64 (ag : Int), .int .i64 st, .int .i64 c0, .int .i64 c1, .int .i64 z0, .int .i64 z1, .int .i64 z2, .int .i64 z3] 101)).rangeAt g2 ((kl - 1) * 10) [.bool yf, .int .u32 (ynu : Int), .int .i64 (yag : Int), .int .i64 yst, .int .i64 yc0, .int .i64 yc1, .int .i64 y0, .int .i64 y1, .int .i64 y2, .int .i64 y3]) := HRY0
        clear HRY0
        have HFI : Hid (Fol q y ↔ ((ag = yag + 1 ∨ (ag = 65535 ∧ yag = 65535)) ∧ st = (yst + 4) % (slots : Int))) := hide (by
          have h1 := HE3.out q rfl
          have h2 := b3 y rfl
          rw [← h1.2.1, ← h1.2.2.1, ← h2.2.1, ← h2.2.2.1]
          exact fol_iff HGQ.out HGY.out)
        have hyst : 0 ≤ yst ∧ yst < 65536 := by have := b3 y rfl; have a := HGY.out.s0; have b := HGY.out.s1; rw [this.2.2.1] at a b; exact ⟨a, b⟩
        have hyag : yag < 65536 := by have := (b3 y rfl).2.1; have a := HGY.out.a; omega
        obtain ⟨hyst1, hyst2⟩ := hyst
        have hslI : (0 : Int) < (slots : Int) := by omega
        have HZY : Hid (((wr.alloc (.cells #[.bool false, .int .u32 (nu : Int), .int .i64 (ag : Int), .int .i64 st, .int .i64 c0, .int .i64 c1, .int .i64 z0, .int .i64 z1, .int .i64 z2, .int .i64 z3] 101)).alloc (.cells zEnt 101)).heap[wr.heap.size + 1]? = some (.cells zEnt 101 (0, 0))) := hide (by have := Go.heap_alloc_new (wr.alloc (.cells #[.bool false, .int .u32 (nu : Int), .int .i64 (ag : Int), .int .i64 st, .int .i64 c0, .int .i64 c1, .int .i64 z0, .int .i64 z1, .int .i64 z2, .int .i64 z3] 101)) (.cells zEnt 101); rw [World.size_alloc] at this; exact this)
        have HNX4 : Hid (((wr.alloc (.cells #[.bool false, .int .u32 (nu : Int), .int .i64 (ag : Int), .int .i64 st, .int .i64 c0, .int .i64 c1, .int .i64 z0, .int .i64 z1, .int .i64 z2, .int .i64 z3] 101)).alloc (.cells #[.bool yf, .int .u32 (ynu : Int), .int .i64 (yag : Int), .int .i64 yst, .int .i64 yc0, .int .i64 yc1, .int .i64 y0, .int .i64 y1, .int .i64 y2, .int .i64 y3] 101)).heap[wr.heap.size]? = some (.cells #[.bool false, .int .u32 (nu : Int), .int .i64 (ag : Int), .int .i64 st, .int .i64 c0, .int .i64 c1, .int .i64 z0, .int .i64 z1, .int .i64 z2, .int .i64 z3] 101 (0, 0))) := hide (by rw [RowKit.Below.heap_alloc _ _ _ (by simp)]; exact HNW.out)
        have HNY4 : Hid (((wr.alloc (.cells #[.bool false, .int .u32 (nu : Int), .int .i64 (ag : Int), .int .i64 st, .int .i64 c0, .int .i64 c1, .int .i64 z0, .int .i64 z1, .int .i64 z2, .int .i64 z3] 101)).alloc (.cells #[.bool yf, .int .u32 (ynu : Int), .int .i64 (yag : Int), .int .i64 yst, .int .i64 yc0, .int .i64 yc1, .int .i64 y0, .int .i64 y1, .int .i64 y2, .int .i64 y3] 101)).heap[wr.heap.size + 1]? = some (.cells #[.bool yf, .int .u32 (ynu : Int), .int .i64 (yag : Int), .int .i64 yst, .int .i64 yc0, .int .i64 yc1, .int .i64 y0, .int .i64 y1, .int .i64 y2, .int .i64 y3] 101 (0, 0))) := hide (by have := Go.heap_alloc_new (wr.alloc (.cells #[.bool false, .int .u32 (nu : Int), .int .i64 (ag : Int), .int .i64 st, .int .i64 c0, .int .i64 c1, .int .i64 z0, .int .i64 z1, .int .i64 z2, .int .i64 z3] 101)) (.cells #[.bool yf, .int .u32 (ynu : Int), .int .i64 (yag : Int), .int .i64 yst, .int .i64 yc0, .int .i64 yc1, .int .i64 y0, .int .i64 y1, .int .i64 y2, .int .i64 y3] 101); rw [World.size_alloc] at this; exact this)
        have HR4 : Hid (RnI w ((wr.alloc (.cells #[.bool false, .int .u32 (nu : Int), .int .i64 (ag : Int), .int .i64 st, .int .i64 c0, .int .i64 c1, .int .i64 z0, .int .i64 z1, .int .i64 z2, .int .i64 z3] 101)).alloc (.cells #[.bool yf, .int .u32 (ynu : Int), .int .i64 (yag : Int), .int .i64 yst, .int .i64 yc0, .int .i64 yc1, .int .i64 y0, .int .i64 y1, .int .i64 y2, .int .i64 y3] 101)) P n m (d + 1) r qs (.slice (some ⟨g2, 0, none⟩) kl cap2)) := hide (HR3.out.below ((Below.refl _ _).alloc (Nat.le_refl _) _))
        have HBF : Hid (¬ ((ag = yag + 1 ∨ (ag = 65535 ∧ yag = 65535)) ∧ st = (yst + 4) % (slots : Int)) → RunBad P r) := hide fun hh => HBAD.out _ d q y qs _ HR3.out (by rw [HKL.out]; omega) (by rw [HKL.out]; exact HYQ.out) HPE.out fun hf => hh (HFI.out.1 hf)
        have HMORE : Hid (∀ W w6 v6 o, RnI w W P n m (d + 1) r qs (.slice (some ⟨g2, 0, none⟩) kl cap2) → ((ag = yag + 1 ∨ (ag = 65535 ∧ yag = 65535)) ∧ st = (yst + 4) % (slots : Int)) → w6.ownsRow 0 101 10 v6 (kl + 1) (flE (qs.map some) ++ [.bool false, .int .u32 (nu : Int), .int .i64 (ag : Int), .int .i64 st, .int .i64 c0, .int .i64 c1, .int .i64 z0, .int .i64 z1, .int .i64 z2, .int .i64 z3]) → UponC (W.alloc o) w6 (.slice (some ⟨g2, 0, none⟩) kl cap2) v6 → RnI w w6 P n m d r (qs ++ [q]) v6) := hide fun W w6 v6 o hW hf ho hu => hW.more hdm (by rw [HKL.out, HE1.out]; exact ho) hu HPE.out (fun y' hy' _ => by
          rw [HKL.out, HYQ.out] at hy'
          cases hy'
          exact HFI.out.2 hf)
        have HOWN : Hid (∀ W, RnI w W P n m (d + 1) r qs (.slice (some ⟨g2, 0, none⟩) kl cap2) → ∀ o, (W.alloc o).ownsRow 0 101 10 (.slice (some ⟨g2, 0, none⟩) kl cap2) kl (flE (qs.map some))) := hide fun W hW o => by
          have := (hW.below ((Below.refl _ _).alloc (Nat.le_refl _) o)).row
          unfold ERow at this
          rw [List.length_map, HKL.out] at this
          exact this
        have hkw1 := wrap_p kl (by omega) hkl4
        have hks : (kl : Int) - 1 = ((kl - 1 : Nat) : Int) := by omega
        have hkl1 : ((kl - 1 : Nat) : Int) < (kl : Int) := by omega
        have hag : ag < 65536 := by have := (HE3.out q rfl).2.1; have a := HGQ.out.a; omega
        clear hy b1 b2 b3 HFI HR3 HE3 HGQ HGY HPE
        generalize kl - 1 = k1 at *
        rcases (show (ag = yag + 1 ∧ st = (yst + 4) % (slots : Int)) ∨ (ag = yag + 1 ∧ st ≠ (yst + 4) % (slots : Int)) ∨ (ag ≠ yag + 1 ∧ (ag = 65535 ∧ yag = 65535) ∧ st = (yst + 4) % (slots : Int)) ∨ (ag ≠ yag + 1 ∧ (ag = 65535 ∧ yag = 65535) ∧ st ≠ (yst + 4) % (slots : Int)) ∨ (ag ≠ yag + 1 ∧ ag ≠ 65535) ∨ (ag ≠ yag + 1 ∧ ag = 65535 ∧ yag ≠ 65535) by omega) with ⟨hA, hS⟩ | ⟨hA, hS⟩ | ⟨hA, hB, hS⟩ | ⟨hA, hB, hS⟩ | ⟨hA, hB⟩ | ⟨hA, hB, hC⟩
        case inl =>
          have HOK : Hid ((ag = yag + 1 ∨ (ag = 65535 ∧ yag = 65535)) ∧ st = (yst + 4) % (slots : Int)) := hide ⟨.inl hA, hS⟩
          have HAI : Hid (((ag : Int) == (yag : Int) + 1) = true) := hide (by simp; omega)
          have hSI : (st != (yst + 4) % (slots : Int)) = false := by simpa using hS
          clear hA hS
          go_wp2_with (first
            | (refine wpList_eql (by rfl) 56 59 (by rfl) _ _ true (by rfl) (by rfl) HAI.out ?_; go_wp2_with fail)
            | (refine wpList_rem (by rfl) 38 40 (by rfl) k P.length (by rfl) (by rfl) h1 (Nat.lt_trans hkw (by decide)) ?_; rw [HIE.out])
              | refine wpList_load_mid rfl 101 (.tmp 42) rfl g (jx * 10) rfl _ _ HRB.out Try.underlying101 rfl entSize ?_
            | (refine wpList_store_row rfl 101 (.tmp 11) (.tmp 43) rfl wr.heap.size _ rfl rfl 101 zEnt HZ.out entSize rfl (by first | kernel_rfl | simp [Value.oneCell']) ?_; rw [World.setRow_alloc_new])
            | refine wpList_load_mid rfl 101 (.tmp 53) rfl g2 (k1 * 10) rfl _ _ HRY.out Try.underlying101 rfl entSize ?_
            | (refine wpList_store_row rfl 101 (.tmp 12) (.tmp 54) rfl (wr.heap.size + 1) _ rfl rfl 101 zEnt HZY.out entSize rfl (by first | kernel_rfl | simp [Value.oneCell']) ?_; rw [setRow_new2]))
          generalize ((wr.alloc (.cells #[.bool false, .int .u32 (nu : Int), .int .i64 (ag : Int), .int .i64 st, .int .i64 c0, .int .i64 c1, .int .i64 z0, .int .i64 z1, .int .i64 z2, .int .i64 z3] 101)).alloc (.cells #[.bool yf, .int .u32 (ynu : Int), .int .i64 (yag : Int), .int .i64 yst, .int .i64 yc0, .int .i64 yc1, .int .i64 y0, .int .i64 y1, .int .i64 y2, .int .i64 y3] 101)) = w4 at *
          have x3 : w4.cell? ⟨wr.heap.size, 3, none⟩ = some (.int .i64 st) := cell_of_row _ _ _ _ _ _ HNX4.out
          have x4 : w4.cell? ⟨wr.heap.size + 1, 3, none⟩ = some (.int .i64 yst) := cell_of_row _ _ _ _ _ _ HNY4.out
          go_quiet (fail)
          have HB5 := hide (below_drewN (Below.refl w4.heap.size w4) nq)
          clear x3 x4
          generalize w4.drewN nq = w5 at *
          have HR5 := hide (HR4.out.below HB5.out)
          have HNX5 : Hid (w5.heap[wr.heap.size]? = some (.cells #[.bool false, .int .u32 (nu : Int), .int .i64 (ag : Int), .int .i64 st, .int .i64 c0, .int .i64 c1, .int .i64 z0, .int .i64 z1, .int .i64 z2, .int .i64 z3] 101 (0, 0))) := hide ((HB5.out.block _ (Array.getElem?_eq_some_iff.1 HNX4.out).1).trans HNX4.out)
          have HM := hide (HMORE.out w5)
          have HO := hide (HOWN.out w5 HR5.out)
          go_wp2_with (first
            | refine wpList_load_row rfl 101 (.tmp 11) rfl wr.heap.size rfl 101 #[.bool false, .int .u32 (nu : Int), .int .i64 (ag : Int), .int .i64 st, .int .i64 c0, .int .i64 c1, .int .i64 z0, .int .i64 z1, .int .i64 z2, .int .i64 z3] (0, 0) _ HNX5.out Try.underlying101 rfl entSize ?_
            | (refine wpList_appendC _ rfl (.tmp 83) (.tmp 85) 97 rfl 101 i0 (.agg zEnt) 10 72 Try.underlying97 hi0 hz0 hz1 hz2 rfl (by decide) (.slice (some ⟨g2, 0, none⟩) kl cap2) kl (flE (qs.map some)) rfl (HO.out _) ⟨w5.heap.size, 0, none⟩ 1 1 [.bool false, .int .u32 (nu : Int), .int .i64 (ag : Int), .int .i64 st, .int .i64 c0, .int .i64 c1, .int .i64 z0, .int .i64 z1, .int .i64 z2, .int .i64 z3] rfl rfl (by decide) (fun j u hj => by rw [Addr.add_lit, Nat.zero_add]; exact (rangeTake (Go.heap_alloc_new w5 (.cells #[.bool false, .int .u32 (nu : Int), .int .i64 (ag : Int), .int .i64 st, .int .i64 c0, .int .i64 c1, .int .i64 z0, .int .i64 z1, .int .i64 z2, .int .i64 z3] 101)) rfl) j u hj ▸ (by simp)) (by intro u hu; simp only [List.mem_cons, List.not_mem_nil, or_false] at hu; rcases hu with rfl | rfl | rfl | rfl | rfl | rfl | rfl | rfl | rfl | rfl <;> rfl) (by unfold maxLen; omega) (by omega) ?_; intro v6 w6 ho6 hu6; have HM6 := hide (HM.out _ _ _ HR5.out HOK.out ho6 hu6); clear ho6 hu6))
          go_roundw
          case rel => exact ⟨d, qs ++ [q], by omega, rfl, HM6.out⟩
          case measure => first | (simp [intOf]; done) | (simp [intOf]; omega)
        case inr.inl =>
          have HBD := hide (HBF.out fun hh => hS hh.2)
          have HAI : Hid (((ag : Int) == (yag : Int) + 1) = true) := hide (by simp; omega)
          have hSI : (st != (yst + 4) % (slots : Int)) = true := by simpa using hS
          clear hA hS
          go_wp2_with (first
            | (refine wpList_eql (by rfl) 56 59 (by rfl) _ _ true (by rfl) (by rfl) HAI.out ?_; go_wp2_with fail)
            | (refine wpList_rem (by rfl) 38 40 (by rfl) k P.length (by rfl) (by rfl) h1 (Nat.lt_trans hkw (by decide)) ?_; rw [HIE.out])
              | refine wpList_load_mid rfl 101 (.tmp 42) rfl g (jx * 10) rfl _ _ HRB.out Try.underlying101 rfl entSize ?_
            | (refine wpList_store_row rfl 101 (.tmp 11) (.tmp 43) rfl wr.heap.size _ rfl rfl 101 zEnt HZ.out entSize rfl (by first | kernel_rfl | simp [Value.oneCell']) ?_; rw [World.setRow_alloc_new])
            | refine wpList_load_mid rfl 101 (.tmp 53) rfl g2 (k1 * 10) rfl _ _ HRY.out Try.underlying101 rfl entSize ?_
            | (refine wpList_store_row rfl 101 (.tmp 12) (.tmp 54) rfl (wr.heap.size + 1) _ rfl rfl 101 zEnt HZY.out entSize rfl (by first | kernel_rfl | simp [Value.oneCell']) ?_; rw [setRow_new2]))
          generalize ((wr.alloc (.cells #[.bool false, .int .u32 (nu : Int), .int .i64 (ag : Int), .int .i64 st, .int .i64 c0, .int .i64 c1, .int .i64 z0, .int .i64 z1, .int .i64 z2, .int .i64 z3] 101)).alloc (.cells #[.bool yf, .int .u32 (ynu : Int), .int .i64 (yag : Int), .int .i64 yst, .int .i64 yc0, .int .i64 yc1, .int .i64 y0, .int .i64 y1, .int .i64 y2, .int .i64 y3] 101)) = w4 at *
          have x3 : w4.cell? ⟨wr.heap.size, 3, none⟩ = some (.int .i64 st) := cell_of_row _ _ _ _ _ _ HNX4.out
          have x4 : w4.cell? ⟨wr.heap.size + 1, 3, none⟩ = some (.int .i64 yst) := cell_of_row _ _ _ _ _ _ HNY4.out
          go_quiet (fail)
          have HB5 := hide (below_drewN (Below.refl w4.heap.size w4) nq)
          clear x3 x4
          generalize w4.drewN nq = w5 at *
          have HR5 := hide (HR4.out.below HB5.out)
          have HNX5 : Hid (w5.heap[wr.heap.size]? = some (.cells #[.bool false, .int .u32 (nu : Int), .int .i64 (ag : Int), .int .i64 st, .int .i64 c0, .int .i64 c1, .int .i64 z0, .int .i64 z1, .int .i64 z2, .int .i64 z3] 101 (0, 0))) := hide ((HB5.out.block _ (Array.getElem?_eq_some_iff.1 HNX4.out).1).trans HNX4.out)
          go_wp2_with fail
          go_ret2
          exact ⟨.inr ⟨HBD.out, rfl⟩, HR5.out.be⟩
        case inr.inr.inl =>
          have HOK : Hid ((ag = yag + 1 ∨ (ag = 65535 ∧ yag = 65535)) ∧ st = (yst + 4) % (slots : Int)) := hide ⟨.inr hB, hS⟩
          have hAI : ((ag : Int) == (yag : Int) + 1) = false := by simp; omega
          have hBI : ((ag : Int) == 65535) = true := by simp; omega
          have hCI : ((yag : Int) == 65535) = true := by simp; omega
          have hSI : (st != (yst + 4) % (slots : Int)) = false := by simpa using hS
          clear hA hS hB
          go_wp2_with (first
            | (refine wpList_rem (by rfl) 38 40 (by rfl) k P.length (by rfl) (by rfl) h1 (Nat.lt_trans hkw (by decide)) ?_; rw [HIE.out])
              | refine wpList_load_mid rfl 101 (.tmp 42) rfl g (jx * 10) rfl _ _ HRB.out Try.underlying101 rfl entSize ?_
            | (refine wpList_store_row rfl 101 (.tmp 11) (.tmp 43) rfl wr.heap.size _ rfl rfl 101 zEnt HZ.out entSize rfl (by first | kernel_rfl | simp [Value.oneCell']) ?_; rw [World.setRow_alloc_new])
            | refine wpList_load_mid rfl 101 (.tmp 53) rfl g2 (k1 * 10) rfl _ _ HRY.out Try.underlying101 rfl entSize ?_
            | (refine wpList_store_row rfl 101 (.tmp 12) (.tmp 54) rfl (wr.heap.size + 1) _ rfl rfl 101 zEnt HZY.out entSize rfl (by first | kernel_rfl | simp [Value.oneCell']) ?_; rw [setRow_new2]))
          generalize ((wr.alloc (.cells #[.bool false, .int .u32 (nu : Int), .int .i64 (ag : Int), .int .i64 st, .int .i64 c0, .int .i64 c1, .int .i64 z0, .int .i64 z1, .int .i64 z2, .int .i64 z3] 101)).alloc (.cells #[.bool yf, .int .u32 (ynu : Int), .int .i64 (yag : Int), .int .i64 yst, .int .i64 yc0, .int .i64 yc1, .int .i64 y0, .int .i64 y1, .int .i64 y2, .int .i64 y3] 101)) = w4 at *
          have x3 : w4.cell? ⟨wr.heap.size, 3, none⟩ = some (.int .i64 st) := cell_of_row _ _ _ _ _ _ HNX4.out
          have x4 : w4.cell? ⟨wr.heap.size + 1, 3, none⟩ = some (.int .i64 yst) := cell_of_row _ _ _ _ _ _ HNY4.out
          go_quiet (fail)
          have HB5 := hide (below_drewN (Below.refl w4.heap.size w4) nq)
          clear x3 x4
          generalize w4.drewN nq = w5 at *
          have HR5 := hide (HR4.out.below HB5.out)
          have HNX5 : Hid (w5.heap[wr.heap.size]? = some (.cells #[.bool false, .int .u32 (nu : Int), .int .i64 (ag : Int), .int .i64 st, .int .i64 c0, .int .i64 c1, .int .i64 z0, .int .i64 z1, .int .i64 z2, .int .i64 z3] 101 (0, 0))) := hide ((HB5.out.block _ (Array.getElem?_eq_some_iff.1 HNX4.out).1).trans HNX4.out)
          have HM := hide (HMORE.out w5)
          have HO := hide (HOWN.out w5 HR5.out)
          go_wp2_with (first
            | refine wpList_load_row rfl 101 (.tmp 11) rfl wr.heap.size rfl 101 #[.bool false, .int .u32 (nu : Int), .int .i64 (ag : Int), .int .i64 st, .int .i64 c0, .int .i64 c1, .int .i64 z0, .int .i64 z1, .int .i64 z2, .int .i64 z3] (0, 0) _ HNX5.out Try.underlying101 rfl entSize ?_
            | (refine wpList_appendC _ rfl (.tmp 83) (.tmp 85) 97 rfl 101 i0 (.agg zEnt) 10 72 Try.underlying97 hi0 hz0 hz1 hz2 rfl (by decide) (.slice (some ⟨g2, 0, none⟩) kl cap2) kl (flE (qs.map some)) rfl (HO.out _) ⟨w5.heap.size, 0, none⟩ 1 1 [.bool false, .int .u32 (nu : Int), .int .i64 (ag : Int), .int .i64 st, .int .i64 c0, .int .i64 c1, .int .i64 z0, .int .i64 z1, .int .i64 z2, .int .i64 z3] rfl rfl (by decide) (fun j u hj => by rw [Addr.add_lit, Nat.zero_add]; exact (rangeTake (Go.heap_alloc_new w5 (.cells #[.bool false, .int .u32 (nu : Int), .int .i64 (ag : Int), .int .i64 st, .int .i64 c0, .int .i64 c1, .int .i64 z0, .int .i64 z1, .int .i64 z2, .int .i64 z3] 101)) rfl) j u hj ▸ (by simp)) (by intro u hu; simp only [List.mem_cons, List.not_mem_nil, or_false] at hu; rcases hu with rfl | rfl | rfl | rfl | rfl | rfl | rfl | rfl | rfl | rfl <;> rfl) (by unfold maxLen; omega) (by omega) ?_; intro v6 w6 ho6 hu6; have HM6 := hide (HM.out _ _ _ HR5.out HOK.out ho6 hu6); clear ho6 hu6))
          go_roundw
          case rel => exact ⟨d, qs ++ [q], by omega, rfl, HM6.out⟩
          case measure => first | (simp [intOf]; done) | (simp [intOf]; omega)
        case inr.inr.inr.inl =>
          have HBD := hide (HBF.out fun hh => hS hh.2)
          have hAI : ((ag : Int) == (yag : Int) + 1) = false := by simp; omega
          have hBI : ((ag : Int) == 65535) = true := by simp; omega
          have hCI : ((yag : Int) == 65535) = true := by simp; omega
          have hSI : (st != (yst + 4) % (slots : Int)) = true := by simpa using hS
          clear hA hS hB
          go_wp2_with (first
            | (refine wpList_rem (by rfl) 38 40 (by rfl) k P.length (by rfl) (by rfl) h1 (Nat.lt_trans hkw (by decide)) ?_; rw [HIE.out])
              | refine wpList_load_mid rfl 101 (.tmp 42) rfl g (jx * 10) rfl _ _ HRB.out Try.underlying101 rfl entSize ?_
            | (refine wpList_store_row rfl 101 (.tmp 11) (.tmp 43) rfl wr.heap.size _ rfl rfl 101 zEnt HZ.out entSize rfl (by first | kernel_rfl | simp [Value.oneCell']) ?_; rw [World.setRow_alloc_new])
            | refine wpList_load_mid rfl 101 (.tmp 53) rfl g2 (k1 * 10) rfl _ _ HRY.out Try.underlying101 rfl entSize ?_
            | (refine wpList_store_row rfl 101 (.tmp 12) (.tmp 54) rfl (wr.heap.size + 1) _ rfl rfl 101 zEnt HZY.out entSize rfl (by first | kernel_rfl | simp [Value.oneCell']) ?_; rw [setRow_new2]))
          generalize ((wr.alloc (.cells #[.bool false, .int .u32 (nu : Int), .int .i64 (ag : Int), .int .i64 st, .int .i64 c0, .int .i64 c1, .int .i64 z0, .int .i64 z1, .int .i64 z2, .int .i64 z3] 101)).alloc (.cells #[.bool yf, .int .u32 (ynu : Int), .int .i64 (yag : Int), .int .i64 yst, .int .i64 yc0, .int .i64 yc1, .int .i64 y0, .int .i64 y1, .int .i64 y2, .int .i64 y3] 101)) = w4 at *
          have x3 : w4.cell? ⟨wr.heap.size, 3, none⟩ = some (.int .i64 st) := cell_of_row _ _ _ _ _ _ HNX4.out
          have x4 : w4.cell? ⟨wr.heap.size + 1, 3, none⟩ = some (.int .i64 yst) := cell_of_row _ _ _ _ _ _ HNY4.out
          go_quiet (fail)
          have HB5 := hide (below_drewN (Below.refl w4.heap.size w4) nq)
          clear x3 x4
          generalize w4.drewN nq = w5 at *
          have HR5 := hide (HR4.out.below HB5.out)
          have HNX5 : Hid (w5.heap[wr.heap.size]? = some (.cells #[.bool false, .int .u32 (nu : Int), .int .i64 (ag : Int), .int .i64 st, .int .i64 c0, .int .i64 c1, .int .i64 z0, .int .i64 z1, .int .i64 z2, .int .i64 z3] 101 (0, 0))) := hide ((HB5.out.block _ (Array.getElem?_eq_some_iff.1 HNX4.out).1).trans HNX4.out)
          go_wp2_with fail
          go_ret2
          exact ⟨.inr ⟨HBD.out, rfl⟩, HR5.out.be⟩
        case inr.inr.inr.inr.inl =>
          have HBD := hide (HBF.out fun hh => by have := hh.1; omega)
          have hAI : ((ag : Int) == (yag : Int) + 1) = false := by simp; omega
          have hBI : ((ag : Int) == 65535) = false := by simp; omega
          clear hA hB
          go_wp2_with (first
            | (refine wpList_rem (by rfl) 38 40 (by rfl) k P.length (by rfl) (by rfl) h1 (Nat.lt_trans hkw (by decide)) ?_; rw [HIE.out])
              | refine wpList_load_mid rfl 101 (.tmp 42) rfl g (jx * 10) rfl _ _ HRB.out Try.underlying101 rfl entSize ?_
            | (refine wpList_store_row rfl 101 (.tmp 11) (.tmp 43) rfl wr.heap.size _ rfl rfl 101 zEnt HZ.out entSize rfl (by first | kernel_rfl | simp [Value.oneCell']) ?_; rw [World.setRow_alloc_new])
            | refine wpList_load_mid rfl 101 (.tmp 53) rfl g2 (k1 * 10) rfl _ _ HRY.out Try.underlying101 rfl entSize ?_
            | (refine wpList_store_row rfl 101 (.tmp 12) (.tmp 54) rfl (wr.heap.size + 1) _ rfl rfl 101 zEnt HZY.out entSize rfl (by first | kernel_rfl | simp [Value.oneCell']) ?_; rw [setRow_new2]))
          generalize ((wr.alloc (.cells #[.bool false, .int .u32 (nu : Int), .int .i64 (ag : Int), .int .i64 st, .int .i64 c0, .int .i64 c1, .int .i64 z0, .int .i64 z1, .int .i64 z2, .int .i64 z3] 101)).alloc (.cells #[.bool yf, .int .u32 (ynu : Int), .int .i64 (yag : Int), .int .i64 yst, .int .i64 yc0, .int .i64 yc1, .int .i64 y0, .int .i64 y1, .int .i64 y2, .int .i64 y3] 101)) = w4 at *
          have x3 : w4.cell? ⟨wr.heap.size, 3, none⟩ = some (.int .i64 st) := cell_of_row _ _ _ _ _ _ HNX4.out
          have x4 : w4.cell? ⟨wr.heap.size + 1, 3, none⟩ = some (.int .i64 yst) := cell_of_row _ _ _ _ _ _ HNY4.out
          go_quiet (fail)
          have HB5 := hide (below_drewN (Below.refl w4.heap.size w4) nq)
          clear x3 x4
          generalize w4.drewN nq = w5 at *
          have HR5 := hide (HR4.out.below HB5.out)
          have HNX5 : Hid (w5.heap[wr.heap.size]? = some (.cells #[.bool false, .int .u32 (nu : Int), .int .i64 (ag : Int), .int .i64 st, .int .i64 c0, .int .i64 c1, .int .i64 z0, .int .i64 z1, .int .i64 z2, .int .i64 z3] 101 (0, 0))) := hide ((HB5.out.block _ (Array.getElem?_eq_some_iff.1 HNX4.out).1).trans HNX4.out)
          go_wp2_with fail
          go_ret2
          exact ⟨.inr ⟨HBD.out, rfl⟩, HR5.out.be⟩
        case inr.inr.inr.inr.inr =>
          have HBD := hide (HBF.out fun hh => by have := hh.1; omega)
          have hAI : ((ag : Int) == (yag : Int) + 1) = false := by simp; omega
          have hBI : ((ag : Int) == 65535) = true := by simp; omega
          have hCI : ((yag : Int) == 65535) = false := by simp; omega
          clear hA hB hC
          go_wp2_with (first
            | (refine wpList_rem (by rfl) 38 40 (by rfl) k P.length (by rfl) (by rfl) h1 (Nat.lt_trans hkw (by decide)) ?_; rw [HIE.out])
              | refine wpList_load_mid rfl 101 (.tmp 42) rfl g (jx * 10) rfl _ _ HRB.out Try.underlying101 rfl entSize ?_
            | (refine wpList_store_row rfl 101 (.tmp 11) (.tmp 43) rfl wr.heap.size _ rfl rfl 101 zEnt HZ.out entSize rfl (by first | kernel_rfl | simp [Value.oneCell']) ?_; rw [World.setRow_alloc_new])
            | refine wpList_load_mid rfl 101 (.tmp 53) rfl g2 (k1 * 10) rfl _ _ HRY.out Try.underlying101 rfl entSize ?_
            | (refine wpList_store_row rfl 101 (.tmp 12) (.tmp 54) rfl (wr.heap.size + 1) _ rfl rfl 101 zEnt HZY.out entSize rfl (by first | kernel_rfl | simp [Value.oneCell']) ?_; rw [setRow_new2]))
          generalize ((wr.alloc (.cells #[.bool false, .int .u32 (nu : Int), .int .i64 (ag : Int), .int .i64 st, .int .i64 c0, .int .i64 c1, .int .i64 z0, .int .i64 z1, .int .i64 z2, .int .i64 z3] 101)).alloc (.cells #[.bool yf, .int .u32 (ynu : Int), .int .i64 (yag : Int), .int .i64 yst, .int .i64 yc0, .int .i64 yc1, .int .i64 y0, .int .i64 y1, .int .i64 y2, .int .i64 y3] 101)) = w4 at *
          have x3 : w4.cell? ⟨wr.heap.size, 3, none⟩ = some (.int .i64 st) := cell_of_row _ _ _ _ _ _ HNX4.out
          have x4 : w4.cell? ⟨wr.heap.size + 1, 3, none⟩ = some (.int .i64 yst) := cell_of_row _ _ _ _ _ _ HNY4.out
          go_quiet (fail)
          have HB5 := hide (below_drewN (Below.refl w4.heap.size w4) nq)
          clear x3 x4
          generalize w4.drewN nq = w5 at *
          have HR5 := hide (HR4.out.below HB5.out)
          have HNX5 : Hid (w5.heap[wr.heap.size]? = some (.cells #[.bool false, .int .u32 (nu : Int), .int .i64 (ag : Int), .int .i64 st, .int .i64 c0, .int .i64 c1, .int .i64 z0, .int .i64 z1, .int .i64 z2, .int .i64 z3] 101 (0, 0))) := hide ((HB5.out.block _ (Array.getElem?_eq_some_iff.1 HNX4.out).1).trans HNX4.out)
          go_wp2_with fail
          go_ret2
          exact ⟨.inr ⟨HBD.out, rfl⟩, HR5.out.be⟩
end Go.Proofs.Ytlkccencilhacaa
namespace Go.Proofs.Ytlkccencilhacaa
open Go.RowKit Go.Sort
open Num
set_option linter.unusedVariables false
set_option linter.unusedSimpArgs false
set_option maxRecDepth 20000

set_option maxHeartbeats 4000000 in
theorem readPl_any {w : World} {v : Value} {bs : List (List Nat)} (slots ext : Nat) (hv : RSl w v bs) (hn : bs.length = 1 ∨ bs.length = 2 ∨ bs.length = 4) (h1 : 1 ≤ slots) (h2 : slots ≤ 16) :
    Calls Try.prog 36 #[.int .i64 (slots : Int), .int .i64 (ext : Int), v] w (RdP w slots ext bs) := by
  obtain ⟨gr, off, cap, rfl, hc1, hc2, hcl⟩ := hv
  unfold maxLen at hc2
  have hmk := fun W : World => run_plcs bs.length hn W
  have HCL := hide hcl
  have HFIN : Hid (∀ e w', ((∃ P, Places slots ext bs P ∧ HPl w' w.heap.size P ∧ e = .returned (.tuple #[.slice (some ⟨w.heap.size, 0, none⟩) bs.length bs.length, .bool true])) ∨ ((∃ i, i < bs.length ∧ ∀ p, ¬ plc slots ext bs.length (bs.getD 0 []).length i (bs.getD i []) p) ∧ e = .returned (.tuple #[.slice none 0 0, .bool false]))) → Below w.heap.size w w' → RdP w slots ext bs e w') := hide fun e w' h1 h2 => ⟨h1, h2⟩
  have HW0 : Hid (RpW w (w.alloc (.cells ((List.replicate bs.length (none : Option Rc)).flatMap plV).toArray 135)) slots ext bs (List.replicate bs.length none) 0) := hide ⟨(Below.refl _ _).alloc (Nat.le_refl _) _, Go.heap_alloc_new _ _, by simp, fun j hj => by omega, fun j _ => by simp [List.getD, List.getElem?_replicate]; split <;> rfl⟩
  have HNN : Hid (bs.length = 1 ∨ bs.length = 2 ∨ bs.length = 4) := hide hn
  have hn4 : bs.length ≤ 4 := by omega
  have hn1 : 1 ≤ bs.length := by omega
  clear hcl hn
  generalize hln : bs.length = n at *
  have HLN := hide hln
  clear hln
  obtain ⟨x0, y00, y01⟩ := HCL.out 0 (by omega)
  obtain ⟨a0, cap0, rfl, y02, y03, y04, y05, y06⟩ := y01
  generalize hl0 : (bs.getD 0 []).length = len0 at *
  have y00 : w.cell? ⟨gr, off, none⟩ = some (.slice a0 len0 cap0) := by simpa using y00
  have HY0 := hide y00
  have hgr : gr < w.heap.size := by
    rcases Nat.lt_or_ge gr w.heap.size with h | h
    · exact h
    · simp [World.cell?, Array.getElem?_eq_none h] at y00
  have HGR := hide hgr
  have HL0 := hide hl0
  clear y00 y04 y05 y06 hgr hl0
  go_enter Try.func36, Try.ntmps36
  go_wp2_with fail
  clear hmk
  go_loopw [18] (fun x wr => ∃ i : Nat, ∃ P : List (Option Rc), i ≤ n ∧ x = .int .i64 (i : Int) ∧ RpW w wr slots ext bs P i) (fun x _ => n - (intOf x).toNat)
  case atStart => exact ⟨0, List.replicate n none, by omega, rfl, HW0.out⟩
  case round =>
    clear HW0
    obtain ⟨i, P, hi, rfl, hrp⟩ := hrel
    have HRP := hide hrp
    clear hrp
    by_cases hlt : i < n
    · have hil : (i : Int) < (n : Int) := by omega
      obtain ⟨xi, y10, y11⟩ := HCL.out i hlt
      have HBS := hide (y11.below HRP.out.be)
      have HBYT : Hid (∀ b ∈ bs.getD i [], b < 256) := hide (by obtain ⟨_, _, _, _, _, _, q, _⟩ := y11; exact q)
      have d0 : wr.cell? ⟨gr, off, none⟩ = some (.slice a0 len0 cap0) := by rw [HRP.out.be.cell HGR.out]; exact HY0.out
      have d1 : wr.cell? ⟨gr, off + i, none⟩ = some xi := by rw [HRP.out.be.cell HGR.out]; exact y10
      clear y10 y11
      have hB := HBS.out
      obtain ⟨a1, cap1, rfl, y12, y13, y14, y15, y16⟩ := hB
      clear y14 y15 y16
      have HPLC : Hid (∀ p, plc slots ext n len0 i (bs.getD i []) p → (bs.getD i []).length = len0 ∧ vsz (bs.getD i []).length) := hide fun p h => h.1
      have HNO : Hid ((∀ p, ¬ plc slots ext n len0 i (bs.getD i []) p) → ∃ i, i < n ∧ ∀ p, ¬ plc slots ext n len0 i (bs.getD i []) p) := hide fun h => ⟨i, hlt, h⟩
      generalize hLL : (bs.getD i []).length = LL at *
      have HLL := hide hLL
      clear hLL
      by_cases hsz : LL = len0
      · subst hsz
        have HVS := hide fun x => vsizeZ_any x (LL : Int)
        cases hok : okZ (LL : Int) with
        | false =>
          rw [hok] at HVS
          have HBAD : Hid (∀ p, ¬ plc slots ext n LL i (bs.getD i []) p) := hide fun p hp => by
            have := (HPLC.out p hp).2
            have h9 : okZ (LL : Int) = true := okZ_iff.2 (by unfold vsz at this; omega)
            rw [hok] at h9; cases h9
          have HBE := hide HRP.out.be
          go_wp2_with (go_at_call 54; refine (HVS.out _).mono ?_; rintro e y ⟨rfl, rfl⟩)
          go_ret2
          exact HFIN.out _ _ (.inr ⟨HNO.out HBAD.out, rfl⟩) HBE.out
        | true =>
          rw [hok] at HVS
          have hvs : vsz LL := by have := okZ_iff.1 hok; unfold vsz; omega
          have hge := hvs.ge
          have HIB := hide (isBlank_any _ _ wr HBS.out)
          by_cases hbl : ∀ b ∈ bs.getD i [], b = 0
          · rw [decide_eq_true hbl] at HIB
            have HNX := hide (HRP.out.blank (by rw [HLN.out, HL0.out]; exact ⟨⟨HLL.out, by rw [HLL.out]; exact hvs⟩, .inl ⟨rfl, hbl⟩⟩))
            go_wp2_with (first
              | (go_at_call 54; refine (HVS.out _).mono ?_; rintro e y ⟨rfl, rfl⟩)
              | (go_at_call 64; refine HIB.out.mono ?_; rintro e y ⟨rfl, rfl⟩))
            go_roundw
            case rel => exact ⟨i + 1, P, by omega, by go_num, HNX.out⟩
            case measure => simp [intOf]; omega
          · rw [decide_eq_false hbl] at HIB
            have HPA := hide (parse_any wr _ _ HBS.out (by rw [HLL.out]; exact hvs))
            obtain ⟨num, age, slots0, c0, c1, c2, st, z0, z1, z2, z3, e4, e5⟩ : ∃ num age slots0 : Nat, ∃ c0 c1 c2 st z0 z1 z2 z3 : Int, recI (prs (bs.getD i [])) = #[.int .u32 (num : Int), .int .i64 (age : Int), .int .i64 (slots0 : Int), .int .i64 c0, .int .i64 c1, .int .i64 c2, .int .i64 st, .int .i64 z0, .int .i64 z1, .int .i64 z2, .int .i64 z3] ∧ (prs (bs.getD i [])).num = num := ⟨_, _, _, _, _, _, _, _, _, _, _, rfl, rfl⟩
            have HVA := hide fun x => validP_any x (bs.getD i []) slots ext h1 h2 HBYT.out
            have hnum : num < 4294967296 := by
              rw [← e5]
              exact bval_u32 (fun b hb => HBYT.out b (List.mem_of_mem_drop (List.mem_of_mem_take hb))) (by simp; omega)
            have HPV : Hid (plV (some (prs (bs.getD i []))) = [.int .u32 (num : Int), .int .i64 (age : Int), .int .i64 (slots0 : Int), .int .i64 c0, .int .i64 c1, .int .i64 c2, .int .i64 st, .int .i64 z0, .int .i64 z1, .int .i64 z2, .int .i64 z3, .bool true]) := hide (by
              show (recI (prs (bs.getD i []))).toList ++ [.bool true] = _
              rw [e4]; rfl)
            have HGOOD : Hid (bs.getD i [] = (prs (bs.getD i [])).bytes LL → (prs (bs.getD i [])).Ok slots ext → num % n = i → plc slots ext bs.length (bs.getD 0 []).length i (bs.getD i []) (some (prs (bs.getD i [])))) := hide fun q1 q2 q3 => by
              rw [HLN.out, HL0.out]
              exact ⟨⟨HLL.out, by rw [HLL.out]; exact hvs⟩, .inr ⟨rfl, hbl, by rw [HLL.out]; exact q1.symm, q2, by rw [e5]; exact q3⟩⟩
            have HBAD : Hid (¬ (bs.getD i [] = (prs (bs.getD i [])).bytes LL ∧ (prs (bs.getD i [])).Ok slots ext ∧ num % n = i) → ∀ p, ¬ plc slots ext n LL i (bs.getD i []) p) := hide fun hne p hp => by
              rcases hp.2 with ⟨-, q⟩ | ⟨-, -, q1, q2, q3⟩
              · exact hbl q
              · exact hne ⟨by rw [HLL.out] at q1; exact q1.symm, q2, by rw [e5] at q3; exact q3⟩
            rw [HLL.out, e4] at HPA
            rw [e4] at HVA
            have HBL := hide hbl
            clear hbl e4 e5 HPLC
            obtain ⟨bk, hbk⟩ : ∃ bk, decide (bs.getD i [] = (prs (bs.getD i [])).bytes LL) = bk := ⟨_, rfl⟩
            rw [hbk] at HPA
            have HBK : Hid (bk = true ↔ bs.getD i [] = (prs (bs.getD i [])).bytes LL) := hide (by rw [← hbk]; exact decide_eq_true_iff)
            clear hbk
            generalize (bs.getD i [] = (prs (bs.getD i [])).bytes LL) = PK at *
            generalize (prs (bs.getD i [])).Ok slots ext = OK at *
            generalize prs (bs.getD i []) = RR at *
            have HZ : Hid (∀ wy : World, (wy.alloc (.cells zrec 90)).heap[wy.heap.size]? = some (.cells zrec 90 (0, 0))) := hide fun wy => Go.heap_alloc_new _ _
            have HIX := hide fun x => hidx_any x (some ⟨w.heap.size, 0, none⟩) n num hn1 hn4 hnum
            have HNUM := hide hnum
            clear hnum h1 h2 HCL HY0 HBS HBYT HNN
            cases bk with
            | false =>
              have HB1 : Hid (∀ p, ¬ plc slots ext n LL i (bs.getD i []) p) := hide (HBAD.out fun h => by have := HBK.out.2 h.1; cases this)
              go_wp2_with (first
                | (go_at_call 54; refine (HVS.out _).mono ?_; rintro e y ⟨rfl, rfl⟩)
                | (go_at_call 64; refine HIB.out.mono ?_; rintro e y ⟨rfl, rfl⟩)
                | (go_at_call 65; refine HPA.out.mono ?_; rintro e wy ⟨rfl, hby⟩; have HRY := hide (HRP.out.below hby); have HRZ := hide (HRY.out.below ((Below.refl _ _).alloc (Nat.le_refl _) (.cells #[.int .u32 (num : Int), .int .i64 (age : Int), .int .i64 (slots0 : Int), .int .i64 c0, .int .i64 c1, .int .i64 c2, .int .i64 st, .int .i64 z0, .int .i64 z1, .int .i64 z2, .int .i64 z3] 90))); clear hby HPA)
                | (refine wpList_store_row rfl 90 (.tmp 11) (.tmp 41) rfl wy.heap.size _ rfl rfl 90 zrec (HZ.out _) recSize rfl (by first | kernel_rfl | simp [Value.oneCell']) ?_; rw [World.setRow_alloc_new]))
              go_ret2
              exact HFIN.out _ _ (.inr ⟨HNO.out HB1.out, rfl⟩) HRZ.out.be
            | true =>
              have HPK : Hid PK := hide (HBK.out.1 rfl)
              go_wp2_with (first
                | (go_at_call 54; refine (HVS.out _).mono ?_; rintro e y ⟨rfl, rfl⟩)
                | (go_at_call 64; refine HIB.out.mono ?_; rintro e y ⟨rfl, rfl⟩)
                | (go_at_call 65; refine HPA.out.mono ?_; rintro e wy ⟨rfl, hby⟩; have HRY := hide (HRP.out.below hby); have HRZ := hide (HRY.out.below ((Below.refl _ _).alloc (Nat.le_refl _) (.cells #[.int .u32 (num : Int), .int .i64 (age : Int), .int .i64 (slots0 : Int), .int .i64 c0, .int .i64 c1, .int .i64 c2, .int .i64 st, .int .i64 z0, .int .i64 z1, .int .i64 z2, .int .i64 z3] 90))); have HBX := hide (Go.heap_alloc_new wy (.cells #[.int .u32 (num : Int), .int .i64 (age : Int), .int .i64 (slots0 : Int), .int .i64 c0, .int .i64 c1, .int .i64 c2, .int .i64 st, .int .i64 z0, .int .i64 z1, .int .i64 z2, .int .i64 z3] 90)); clear hby HPA)
                | (refine wpList_store_row rfl 90 (.tmp 11) (.tmp 41) rfl wy.heap.size _ rfl rfl 90 zrec (HZ.out _) recSize rfl (by first | kernel_rfl | simp [Value.oneCell']) ?_; rw [World.setRow_alloc_new])
                | (go_at_call 66; refine (HVA.out _).mono ?_; rintro e wz ⟨bv, rfl, hbv, hbz⟩; have HRW := hide (HRZ.out.below hbz); have HBW := hide ((hbz.block _ (Array.getElem?_eq_some_iff.1 HBX.out).1).trans HBX.out); have n0 : wz.cell? ⟨wy.heap.size, 0, none⟩ = some (.int .u32 (num : Int)) := cell_of_row _ _ _ _ _ _ HBW.out; have HBV := hide hbv; clear hbz hbv HVA; cases bv)
                | (refine wpList_load_row rfl 90 (.tmp 11) rfl wy.heap.size rfl 90 #[.int .u32 (num : Int), .int .i64 (age : Int), .int .i64 (slots0 : Int), .int .i64 c0, .int .i64 c1, .int .i64 c2, .int .i64 st, .int .i64 z0, .int .i64 z1, .int .i64 z2, .int .i64 z3] (0, 0) _ HBW.out Try.underlying90 rfl recSize ?_)
                | (refine wpList_store_mid rfl 135 (.tmp 64) (.tmp 63) rfl w.heap.size (i * 12) #[.int .u32 (num : Int), .int .i64 (age : Int), .int .i64 (slots0 : Int), .int .i64 c0, .int .i64 c1, .int .i64 c2, .int .i64 st, .int .i64 z0, .int .i64 z1, .int .i64 z2, .int .i64 z3, .bool true] rfl rfl (HRW.out.there (by rw [HLN.out]; exact hlt)) placeSize (by first | kernel_rfl | simp [Value.oneCell']) ?_; generalize hws : World.setCells _ w.heap.size (i * 12) _ = ws; have HWS := hide hws; clear hws)
                | (go_at_call 67; refine (HIX.out _).mono ?_; rintro e wq ⟨rfl, rfl⟩; clear HIX))
              · have HB1 : Hid (∀ p, ¬ plc slots ext n LL i (bs.getD i []) p) := hide (HBAD.out fun h => by have := HBV.out.2 h.2.1; first | (cases this; done) | exact this.elim)
                go_ret2
                exact HFIN.out _ _ (.inr ⟨HNO.out HB1.out, rfl⟩) HRW.out.be
              · rename_i hne
                have hne : ¬ num % n = i := by intro e; rw [← e] at hne; simp at hne
                have HB1 : Hid (∀ p, ¬ plc slots ext n LL i (bs.getD i []) p) := hide (HBAD.out fun h => hne h.2.2)
                go_ret2
                exact HFIN.out _ _ (.inr ⟨HNO.out HB1.out, rfl⟩) HRW.out.be
              · rename_i hne
                have hne : num % n = i := by
                  have h7 : ((num : Int) % (n : Int)) = (i : Int) := by simpa using hne
                  exact_mod_cast h7
                have HNX := hide (HRW.out.store (by rw [HLN.out]; exact hlt) (HGOOD.out HPK.out (HBV.out.1 (by first | trivial | rfl)) hne))
                rw [HPV.out] at HNX
                have hws := HWS.out
                rw [show (#[.int .u32 (num : Int), .int .i64 (age : Int), .int .i64 (slots0 : Int), .int .i64 c0, .int .i64 c1, .int .i64 c2, .int .i64 st, .int .i64 z0, .int .i64 z1, .int .i64 z2, .int .i64 z3, .bool true] : Array Value).toList = [.int .u32 (num : Int), .int .i64 (age : Int), .int .i64 (slots0 : Int), .int .i64 c0, .int .i64 c1, .int .i64 c2, .int .i64 st, .int .i64 z0, .int .i64 z1, .int .i64 z2, .int .i64 z3, .bool true] from rfl] at hws
                rw [hws] at HNX
                clear hws
                go_roundw
                case rel => exact ⟨i + 1, _, by omega, by go_num, HNX.out⟩
                case measure => simp [intOf]; omega
      · have HBAD : Hid (∀ p, ¬ plc slots ext n len0 i (bs.getD i []) p) := hide fun p hp => hsz (HPLC.out p hp).1
        have HBE := hide HRP.out.be
        have hsz2 : ¬ (LL : Int) = (len0 : Int) := by omega
        go_wp2_with fail
        go_ret2
        exact HFIN.out _ _ (.inr ⟨HNO.out HBAD.out, rfl⟩) HBE.out
    · have HPL : Hid (Places slots ext bs P) := hide ⟨HRP.out.len, fun j hj => HRP.out.ok j (by rw [HLN.out] at hj; omega)⟩
      go_wp2_with fail
      go_ret2
      exact HFIN.out _ _ (.inl ⟨P, HPL.out, HRP.out.pl, rfl⟩) HRP.out.be
end Go.Proofs.Ytlkccencilhacaa
namespace Go.Proofs.Ytlkccencilhacaa
open Go.RowKit Go.Sort
open Num
set_option linter.unusedVariables false
set_option linter.unusedSimpArgs false
set_option maxRecDepth 20000

theorem Places.gd {slots ext : Nat} {bs : List (List Nat)} {P : List (Option Rc)} (h : Places slots ext bs P) (hs : slots ≤ 16) : ∀ (i : Nat) (r : Rc), P[i]? = some (some r) → GdR r slots ∧ r.Ok slots ext := by
  intro i r hr
  have hi : i < P.length := (List.getElem?_eq_some_iff.1 hr).1
  have hp := h.2 i (by rw [← h.1]; exact hi)
  have e : P.getD i none = some r := by rw [List.getD_eq_getElem?_getD, hr]; rfl
  rw [e] at hp
  rcases hp.2 with ⟨q, -⟩ | ⟨q, -, q2, q3, -⟩
  · cases q
  · have hq := Option.some.inj q
    generalize bs.getD i [] = l at *
    have hb : ∀ b ∈ l, b < 256 := fun b hb => by rw [← q2] at hb; exact bytes_lt _ _ b hb
    rw [← hq] at q3
    have hst0 := q3.s0
    have hst1 := q3.s1
    refine ⟨⟨?_, ?_, q3.sl, hst0, by omega, by rw [← q3.ca, ctxL_len]⟩, q3⟩
    · rw [hq]; exact bval_u32 (fun b hb' => hb b (List.mem_of_mem_drop (List.mem_of_mem_take hb'))) (by simp; omega)
    · rw [hq]
      have h := bval_lt ((l.drop 8).take 2) (fun b hb' => hb b (List.mem_of_mem_drop (List.mem_of_mem_take hb'))) 0
      have h3 : ((l.drop 8).take 2).length ≤ 2 := by simp; omega
      have h4 : 256 ^ ((l.drop 8).take 2).length ≤ 256 ^ 2 := Nat.pow_le_pow_right (by decide) h3
      show bvA l 8 2 < 65536
      unfold bvA bval
      omega
theorem layI_any {w : World} {g slots ext : Nat} {zs : List Int} (r : Rc) (hr : w.heap[g]? = some (.cells (ints zs) 3 (0, 0))) (h1 : 1 ≤ zs.length) (h2 : zs.length ≤ 16) (hz : zs.length = slots) (ho : r.Ok slots ext) :
    Calls Try.prog 41 #[.agg (recI r), .slice (some ⟨g, 0, none⟩) zs.length zs.length] w fun e w' => e = .returned (.tuple #[]) ∧ w'.heap[g]? = some (.cells (ints (layR r zs)) 3 (0, 0)) ∧ Chg (fun x => x = g) w w' := by
  have a0 := ho.a0; have a1 := ho.a1; have s0 := ho.s0; have s1 := ho.s1
  have hC : r.C.length = 4 := by rw [← ho.ca, ctxL_len]
  match r, hC, a0, a1, s0, s1 with
  | ⟨num, age, sl, c0, c1, c2, st, [z0, z1, z2, z3]⟩, _, a0, a1, s0, s1 =>
    simp only at a0 a1 s0 s1
    obtain ⟨cn, rfl⟩ : ∃ k : Nat, c0 = (k : Int) := ⟨c0.toNat, by omega⟩
    obtain ⟨sn, rfl⟩ : ∃ k : Nat, st = (k : Int) := ⟨st.toNat, by omega⟩
    exact lay_any num age sl cn c1 c2 sn z0 z1 z2 z3 hr h1 h2 (by omega) (by omega)
/-- what Replay answers -/
def RplP (w : World) (slots ext : Nat) (bs : List (List Nat)) (e : Ending) (w' : World) : Prop := ∃ res, RpRes slots ext bs res ∧ Below w.heap.size w w' ∧ match res with
  | none => e = .returned (.tuple #[.slice none 0 0, .int .u32 0, .int .i64 43])
  | some (row, N) => ∃ g, w.heap.size ≤ g ∧ e = .returned (.tuple #[.slice (some ⟨g, 0, none⟩) slots slots, .int .u32 ((N : Nat) : Int), .int .i64 0]) ∧ w'.heap[g]? = some (.cells (ints row) 3 (0, 0)) ∧ row.length = slots
/-- while the rows are laid -/
structure LaW (w wr : World) (slots : Nat) (rs : List Rc) (v : Value) (g bx : Nat) (num m : Nat) : Prop where
  be : Below w.heap.size w wr
  run : RRow wr v rs
  own : ∀ b, v.ownBlock = some b → b < g
  row : wr.heap[g]? = some (.cells (ints (rowOf slots (rs.drop m))) 3 (0, 0))
  bx0 : ∃ cs, wr.heap[bx]? = some (.cells cs 90 (0, 0)) ∧ cs[0]? = some (.int .u32 (num : Int))
  blt : bx < g
  lo : w.heap.size ≤ g
  ml : m ≤ rs.length
theorem rowOf_len (slots : Nat) : ∀ rs : List Rc, (rowOf slots rs).length = slots
  | [] => by simp [rowOf]
  | r :: rs => by have := rowOf_len slots rs; unfold rowOf at this ⊢; rw [List.foldr_cons, layR_len]; exact this
theorem LaW.lay {w x y : World} {slots : Nat} {rs : List Rc} {v : Value} {g bx num m : Nat} (h : LaW w x slots rs v g bx num (m + 1)) {r : Rc} (hr : rs[m]? = some r) (hy : y.heap[g]? = some (.cells (ints (layR r (rowOf slots (rs.drop (m + 1))))) 3 (0, 0))) (hc : Chg (fun b => b = g) x y) : LaW w y slots rs v g bx num m := by
  have hml := h.ml
  obtain ⟨cs, q1, q2⟩ := h.bx0
  have hblt := h.blt
  have hm : m < rs.length := by omega
  refine ⟨h.be.trans (hc.below h.be.size fun b e => by have := h.lo; omega), rowKept h.run fun g' hg' => ?_, h.own, ?_, ⟨cs, (hc.keep _ (Array.getElem?_eq_some_iff.1 q1).1 (by omega)).trans q1, q2⟩, hblt, h.lo, by omega⟩
  · obtain ⟨ds, hd⟩ := rowCells h.run hg'
    exact hc.keep _ (Array.getElem?_eq_some_iff.1 hd).1 (by have := h.own _ hg'; omega)
  · have e : rs.drop m = r :: rs.drop (m + 1) := by
      rw [List.drop_eq_getElem_cons hm]
      congr 1
      rw [List.getElem?_eq_getElem hm] at hr
      exact Option.some.inj hr
    rw [hy, e]
    rfl
theorem Run.ok {slots ext : Nat} {bs : List (List Nat)} {P : List (Option Rc)} {r : Rc} {rs : List Rc} (h : Run P r rs) (hn : Newest P r) (hP : Places slots ext bs P) (hs : slots ≤ 16) (hl : 1 ≤ P.length) : ∀ (k : Nat) (q : Rc), rs[k]? = some q → q.Ok slots ext := by
  intro k q hq
  obtain ⟨p1, p2⟩ := h.pl k q hq
  by_cases e : k = 0
  · rw [p1 e]
    obtain ⟨i, hi, -⟩ := hn
    exact (hP.gd hs i r hi).2
  · have h1 := p2 (by omega)
    unfold pAt at h1
    rw [List.getD_eq_getElem?_getD, List.getElem?_eq_getElem (Nat.mod_lt _ (by omega))] at h1
    exact (hP.gd hs _ q (by rw [List.getElem?_eq_getElem (Nat.mod_lt _ (by omega))]; simpa using h1)).2
set_option maxHeartbeats 4000000 in
theorem replay_any {w : World} {v : Value} {bs : List (List Nat)} (slots ext : Nat) (hv : RSl w v bs) (h1 : 1 ≤ slots) (h2 : slots ≤ 16) (h3 : 1 ≤ ext) (h4 : ext ≤ 1024) (hln : (bs.length : Int) = ringN (slots : Int)) :
    Calls Try.prog 9 #[.int .i64 (slots : Int), .int .i64 (ext : Int), v] w (RplP w slots ext bs) := by
  have hn : bs.length = 1 ∨ bs.length = 2 ∨ bs.length = 4 := by
    unfold ringN at hln
    rw [if_neg (by omega)] at hln
    split at hln
    · omega
    · split at hln <;> omega
  have HVS := hide fun x => validSlots_any x (slots : Int)
  rw [decide_eq_true (by omega)] at HVS
  have HVE := hide fun x => vext_any x (ext : Int)
  rw [decide_eq_true (by omega)] at HVE
  have HRG := hide fun x => ring_any x (slots : Int)
  rw [← hln] at HRG
  have HRD := hide (readPl_any slots ext hv hn h1 h2)
  have HFR := hide fun x => freeRow_any x slots h1 h2
  have hn4 : bs.length ≤ 4 := by omega
  have hn1 : 1 ≤ bs.length := by omega
  obtain ⟨gr, off, cap, rfl, -, -, -⟩ := hv
  clear hln hn
  generalize hl : bs.length = n at *
  have HL := hide hl
  clear hl
  go_enter Try.func9, Try.ntmps9
  go_wp2_with (first
    | (go_at_call 34; refine (HVS.out _).mono ?_; rintro e y ⟨rfl, rfl⟩)
    | (go_at_call 35; refine (HVE.out _).mono ?_; rintro e y ⟨rfl, rfl⟩)
    | (go_at_call 30; refine (HRG.out _).mono ?_; rintro e y ⟨rfl, rfl⟩)
    | (go_at_call 36; refine HRD.out.mono ?_; rintro e w1 ⟨hor, hb1⟩; rw [HL.out] at hor; rcases hor with ⟨P, hP, hPl, rfl⟩ | ⟨hbad, rfl⟩))
  · have HPP := hide hP
    have HPL := hide hPl
    have HB1 := hide hb1
    have HLP : Hid (P.length = n) := hide (by rw [← HL.out]; exact hP.1)
    have HBK := hide (hblank_any hPl (by rw [hP.1, HL.out]; exact hn4))
    rw [HLP.out] at HBK
    clear hP hPl hb1 HRD HVS HVE HRG
    go_wp2_with (go_at_call 37; refine HBK.out.mono ?_; rintro e w2 ⟨bb, rfl, hbb, hb2⟩; have HBB := hide hbb; have HB2 := hide (HB1.out.trans (hb2.mono HB1.out.size)); have HPL2 := hide (HPL.out.below hb2 (Array.getElem?_eq_some_iff.1 HPL.out).1); clear hbb hb2; cases bb)
    · -- some place is filled
      have HNB : Hid (¬ ∀ p ∈ P, p = none) := hide fun h => by have := HBB.out.2 h; first | (cases this; done) | exact this.elim
      have HNW := hide (hnew_any HPL2.out (by rw [HLP.out]; exact hn1) (by rw [HLP.out]; exact hn4) (fun i r hr => (HPP.out.gd h2 i r hr).1.n))
      rw [HLP.out] at HNW
      have HZ : Hid (∀ wy : World, (wy.alloc (.cells zrec 90)).heap[wy.heap.size]? = some (.cells zrec 90 (0, 0))) := hide fun wy => Go.heap_alloc_new _ _
      clear HBK HBB
      go_wp2_with (go_at_call 39; refine HNW.out.mono ?_; rintro e w3 ⟨hor, hb3⟩; have HB3 := hide (HB2.out.trans (hb3.mono HB2.out.size)); have HPL3 := hide (HPL2.out.below hb3 (Array.getElem?_eq_some_iff.1 HPL2.out).1); clear hb3; rcases hor with ⟨r, hr, rfl⟩ | ⟨hr, rfl⟩)
      · obtain ⟨num, age, sl0, c0, c1, c2, st, z0, z1, z2, z3, e4, e5⟩ : ∃ num age sl0 : Nat, ∃ c0 c1 c2 st z0 z1 z2 z3 : Int, recI r = #[.int .u32 (num : Int), .int .i64 (age : Int), .int .i64 (sl0 : Int), .int .i64 c0, .int .i64 c1, .int .i64 c2, .int .i64 st, .int .i64 z0, .int .i64 z1, .int .i64 z2, .int .i64 z3] ∧ r.num = num := ⟨_, _, _, _, _, _, _, _, _, _, _, rfl, rfl⟩
        have HNEW := hide hr
        have HE4 := hide e4
        have HE5 := hide e5
        have HGR : Hid (GdR r slots) := hide (by obtain ⟨i, hi, -⟩ := hr; exact (HPP.out.gd h2 i r hi).1)
        have HP4 : Hid (HPl (w3.alloc (.cells #[.int .u32 (num : Int), .int .i64 (age : Int), .int .i64 (sl0 : Int), .int .i64 c0, .int .i64 c1, .int .i64 c2, .int .i64 st, .int .i64 z0, .int .i64 z1, .int .i64 z2, .int .i64 z3] 90)) y.heap.size P ∧ Below y.heap.size y (w3.alloc (.cells #[.int .u32 (num : Int), .int .i64 (age : Int), .int .i64 (sl0 : Int), .int .i64 c0, .int .i64 c1, .int .i64 c2, .int .i64 st, .int .i64 z0, .int .i64 z1, .int .i64 z2, .int .i64 z3] 90)) ∧ (w3.alloc (.cells #[.int .u32 (num : Int), .int .i64 (age : Int), .int .i64 (sl0 : Int), .int .i64 c0, .int .i64 c1, .int .i64 c2, .int .i64 st, .int .i64 z0, .int .i64 z1, .int .i64 z2, .int .i64 z3] 90)).heap[w3.heap.size]? = some (.cells #[.int .u32 (num : Int), .int .i64 (age : Int), .int .i64 (sl0 : Int), .int .i64 c0, .int .i64 c1, .int .i64 c2, .int .i64 st, .int .i64 z0, .int .i64 z1, .int .i64 z2, .int .i64 z3] 90 (0, 0))) := hide ⟨HPL3.out.below ((Below.refl _ _).alloc (Nat.le_refl _) _) (Array.getElem?_eq_some_iff.1 HPL3.out).1, HB3.out.alloc HB3.out.size _, Go.heap_alloc_new _ _⟩
        have HRN := hide (hrun_any HP4.out.1 (by rw [HLP.out]; exact hn1) (by rw [HLP.out]; exact hn4) h1 h2 r HGR.out (fun i q hq => (HPP.out.gd h2 i q hq).1))
        rw [HLP.out, e4] at HRN
        rw [e4]
        clear e4 e5 hr
        go_wp2_with (first
          | (refine wpList_store_row rfl 90 (.tmp 11) (.tmp 44) rfl w3.heap.size _ rfl rfl 90 zrec (HZ.out _) recSize rfl (by first | kernel_rfl | simp [Value.oneCell']) ?_; rw [World.setRow_alloc_new])
          | (go_at_call 40; refine HRN.out.mono ?_; rintro e w5 ⟨hor, hb5⟩; have HB5 := hide (HP4.out.2.1.trans (hb5.mono HP4.out.2.1.size)); have HBX5 := hide ((hb5.block _ (Array.getElem?_eq_some_iff.1 HP4.out.2.2).1).trans HP4.out.2.2); clear hb5 HRN; rcases hor with ⟨rs, vr, hrun, rfl, hrow, hown⟩ | ⟨hbad, rfl⟩))
        · obtain ⟨va, vcap, rfl, hvc1, hvc2⟩ := rowForm hrow
          have hrl : 1 ≤ rs.length := by rw [hrun.len, HLP.out]; omega
          obtain ⟨g2, rfl⟩ : ∃ g2, va = some ⟨g2, 0, none⟩ := by
            rcases hrow.2 with ⟨e, e2⟩ | ⟨g', cap', cur, e, _⟩
            · omega
            · simp only [Value.slice.injEq] at e
              exact ⟨g', e.1⟩
          have hvl : rs.length ≤ 4 := by rw [hrun.len, HLP.out]; omega
          have HRUN := hide hrun
          have HRO : Hid (∀ (k : Nat) (q : Rc), rs[k]? = some q → q.Ok slots ext) := hide (hrun.ok HNEW.out HPP.out h2 (by rw [HLP.out]; exact hn1))
          have HLA : Hid (∀ w6, w6.heap[w5.heap.size]? = some (.cells (ints (List.replicate slots (-1))) 3 (0, 0)) → Below w5.heap.size w5 w6 → LaW y w6 slots rs (.slice (some ⟨g2, 0, none⟩) rs.length vcap) w5.heap.size w3.heap.size num rs.length) := hide fun w6 h6 hb6 => by
            obtain ⟨cs, hcs⟩ := rowCells hrow (g := g2) rfl
            have hg2 := (Array.getElem?_eq_some_iff.1 hcs).1
            have hb3 := (Array.getElem?_eq_some_iff.1 HBX5.out).1
            exact ⟨HB5.out.trans (hb6.mono HB5.out.size), rowKept hrow fun g' hg' => (by simp [Value.ownBlock] at hg'; subst hg'; exact hb6.block _ hg2), fun b hb => (by simp [Value.ownBlock] at hb; omega), (by rw [h6, List.drop_length]; rfl), ⟨_, (hb6.block _ hb3).trans HBX5.out, rfl⟩, hb3, HB5.out.size, Nat.le_refl _⟩
          have HRES : Hid (∀ w7 g, LaW y w7 slots rs (.slice (some ⟨g2, 0, none⟩) rs.length vcap) g w3.heap.size num 0 → RplP y slots ext bs (.returned (.tuple #[.slice (some ⟨g, 0, none⟩) slots slots, .int .u32 (((num + 1) % 4294967296 : Nat) : Int), .int .i64 0])) w7) := hide fun w7 g h7 => by
            refine ⟨some (rowOf slots rs, (num + 1) % 4294967296), ⟨P, HPP.out, .inr ⟨HNB.out, r, rs, HNEW.out, HRUN.out, rfl, by rw [HE5.out]⟩⟩, h7.be, g, h7.lo, rfl, by have := h7.row; rwa [List.drop_zero] at this, rowOf_len _ _⟩
          clear hrow hown hrun HZ HNW HPP HNEW HRUN HNB HGR HP4 HPL HPL2 HPL3 HE4 HE5
          generalize hk : rs.length = K at *
          have HK := hide hk
          clear hk
          go_wp2_with (go_at_call 38; refine (HFR.out _).mono ?_; rintro e w6 ⟨rfl, hr6, hb6⟩; have HL6 := hide (HLA.out _ hr6 hb6); clear hr6 hb6 HLA)
          generalize hg5 : w5.heap.size = g5 at *
          clear hg5
          go_loopw [14] (fun x wr => ∃ m : Nat, m ≤ K ∧ x = .int .i64 ((m : Int) - 1) ∧ LaW y wr slots rs (.slice (some ⟨g2, 0, none⟩) K vcap) g5 w3.heap.size num m) (fun x _ => (intOf x + 1).toNat)
          case atStart => exact ⟨K, Nat.le_refl _, rfl, HL6.out⟩
          case round =>
            clear HL6
            obtain ⟨m, hmK, rfl, hla⟩ := hrel
            have HLW := hide hla
            cases m with
            | zero =>
              obtain ⟨cs, q1, q2⟩ := hla.bx0
              have k0 : wr.cell? ⟨w3.heap.size, 0, none⟩ = some (.int .u32 (num : Int)) := by rw [cell_of_row _ _ _ _ _ _ q1]; exact q2
              have HFI : Hid (∀ q, RplP y slots ext bs (.returned (.tuple #[.slice (some ⟨g5, 0, none⟩) slots slots, .int .u32 (((num : Int) + 1) % 4294967296), .int .i64 0])) (wr.drewN q)) := hide fun q => by
                have hb := ((Qt.refl wr).drewN q).2
                have h7 := HRES.out (wr.drewN q) g5 ⟨hla.be.trans (hb.mono hla.be.size), rowKept hla.run fun g' hg' => (by obtain ⟨ds, hd⟩ := rowCells hla.run hg'; exact hb.block _ (Array.getElem?_eq_some_iff.1 hd).1), hla.own, (hb.block _ (Array.getElem?_eq_some_iff.1 hla.row).1).trans hla.row, ⟨cs, (hb.block _ (Array.getElem?_eq_some_iff.1 q1).1).trans q1, q2⟩, hla.blt, hla.lo, by omega⟩
                rwa [show (((num + 1) % 4294967296 : Nat) : Int) = ((num : Int) + 1) % 4294967296 by omega] at h7
              clear hla q1 q2 HLW HRES
              go_wp2_with fail
              go_quiet (fail)
              go_wp2_with fail
              go_ret3
              exact HFI.out _
            | succ m =>
              have hm1 : ((m + 1 : Nat) : Int) - 1 = (m : Int) := by omega
              rw [hm1]
              obtain ⟨q, hq⟩ : ∃ q, rs[m]? = some q := ⟨_, List.getElem?_eq_getElem (by rw [HK.out]; omega)⟩
              have HRG2 : Hid (wr.rangeAt g2 (m * 11) (recI q).toList) := hide ((by have := hla.run; rw [← HK.out] at this; exact this : RRow wr (.slice (some ⟨g2, 0, none⟩) rs.length vcap) rs).range hq)
              have HLY := hide (layI_any q hla.row (by rw [rowOf_len]; exact h1) (by rw [rowOf_len]; exact h2) (rowOf_len _ _) (HRO.out m q hq))
              rw [rowOf_len] at HLY
              have HQ := hide hq
              have hmk : (m : Int) < (K : Int) := by omega
              have hRs : (Try.prog.info? 90).map (·.size) = some (recI q).toList.length := by rw [recI_len]; exact recSize
              clear hla hq
              go_wp2_with (first
                | refine wpList_load_mid rfl 90 (.tmp 67) rfl g2 (m * 11) rfl (recI q).toList _ HRG2.out Try.underlying90 rfl hRs ?_
                | (go_at_call 41; refine HLY.out.mono ?_; rintro e w8 ⟨rfl, h81, h82⟩; have HN8 := hide (HLW.out.lay HQ.out h81 h82); clear h81 h82))
              go_roundw
              case rel => exact ⟨m, by omega, by go_num, HN8.out⟩
              case measure => simp [intOf]
        · have HBAD := hide hbad
          clear hbad
          go_wp2_with fail
          go_ret3
          exact ⟨none, .inr ⟨P, HPP.out, HNB.out, .inr ⟨r, HNEW.out, HBAD.out⟩⟩, HB5.out, rfl⟩
      · have HNO := hide hr
        clear hr
        go_wp2_with (refine wpList_store_row rfl 90 (.tmp 11) (.tmp 44) rfl w3.heap.size zrec rfl rfl 90 zrec (HZ.out _) recSize rfl (by first | kernel_rfl | simp [Value.oneCell']) ?_; rw [World.setRow_alloc_new])
        have HBF := hide (HB3.out.alloc HB3.out.size (.cells zrec 90))
        go_ret3
        exact ⟨none, .inr ⟨P, HPP.out, HNB.out, .inl HNO.out⟩, HBF.out, rfl⟩
    · go_wp2_with (go_at_call 38; refine (HFR.out _).mono ?_; rintro e w3 ⟨rfl, hr3, hb3⟩; have HR3 := hide hr3; have HB3 := hide (HB2.out.trans (hb3.mono HB2.out.size)); clear hr3 hb3)
      go_ret3
      exact ⟨some (List.replicate slots (-1), 0), ⟨P, HPP.out, .inl ⟨HBB.out.1 (by first | trivial | rfl), rfl, rfl⟩⟩, HB3.out, w2.heap.size, HB2.out.size, rfl, HR3.out, by simp⟩
  · have HB := hide hb1
    have HBAD := hide hbad
    clear hb1 hbad
    go_wp2_with fail
    go_ret3
    exact ⟨none, .inl (by rw [HL.out]; exact HBAD.out), HB.out, rfl⟩
end Go.Proofs.Ytlkccencilhacaa
namespace Go.Proofs.Ytlkccencilhacaa
open Go.RowKit Go.Sort
open Num
set_option linter.unusedVariables false
set_option linter.unusedSimpArgs false
set_option maxRecDepth 20000

set_option maxHeartbeats 1000000 in
theorem rblockZ_any (w : World) (n : Int) : Calls Try.prog 71 #[.int .i64 n] w fun e w' => e = .returned (.bool (okZ n)) ∧ w' = w := by
  unfold okZ
  by_cases h1 : n = 128
  · subst h1
    go_enter Try.func71, Try.ntmps71
    go_wp2_with fail
    go_ret
    exact ⟨rfl, rfl⟩
  by_cases h2 : n = 256
  · subst h2
    go_enter Try.func71, Try.ntmps71
    go_wp2_with fail
    go_ret
    exact ⟨rfl, rfl⟩
  by_cases h3 : n = 512
  · subst h3
    go_enter Try.func71, Try.ntmps71
    go_wp2_with fail
    go_ret
    exact ⟨rfl, rfl⟩
  go_enter Try.func71, Try.ntmps71
  go_wp2_with fail
  go_ret
  refine ⟨?_, rfl⟩
  have b1 : (n == 128) = false := by simpa using h1
  have b2 : (n == 256) = false := by simpa using h2
  have b3 : (n == 512) = false := by simpa using h3
  rw [b1, b2, b3]
  rfl
theorem plc_go {slots ext n len0 i : Nat} {l : List Nat} {p : Option Rc} {f : Bool} {nu : Nat} (hb6 : ∀ b ∈ l, b < 256) (h : l.length = len0 ∧ vsz l.length) (hp : (p = none ∧ ∀ b ∈ l, b = 0) ∨ (p = some (prs l) ∧ (¬ ∀ b ∈ l, b = 0) ∧ (prs l).bytes l.length = l ∧ (prs l).Ok slots ext)) (e2 : f = true ↔ p = none) (e3 : ∀ r, p = some r → r.num = nu) :
    (f = true ∧ plc slots ext n len0 i l p) ∨ (f = false ∧ nu < 4294967296 ∧ nu % n = i ∧ plc slots ext n len0 i l p) ∨ (f = false ∧ nu < 4294967296 ∧ nu % n ≠ i ∧ ∀ q, ¬ plc slots ext n len0 i l q) := by
  rcases hp with ⟨rfl, hz⟩ | ⟨rfl, hz, hb, hok⟩
  · exact .inl ⟨e2.2 rfl, ⟨h, .inl ⟨rfl, hz⟩⟩⟩
  · have hn := e3 _ rfl
    have hf : f = false := by cases f with
      | false => rfl
      | true => have := e2.1 rfl; cases this
    have hl : nu < 4294967296 := by rw [← hn]; exact bvA_lt4 l hb6 4 4 (by omega)
    by_cases e : nu % n = i
    · exact .inr (.inl ⟨hf, hl, e, h, .inr ⟨rfl, hz, hb, hok, by rw [hn]; exact e⟩⟩)
    · refine .inr (.inr ⟨hf, hl, e, fun q hq => ?_⟩)
      rcases hq.2 with ⟨-, k⟩ | ⟨-, -, -, -, k⟩
      · exact hz k
      · exact e (by rw [← hn]; exact k)
theorem rem_fact (k n : Nat) : (k : Int).tmod (n : Int) = ((k % n : Nat) : Int) := by rw [Int.tmod_eq_emod_of_nonneg (by omega)]; simp
theorem rem_fact2 (k n : Nat) : (k : Int) % (n : Int) = ((k % n : Nat) : Int) := by simp
theorem plc_no {slots ext n len0 i : Nat} {l : List Nat} (hz : ¬ ∀ b ∈ l, b = 0) (hno : ¬ ((prs l).bytes l.length = l ∧ (prs l).Ok slots ext)) : ∀ q, ¬ plc slots ext n len0 i l q := fun q hq => by
  rcases hq.2 with ⟨-, k⟩ | ⟨-, -, k1, k2, -⟩
  · exact hz k
  · exact hno ⟨k1, k2⟩
/-- what entries answers -/
def EnQ (w : World) (slots ext : Nat) (bs : List (List Nat)) (e : Ending) (w' : World) : Prop := ((∃ P v, Places slots ext bs P ∧ ERow w' v P ∧ (∀ b, v.ownBlock = some b → w.heap.size ≤ b) ∧ e = .returned (.tuple #[v, .bool true])) ∨ ((∃ i, i < bs.length ∧ ∀ p, ¬ plc slots ext bs.length (bs.getD 0 []).length i (bs.getD i []) p) ∧ e = .returned (.tuple #[.slice none 0 0, .bool false]))) ∧ Below w.heap.size w w'
/-- while the entries are gathered -/
structure EnI (w wr : World) (slots ext : Nat) (bs : List (List Nat)) (qs : List (Option Rc)) (v : Value) : Prop where
  be : Below w.heap.size w wr
  row : ERow wr v qs
  own : ∀ b, v.ownBlock = some b → w.heap.size ≤ b
  ok : ∀ j, j < qs.length → plc slots ext bs.length (bs.getD 0 []).length j (bs.getD j []) (qs.getD j none)
theorem EnI.below {w x y : World} {slots ext : Nat} {bs : List (List Nat)} {qs : List (Option Rc)} {v : Value} (h : EnI w x slots ext bs qs v) (hb : Below x.heap.size x y) : EnI w y slots ext bs qs v := by
  refine ⟨h.be.trans (hb.mono h.be.size), rowKept h.row fun g hg => ?_, h.own, h.ok⟩
  obtain ⟨cs, hc⟩ := rowCells h.row hg
  exact hb.block _ (Array.getElem?_eq_some_iff.1 hc).1
theorem EnI.more {w x w6 : World} {slots ext : Nat} {bs : List (List Nat)} {qs : List (Option Rc)} {v v6 : Value} {o : Obj} {p : Option Rc} (h : EnI w x slots ext bs qs v) (ho : w6.ownsRow 0 101 10 v6 (qs.length + 1) (flE qs ++ (enC p).toList)) (hu : UponC (x.alloc o) w6 v v6) (hp : plc slots ext bs.length (bs.getD 0 []).length qs.length (bs.getD qs.length []) p) : EnI w w6 slots ext bs (qs ++ [p]) v6 := by
  have hb0 := (Below.refl x.heap.size x).alloc (Nat.le_refl _) o
  have hs := h.be.size
  have hb : Below w.heap.size x w6 := by
    obtain ⟨e1, e2, e3⟩ := hu.same
    refine ⟨e1, e2, e3, Nat.le_trans (by simp) hu.size, fun b hb => ?_⟩
    rw [hu.block b (by simp; omega) (fun e => by have := h.own b e; omega)]
    exact hb0.block b (by omega)
  refine ⟨h.be.trans hb, by unfold ERow; rw [List.length_append]; simpa [flE] using ho, fun b e => ?_, fun j hj => ?_⟩
  · rcases hu.loc b e with h1 | h1
    · exact h.own b h1
    · rw [h1]; simp; omega
  · by_cases e : j < qs.length
    · have e1 : (qs ++ [p]).getD j none = qs.getD j none := by simp [List.getD, List.getElem?_append_left e]
      rw [e1]
      exact h.ok j e
    · rw [List.length_append] at hj
      have : j = qs.length := by simp at hj; omega
      subst this
      have e1 : (qs ++ [p]).getD qs.length none = p := by simp [List.getD]
      rw [e1]
      exact hp
set_option maxHeartbeats 8000000 in
theorem entries_any {w : World} {v : Value} {bs : List (List Nat)} (slots ext : Nat) (hv : RSl w v bs) (hn : bs.length = 1 ∨ bs.length = 2 ∨ bs.length = 4) (h1 : 1 ≤ slots) (h2 : slots ≤ 16) (h3 : 1 ≤ ext) (h4 : ext ≤ 1024) :
    Calls Try.prog 43 #[.int .i64 (slots : Int), .int .i64 (ext : Int), v] w (EnQ w slots ext bs) := by
  obtain ⟨gr, off, cap, rfl, hc1, hc2, hcl⟩ := hv
  unfold maxLen at hc2
  have HCL := hide hcl
  have HFIN : Hid (∀ e w', ((∃ P v, Places slots ext bs P ∧ ERow w' v P ∧ (∀ b, v.ownBlock = some b → w.heap.size ≤ b) ∧ e = .returned (.tuple #[v, .bool true])) ∨ ((∃ i, i < bs.length ∧ ∀ p, ¬ plc slots ext bs.length (bs.getD 0 []).length i (bs.getD i []) p) ∧ e = .returned (.tuple #[.slice none 0 0, .bool false]))) → Below w.heap.size w w' → EnQ w slots ext bs e w') := hide fun e w' h1 h2 => ⟨h1, h2⟩
  have HW0 : Hid (EnI w w slots ext bs [] (.slice none 0 0)) := hide ⟨Below.refl _ _, World.ownsRow_nil _ _ _ _, fun b e => by simp [Value.ownBlock] at e, fun j hj => by simp at hj⟩
  have HMO : Hid (∀ (x w6 : World) (qs : List (Option Rc)) (v v6 : Value) (o : Obj) (p : Option Rc), EnI w x slots ext bs qs v → w6.ownsRow 0 101 10 v6 (qs.length + 1) (flE qs ++ (enC p).toList) → UponC (x.alloc o) w6 v v6 → plc slots ext bs.length (bs.getD 0 []).length qs.length (bs.getD qs.length []) p → EnI w w6 slots ext bs (qs ++ [p]) v6) := hide fun x w6 qs v v6 o p hh a b c => hh.more a b c
  have hn4 : bs.length ≤ 4 := by omega
  have hn1 : 1 ≤ bs.length := by omega
  have HPLS : Hid (∀ x qs v, EnI w x slots ext bs qs v → qs.length = bs.length → Places slots ext bs qs) := hide fun x qs v hh he => ⟨he, fun i hi => hh.ok i (by omega)⟩
  clear hcl hn
  generalize hln : bs.length = n at *
  have HLN := hide hln
  clear hln
  obtain ⟨x0, y00, y01⟩ := HCL.out 0 (by omega)
  obtain ⟨a0, cap0, rfl, y02, y03, y04, y05, y06⟩ := y01
  generalize hl0 : (bs.getD 0 []).length = len0 at *
  have y00 : w.cell? ⟨gr, off, none⟩ = some (.slice a0 len0 cap0) := by simpa using y00
  have HY0 := hide y00
  have hgr : gr < w.heap.size := by
    rcases Nat.lt_or_ge gr w.heap.size with h | h
    · exact h
    · simp [World.cell?, Array.getElem?_eq_none h] at y00
  have HGR := hide hgr
  have HL0 := hide hl0
  obtain ⟨i0, hi0, hz0, hz1, hz2⟩ := info_parts info_ent
  clear y00 y04 y05 y06 hgr hl0
  go_enter Try.func43, Try.ntmps43
  go_wp2_with fail
  go_loopw [8, 9] (fun vv x wr => ∃ qs : List (Option Rc), qs.length ≤ n ∧ x = .int .i64 (qs.length : Int) ∧ EnI w wr slots ext bs qs vv) (fun _ x _ => n - (intOf x).toNat)
  case atStart => exact ⟨[], by simp, rfl, HW0.out⟩
  case round =>
    clear HW0
    obtain ⟨qs, hi, rfl, hrp⟩ := hrel
    obtain ⟨va, vcap, rfl, hvc1, hvc2⟩ := rowForm hrp.row
    have HRP := hide hrp
    clear hrp
    generalize hql : qs.length = i at *
    have HQL := hide hql
    clear hql
    by_cases hlt : i < n
    · have hil : (i : Int) < (n : Int) := by omega
      have hn0I : (0 : Int) < (n : Int) := by omega
      obtain ⟨xi, y10, y11⟩ := HCL.out i hlt
      have HBS := hide (y11.below HRP.out.be)
      have HBYT : Hid (∀ b ∈ bs.getD i [], b < 256) := hide (by obtain ⟨_, _, _, _, _, _, q, _⟩ := y11; exact q)
      have d0 : wr.cell? ⟨gr, off, none⟩ = some (.slice a0 len0 cap0) := by rw [HRP.out.be.cell HGR.out]; exact HY0.out
      have d1 : wr.cell? ⟨gr, off + i, none⟩ = some xi := by rw [HRP.out.be.cell HGR.out]; exact y10
      have HD1 : Hid (∀ m, (wr.drewN m).cell? ⟨gr, off + i, none⟩ = some xi) := hide fun m => by rw [(below_drewN HRP.out.be m).cell HGR.out]; exact y10
      clear y10 y11
      have hB := HBS.out
      obtain ⟨a1, cap1, rfl, y12, y13, y14, y15, y16⟩ := hB
      clear y14 y15 y16
      have HPLC : Hid (∀ p, plc slots ext n len0 i (bs.getD i []) p → (bs.getD i []).length = len0 ∧ vsz (bs.getD i []).length) := hide fun p h => h.1
      have HNO : Hid ((∀ p, ¬ plc slots ext n len0 i (bs.getD i []) p) → ∃ i, i < n ∧ ∀ p, ¬ plc slots ext n len0 i (bs.getD i []) p) := hide fun h => ⟨i, hlt, h⟩
      have HMI := hide fun x w6 v6 o p => HMO.out x w6 qs (.slice va i vcap) v6 o p
      rw [HQL.out] at HMI
      generalize hLL : (bs.getD i []).length = LL at *
      have HLL := hide hLL
      clear hLL
      have HVS := hide fun x => rblockZ_any x (LL : Int)
      have HOW : Hid (∀ x, EnI w x slots ext bs qs (.slice va i vcap) → ∀ o, (x.alloc o).ownsRow 0 101 10 (.slice va i vcap) i (flE qs)) := hide fun x hx o => by
        have := (hx.below ((Below.refl _ _).alloc (Nat.le_refl _) o)).row
        unfold ERow at this
        rw [HQL.out] at this
        exact this
      by_cases hgd : LL = len0 ∧ vsz LL
      case neg =>
        have HBAD : Hid (∀ p, ¬ plc slots ext n len0 i (bs.getD i []) p) := hide fun p hp => hgd (HPLC.out p hp)
        have HBE := hide fun m => (below_drewN HRP.out.be m)
        cases hok : okZ (LL : Int) with
        | false =>
          rw [hok] at HVS
          clear hgd
          go_wp2_with fail
          go_quiet ((go_at_call 71; exact Calls.quiet_of_same (HVS.out _)))
          go_wp2_with fail
          go_ret2
          exact HFIN.out _ _ (.inr ⟨HNO.out HBAD.out, rfl⟩) (HBE.out _)
        | true =>
          rw [hok] at HVS
          have hne : ((LL : Int) != (len0 : Int)) = true := by
            have h9 := okZ_iff.1 hok
            have h8 : ¬ LL = len0 := fun e => hgd ⟨e, by unfold vsz; omega⟩
            simp
            omega
          clear hgd hok
          go_wp2_with fail
          go_quiet ((go_at_call 71; exact Calls.quiet_of_same (HVS.out _)))
          go_wp2_with fail
          go_ret2
          exact HFIN.out _ _ (.inr ⟨HNO.out HBAD.out, rfl⟩) (HBE.out _)
      case pos =>
        obtain ⟨hll, hvs⟩ := hgd
        subst hll
        have hok : okZ (LL : Int) = true := okZ_iff.2 (by unfold vsz at hvs; omega)
        rw [hok] at HVS
        clear hok
        have hge := hvs.ge
        have hne : ((LL : Int) != (LL : Int)) = false := by simp
        go_wp2_with fail
        go_quiet ((go_at_call 71; exact Calls.quiet_of_same (HVS.out _)))
        have hbq := below_drewN (Below.refl wr.heap.size wr) nq
        have HRP2 := hide (HRP.out.below hbq)
        have HBS2 := hide (HBS.out.below hbq)
        have d2 : (wr.drewN nq).cell? ⟨gr, off + i, none⟩ = some (.slice a1 LL cap1) := HD1.out nq
        clear hbq d0 d1 HD1 HRP HBS
        generalize wr.drewN nq = wr2 at *
        have HRR := hide (rread_any _ _ wr2 HBS2.out slots ext h1 h2 h3 h4 (by rw [HLL.out]; exact hvs))
        have HZ : Hid (∀ wy : World, (wy.alloc (.cells zEnt 101)).heap[wy.heap.size]? = some (.cells zEnt 101 (0, 0))) := hide fun wy => Go.heap_alloc_new _ _
        have HRQ : Hid (∀ e, RrP (bs.getD i []) slots ext e → RrQ (bs.getD i []) slots ext e) := hide fun e he => he.q (by rw [HLL.out]; omega) HBYT.out h1 h2 h3 h4
        have HLV : Hid ((bs.getD i []).length = LL ∧ vsz (bs.getD i []).length) := hide ⟨HLL.out, by rw [HLL.out]; exact hvs⟩
        clear hne HVS hvs
        have hnz : ¬ (n : Int) = 0 := by omega
        go_wp2_with (first
          | (go_at_call 72; refine HRR.out.mono ?_; rintro e y ⟨hor, hby⟩; have HR3 := hide (HRP2.out.below hby); clear hby HRR; rcases HRQ.out _ hor with ⟨p, hp, he⟩ | ⟨hz, hno, he⟩ <;> clear hor; all_goals (first
              | (obtain ⟨f, nu, ag, st, c0, c1, z0, z1, z2, z3, e1, e2, e3⟩ := enC_lit p; rw [e1] at he; subst he; have HE1 := hide e1; have HR4 := hide (HR3.out.below ((Below.refl _ _).alloc (Nat.le_refl _) (.cells #[.bool f, .int .u32 (nu : Int), .int .i64 (ag : Int), .int .i64 st, .int .i64 c0, .int .i64 c1, .int .i64 z0, .int .i64 z1, .int .i64 z2, .int .i64 z3] 101))); have HN4 := hide (Go.heap_alloc_new y (.cells #[.bool f, .int .u32 (nu : Int), .int .i64 (ag : Int), .int .i64 st, .int .i64 c0, .int .i64 c1, .int .i64 z0, .int .i64 z1, .int .i64 z2, .int .i64 z3] 101)); have htm := rem_fact nu n; have hem := rem_fact2 nu n; rcases plc_go (n := n) (i := i) HBYT.out HLV.out hp e2 (fun r hr => (e3 r hr).1) with ⟨rfl, hpl⟩ | ⟨rfl, hnu, hrx, hpl⟩ | ⟨rfl, hnu, hrx, hpl⟩ <;> (have HPL := hide hpl; clear e1 e2 e3 hp hpl; first
                | (have hki := wrap_i nu hnu; rw [hrx] at htm hem; clear hrx)
                | (have hki := wrap_i nu hnu; generalize nu % n = rx at *; have hrI : ¬ (rx : Int) = (i : Int) := (by omega); clear hrx)
                | clear htm hem))
              | (simp only [zEnt] at he; subst he; have HPL := hide (plc_no (n := n) (len0 := LL) (i := i) hz hno); have HR4 := hide (HR3.out.below ((Below.refl _ _).alloc (Nat.le_refl _) (.cells #[.bool false, .int .u32 0, .int .i64 0, .int .i64 0, .int .i64 0, .int .i64 0, .int .i64 0, .int .i64 0, .int .i64 0, .int .i64 0] 101))); clear hz hno)))
          | (refine wpList_store_row rfl 101 (.tmp 10) (.tmp 45) rfl y.heap.size _ rfl rfl 101 zEnt (HZ.out _) entSize rfl (by first | kernel_rfl | simp [Value.oneCell']) ?_; rw [World.setRow_alloc_new]; go_wp2_with (first
              | (at_builtin; refine wpList_appendC _ rfl (.tmp 64) (.tmp 66) 97 rfl 101 i0 (.agg zEnt) 10 72 Try.underlying97 hi0 hz0 hz1 hz2 rfl (by decide) (.slice va i vcap) i (flE qs) rfl (HOW.out _ HR4.out _) ⟨y.heap.size + 1, 0, none⟩ 1 1 [.bool true, .int .u32 (nu : Int), .int .i64 (ag : Int), .int .i64 st, .int .i64 c0, .int .i64 c1, .int .i64 z0, .int .i64 z1, .int .i64 z2, .int .i64 z3] rfl rfl (by decide) (fun j u hj => by rw [Addr.add_lit, Nat.zero_add]; exact (rangeTake (by have := Go.heap_alloc_new (y.alloc (.cells #[.bool true, .int .u32 (nu : Int), .int .i64 (ag : Int), .int .i64 st, .int .i64 c0, .int .i64 c1, .int .i64 z0, .int .i64 z1, .int .i64 z2, .int .i64 z3] 101)) (.cells #[.bool true, .int .u32 (nu : Int), .int .i64 (ag : Int), .int .i64 st, .int .i64 c0, .int .i64 c1, .int .i64 z0, .int .i64 z1, .int .i64 z2, .int .i64 z3] 101); rw [World.size_alloc] at this; exact this) rfl) j u hj ▸ (by simp)) (by intro u hu; simp only [List.mem_cons, List.not_mem_nil, or_false] at hu; rcases hu with rfl | rfl | rfl | rfl | rfl | rfl | rfl | rfl | rfl | rfl <;> rfl) (by unfold maxLen; omega) (by omega) ?_; intro v6 w6 ho6 hu6; have HM6 := hide (HMI.out _ w6 v6 _ p HR4.out (by rw [HE1.out]; exact ho6) hu6 HPL.out); clear ho6 hu6)
              | (at_builtin; refine wpList_appendC _ rfl (.tmp 64) (.tmp 66) 97 rfl 101 i0 (.agg zEnt) 10 72 Try.underlying97 hi0 hz0 hz1 hz2 rfl (by decide) (.slice va i vcap) i (flE qs) rfl (HOW.out _ HR4.out _) ⟨y.heap.size + 1, 0, none⟩ 1 1 [.bool false, .int .u32 (nu : Int), .int .i64 (ag : Int), .int .i64 st, .int .i64 c0, .int .i64 c1, .int .i64 z0, .int .i64 z1, .int .i64 z2, .int .i64 z3] rfl rfl (by decide) (fun j u hj => by rw [Addr.add_lit, Nat.zero_add]; exact (rangeTake (by have := Go.heap_alloc_new (y.alloc (.cells #[.bool false, .int .u32 (nu : Int), .int .i64 (ag : Int), .int .i64 st, .int .i64 c0, .int .i64 c1, .int .i64 z0, .int .i64 z1, .int .i64 z2, .int .i64 z3] 101)) (.cells #[.bool false, .int .u32 (nu : Int), .int .i64 (ag : Int), .int .i64 st, .int .i64 c0, .int .i64 c1, .int .i64 z0, .int .i64 z1, .int .i64 z2, .int .i64 z3] 101); rw [World.size_alloc] at this; exact this) rfl) j u hj ▸ (by simp)) (by intro u hu; simp only [List.mem_cons, List.not_mem_nil, or_false] at hu; rcases hu with rfl | rfl | rfl | rfl | rfl | rfl | rfl | rfl | rfl | rfl <;> rfl) (by unfold maxLen; omega) (by omega) ?_; intro v6 w6 ho6 hu6; have HM6 := hide (HMI.out _ w6 v6 _ p HR4.out (by rw [HE1.out]; exact ho6) hu6 HPL.out); clear ho6 hu6))))
        · go_roundw
          case rel => exact ⟨qs ++ [p], by rw [List.length_append, HQL.out]; simp; omega, by rw [List.length_append, HQL.out]; go_num, HM6.out⟩
          case measure => simp [intOf]; omega
        · go_roundw
          case rel => exact ⟨qs ++ [p], by rw [List.length_append, HQL.out]; simp; omega, by rw [List.length_append, HQL.out]; go_num, HM6.out⟩
          case measure => simp [intOf]; omega
        · go_ret2
          exact HFIN.out _ _ (.inr ⟨HNO.out HPL.out, rfl⟩) HR4.out.be
        · go_ret2
          exact HFIN.out _ _ (.inr ⟨HNO.out HPL.out, rfl⟩) HR4.out.be
    · have hqn : i = n := by omega
      have HPL : Hid (Places slots ext bs qs) := hide (HPLS.out _ _ _ HRP.out (by rw [HQL.out]; exact hqn))
      go_wp2_with fail
      go_ret2
      exact HFIN.out _ _ (.inl ⟨qs, _, HPL.out, HRP.out.row, HRP.out.own, rfl⟩) HRP.out.be
end Go.Proofs.Ytlkccencilhacaa
namespace Go.Proofs.Ytlkccencilhacaa
open Go.RowKit Go.Sort
open Num
set_option linter.unusedVariables false
set_option linter.unusedSimpArgs false
set_option maxRecDepth 20000

theorem info_i64 : (Try.prog.info? 3).map (fun i => (i.zero, i.size, i.bytes)) = some (some (.int .i64 0), 1, 8) := by kernel_rfl
/-- the answer under way: the entries, the row of slots -/
structure RpI (w wr : World) (P : List (Option Rc)) (pv : Value) (z : List Int) (ov : Value) : Prop where
  be : Below w.heap.size w wr
  en : ERow wr pv P
  eo : ∀ b, pv.ownBlock = some b → w.heap.size ≤ b
  row : wr.ownsRow 0 3 1 ov z.length (z.map iV)
  ro : ∀ b, ov.ownBlock = some b → w.heap.size ≤ b
theorem RpI.below {w x y : World} {P : List (Option Rc)} {pv : Value} {z : List Int} {ov : Value} (h : RpI w x P pv z ov) (hb : Below x.heap.size x y) : RpI w y P pv z ov := by
  refine ⟨h.be.trans (hb.mono h.be.size), rowKept h.en fun g hg => ?_, h.eo, rowKept h.row fun g hg => ?_, h.ro⟩
  · obtain ⟨cs, hc⟩ := rowCells h.en hg
    exact hb.block _ (Array.getElem?_eq_some_iff.1 hc).1
  · obtain ⟨cs, hc⟩ := rowCells h.row hg
    exact hb.block _ (Array.getElem?_eq_some_iff.1 hc).1
theorem RpI.more {w x w6 : World} {P : List (Option Rc)} {pv : Value} {z : List Int} {ov v6 : Value} {o : Obj} {n : Nat} (h : RpI w x P pv z ov) (hz : z.length = n) (ho : w6.ownsRow 0 3 1 v6 (n + 1) (z.map iV ++ [.int .i64 (-1)])) (hu : UponC (x.alloc o) w6 ov v6) : RpI w w6 P pv (z ++ [-1]) v6 := by
  subst hz
  have hb0 := (Below.refl x.heap.size x).alloc (Nat.le_refl _) o
  have hs := h.be.size
  have hb : Below w.heap.size x w6 := by
    obtain ⟨e1, e2, e3⟩ := hu.same
    refine ⟨e1, e2, e3, Nat.le_trans (by simp) hu.size, fun b hb => ?_⟩
    rw [hu.block b (by simp; omega) (fun e => by have := h.ro b e; omega)]
    exact hb0.block b (by omega)
  refine ⟨h.be.trans hb, rowKept h.en fun g hg => ?_, h.eo, by rw [List.length_append, List.map_append]; exact ho, fun b e => ?_⟩
  · obtain ⟨cs, hc⟩ := rowCells h.en hg
    have hgl := (Array.getElem?_eq_some_iff.1 hc).1
    rw [hu.block g (by simp; omega) (fun e => ?_)]
    · exact hb0.block g hgl
    · obtain ⟨ds, hd⟩ := rowCells h.row e
      exact neType hc hd (by decide) rfl
  · rcases hu.loc b e with h1 | h1
    · exact h.ro b h1
    · rw [h1]; simp; omega
/-- while the records are laid -/
structure LyI (w wr : World) (qs : List Rc) (g2 cap2 go capo slots : Nat) (z : List Int) : Prop where
  be : Below w.heap.size w wr
  rr : ERow wr (.slice (some ⟨g2, 0, none⟩) qs.length cap2) (qs.map some)
  row : wr.ownsRow 0 3 1 (.slice (some ⟨go, 0, none⟩) slots capo) slots (z.map iV)
  lo : w.heap.size ≤ go
  zl : z.length = slots
theorem LyI.set {w wr : World} {qs : List Rc} {g2 cap2 go capo slots : Nat} {z : List Int} (h : LyI w wr qs g2 cap2 go capo slots z) {i : Nat} (hi : i < slots) (x : Int) : LyI w (wr.setCell ⟨go, i, none⟩ (.int .i64 x)) qs g2 cap2 go capo slots (z.set i x) := by
  have hs := h.be.size
  refine ⟨h.be.trans ((Below.refl _ _).setCell (by show w.heap.size ≤ go; exact h.lo) _), rowKept h.rr fun g hg => ?_, ?_, h.lo, by rw [List.length_set]; exact h.zl⟩
  · obtain ⟨cs, hc⟩ := rowCells h.rr hg
    obtain ⟨ds, hd⟩ := rowCells h.row (g := go) rfl
    exact Go.heap_setCell_other _ _ _ _ (fun e => neType hc hd (by decide) e)
  · rw [List.map_set]
    exact row_set h.row hi
theorem LyI.drew {w wr : World} {qs : List Rc} {g2 cap2 go capo slots : Nat} {z : List Int} (h : LyI w wr qs g2 cap2 go capo slots z) : LyI w wr.drew qs g2 cap2 go capo slots z :=
  ⟨h.be.drew, rowKept h.rr fun g hg => rfl, rowKept h.row fun g hg => rfl, h.lo, h.zl⟩
theorem LyI.cell {w wr : World} {qs : List Rc} {g2 cap2 go capo slots : Nat} {z : List Int} (h : LyI w wr qs g2 cap2 go capo slots z) {k : Nat} {q : Rc} (hk : qs[k]? = some q) {c : Nat} (hc : c < 10) : wr.cell? ⟨g2, k * 10 + c, none⟩ = (enC (some q)).toList[c]? := by
  have hr := (by have := h.rr; rw [← List.length_map (f := some)] at this; exact this : ERow wr (.slice (some ⟨g2, 0, none⟩) (qs.map some).length cap2) (qs.map some)).range (i := k) (p := some q) (by rw [List.getElem?_map, hk]; rfl)
  have hl : (enC (some q)).toList[c]? = some ((enC (some q)).toList[c]'(by rw [enC_len]; exact hc)) := List.getElem?_eq_getElem _
  rw [hr c _ hl, hl]
theorem LyI.old {w wr : World} {qs : List Rc} {g2 cap2 go capo slots : Nat} {z : List Int} (h : LyI w wr qs g2 cap2 go capo slots z) {i : Nat} (hi : i < slots) : (∃ v, wr.cell? ⟨go, i, none⟩ = some v) ∧ wr.frozen? ⟨go, i, none⟩ = false := by
  obtain ⟨ds, hd⟩ := rowCells h.row (g := go) rfl
  refine ⟨⟨iV (z.getD i 0), ?_⟩, frozen_of_row _ _ _ _ _ hd⟩
  rw [h.row.cellAt i (by omega)]
  have := h.zl
  simp [List.getD, show i < z.length by omega]
/-- the rows laid, the oldest first -/
theorem rowOf_take (slots : Nat) (qs : List Rc) (k : Nat) (q : Rc) (hk : qs[k]? = some q) : rowOf slots (qs.take (k + 1)).reverse = layR q (rowOf slots (qs.take k).reverse) := by
  have hl : k < qs.length := (List.getElem?_eq_some_iff.1 hk).1
  rw [List.take_succ_eq_append_getElem hl, List.reverse_append]
  have e : qs[k] = q := by rw [List.getElem?_eq_getElem hl] at hk; exact Option.some.inj hk
  rw [e]
  rfl
theorem st_pos {r : Rc} {slots ext : Nat} (h : r.Ok slots ext) : ((r.st.toNat : Nat) : Int) = r.st ∧ r.st.toNat < slots ∧ ((r.c0.toNat : Nat) : Int) = r.c0 ∧ r.c0.toNat < slots := by
  have a := h.s0; have b := h.s1; have c := h.a0; have d := h.a1
  omega
/-- what the document's Replay answers -/
def RplQ (w : World) (slots ext : Nat) (bs : List (List Nat)) (e : Ending) (w' : World) : Prop := ∃ res, RpRes slots ext bs res ∧ Below w.heap.size w w' ∧ match res with
  | none => e = .returned (.tuple #[.slice none 0 0, .int .u32 0, .int .i64 43])
  | some (row, N) => ∃ v, (∀ b, v.ownBlock = some b → w.heap.size ≤ b) ∧ e = .returned (.tuple #[v, .int .u32 ((N : Nat) : Int), .int .i64 0]) ∧ w'.ownsRow 0 3 1 v slots (row.map iV) ∧ row.length = slots
/-- while the newest is looked for -/
structure NbI (P : List (Option Rc)) (i b : Nat) : Prop where
  le : b ≤ i
  al : b = i ↔ ∀ j, j < i → P[j]? = some none
  no : ∀ (j : Nat) (r : Rc), j < i → P[j]? = some (some r) → ¬ EndAt P r.num
theorem NbI.zero (P : List (Option Rc)) : NbI P 0 0 := ⟨Nat.le_refl _, by simp, fun j r hj => by omega⟩
theorem NbI.blank {P : List (Option Rc)} {i b : Nat} (h : NbI P i b) (hp : P[i]? = some none) : NbI P (i + 1) (b + 1) := by
  have hl := h.le
  refine ⟨by omega, ⟨fun e j hj => ?_, fun e => ?_⟩, fun j r hj hr => ?_⟩
  · by_cases ej : j = i
    · subst ej; exact hp
    · exact h.al.1 (by omega) j (by omega)
  · have := h.al.2 fun j hj => e j (by omega)
    omega
  · by_cases ej : j = i
    · subst ej; rw [hp] at hr; cases hr
    · exact h.no j r (by omega) hr
theorem NbI.next {P : List (Option Rc)} {i b : Nat} (h : NbI P i b) {r : Rc} (hp : P[i]? = some (some r)) (hn : ¬ EndAt P r.num) : NbI P (i + 1) b := by
  have hl := h.le
  refine ⟨by omega, ⟨fun e => by omega, fun e => ?_⟩, fun j r' hj hr => ?_⟩
  · have := e i (by omega)
    rw [hp] at this; cases this
  · by_cases ej : j = i
    · subst ej; rw [hp] at hr; cases hr; exact hn
    · exact h.no j r' (by omega) hr
theorem NbI.found {P : List (Option Rc)} {i b : Nat} (h : NbI P i b) {r : Rc} (hp : P[i]? = some (some r)) (hn : EndAt P r.num) : Newest P r := ⟨i, hp, hn, fun j r' hj hr => h.no j r' hj hr⟩
theorem NbI.done {P : List (Option Rc)} {b : Nat} (h : NbI P P.length b) : (b = P.length ↔ ∀ p ∈ P, p = none) ∧ ∀ r, ¬ Newest P r := by
  refine ⟨h.al.trans ⟨fun e p hp => ?_, fun e j hj => ?_⟩, fun r ⟨i, hi, hn, _⟩ => h.no i r (List.getElem?_eq_some_iff.1 hi).1 hi hn⟩
  · obtain ⟨j, hj, rfl⟩ := List.mem_iff_getElem.1 hp
    have := e j hj
    rw [List.getElem?_eq_getElem hj] at this
    exact Option.some.inj this
  · rw [List.getElem?_eq_getElem hj, e _ (List.getElem_mem hj)]
theorem Places.at_ {slots ext : Nat} {bs : List (List Nat)} {P : List (Option Rc)} (h : Places slots ext bs P) {i : Nat} {r : Rc} (hi : P[i]? = some (some r)) : pAt P r.num = some r := by
  have hl : i < P.length := (List.getElem?_eq_some_iff.1 hi).1
  have hp := h.2 i (by rw [← h.1]; exact hl)
  have hg : P.getD i none = some r := by rw [List.getD_eq_getElem?_getD, hi]; rfl
  rw [hg] at hp
  rcases hp.2 with ⟨e, -⟩ | ⟨e, -, -, -, hn⟩
  · cases e
  · have e := Option.some.inj e
    unfold pAt
    rw [e, h.1, hn, hg, e]
end Go.Proofs.Ytlkccencilhacaa
namespace Go.Proofs.Ytlkccencilhacaa
open Go.RowKit Go.Sort
open Num
set_option linter.unusedVariables false
set_option linter.unusedSimpArgs false
set_option maxRecDepth 20000

theorem ERow.some_ {w : World} {v : Value} {P : List (Option Rc)} (h : ERow w v P) (hl : 1 ≤ P.length) : ∃ g cap, v = .slice (some ⟨g, 0, none⟩) P.length cap ∧ g < w.heap.size := by
  rcases h.2 with ⟨e, e2⟩ | ⟨g', cap', cur, e, _, hg, _⟩
  · omega
  · exact ⟨g', cap', e, (Array.getElem?_eq_some_iff.1 hg).1⟩
theorem RpI.some_ {w x : World} {P : List (Option Rc)} {pv : Value} {z : List Int} {ov : Value} (h : RpI w x P pv z ov) (hl : 1 ≤ z.length) : ∃ g cap, ov = .slice (some ⟨g, 0, none⟩) z.length cap ∧ w.heap.size ≤ g := by
  rcases h.row.2 with ⟨e, e2⟩ | ⟨g', cap', cur, e, _, hg, _⟩
  · omega
  · exact ⟨g', cap', e, h.ro g' (by rw [e]; rfl)⟩
theorem RpI.own {w x : World} {P : List (Option Rc)} {pv : Value} {z : List Int} {ov : Value} {n : Nat} (h : RpI w x P pv z ov) (hz : z.length = n) (o : Obj) : (x.alloc o).ownsRow 0 3 1 ov n (z.map iV) := by
  subst hz
  exact (h.below ((Below.refl _ _).alloc (Nat.le_refl _) o)).row
theorem RpI.cells {w x : World} {P : List (Option Rc)} {g cap : Nat} {z : List Int} {ov : Value} (h : RpI w x P (.slice (some ⟨g, 0, none⟩) P.length cap) z ov) {i : Nat} {p : Option Rc} (hi : P[i]? = some p) {f : Bool} {nu : Nat} {R : List Value} (e : (enC p).toList = .bool f :: .int .u32 (nu : Int) :: R) : x.cell? ⟨g, i * 10, none⟩ = some (.bool f) ∧ x.cell? ⟨g, i * 10 + 1, none⟩ = some (.int .u32 (nu : Int)) := by
  have hr := h.en.range hi
  rw [e] at hr
  exact ⟨hr 0 _ rfl, hr 1 _ rfl⟩
theorem RpI.ly {w x y : World} {P : List (Option Rc)} {pv : Value} {go cap slots : Nat} (h : RpI w x P pv (List.replicate slots (-1)) (.slice (some ⟨go, 0, none⟩) slots cap)) (hb : Below x.heap.size x y) {qs : List Rc} {g2 cap2 : Nat} (hr : ERow y (.slice (some ⟨g2, 0, none⟩) qs.length cap2) (qs.map some)) : LyI w y qs g2 cap2 go cap slots (rowOf slots (qs.take 0).reverse) := by
  have h2 := h.below hb
  refine ⟨h2.be, hr, ?_, h.ro go rfl, by simp [rowOf]⟩
  have := h2.row
  rw [List.length_replicate] at this
  simpa [rowOf] using this
theorem wpStill_val {ops : Array Oper} {w : World} {Q : Act → Prop} {a : Act} {o : Oper} {rest : List Oper} (hg : o.guard = none) (v : Value) (h : (execOp a.eval o).run Try.prog w = .ok (.value v) w) (hh : wpStill Try.prog ops w Q rest (a.put o.dst v)) : wpStill Try.prog ops w Q (o :: rest) a := by
  unfold wpStill
  have hw : Region.wanted o (yielded ops a.tmps) = true := by simp [Region.wanted, hg]
  rw [if_pos hw, Oper.still, h, Oper.stillUpon_value]
  exact hh
set_option maxHeartbeats 8000000 in
theorem rreplay_any {w : World} {v : Value} {bs : List (List Nat)} (slots ext : Nat) (hv : RSl w v bs) (h1 : 1 ≤ slots) (h2 : slots ≤ 16) (h3 : 1 ≤ ext) (h4 : ext ≤ 1024) (hln : (bs.length : Int) = ringN (slots : Int)) :
    Calls Try.prog 10 #[.int .i64 (slots : Int), .int .i64 (ext : Int), v] w (RplQ w slots ext bs) := by
  have hn : bs.length = 1 ∨ bs.length = 2 ∨ bs.length = 4 := by
    unfold ringN at hln
    rw [if_neg (by omega)] at hln
    split at hln
    · omega
    · split at hln <;> omega
  have HRG := hide fun x => rring_any x (slots : Int)
  rw [← hln] at HRG
  have HEN := hide (entries_any slots ext hv hn h1 h2 h3 h4)
  have hn4 : bs.length ≤ 4 := by omega
  have hn1 : 1 ≤ bs.length := by omega
  obtain ⟨gr, off, cap, rfl, -, -, -⟩ := hv
  obtain ⟨i0, hi0, hz0, hz1, hz2⟩ := info_parts info_i64
  clear hln hn
  generalize hl : bs.length = n at *
  have HL := hide hl
  clear hl
  go_enter Try.func10, Try.ntmps10
  go_wp2_with (first
    | (go_at_call 42; refine (HRG.out _).mono ?_; rintro e y ⟨rfl, hy⟩; have hy := hy.symm; subst hy)
    | (go_at_call 43; refine HEN.out.mono ?_; rintro e w1 ⟨hor, hb1⟩; have HB1 := hide hb1; clear hb1; rw [HL.out] at hor; rcases hor with ⟨P, pv, hP, hrow, hown, he⟩ | ⟨hbad, rfl⟩; all_goals (first
      | (obtain ⟨g, pcap, rfl, hg⟩ := hrow.some_ (by rw [hP.1, HL.out]; exact hn1); subst he; have HPP := hide hP; have HR0 : Hid (RpI w w1 P (.slice (some ⟨g, 0, none⟩) P.length pcap) (List.replicate 0 (-1)) (.slice none 0 0)) := hide ⟨HB1.out, hrow, hown, World.ownsRow_nil _ _ _ _, fun b e => (by simp [Value.ownBlock] at e)⟩; clear hP hrow hown hg)
      | skip)))
  · clear HRG HEN
    have hPl : 1 ≤ P.length ∧ P.length ≤ 4 := by rw [HPP.out.1, HL.out]; exact ⟨hn1, hn4⟩
    obtain ⟨hp1, hp4⟩ := hPl
    go_loopw [11, 12] (fun ov x wr => ∃ i : Nat, i ≤ slots ∧ x = .int .i64 (i : Int) ∧ RpI w wr P (.slice (some ⟨g, 0, none⟩) P.length pcap) (List.replicate i (-1)) ov) (fun _ x _ => slots - (intOf x).toNat)
    case atStart => exact ⟨0, by omega, rfl, HR0.out⟩
    case round =>
      clear HR0
      obtain ⟨i, hi, rfl, hrp⟩ := hrel
      have HRP := hide hrp
      by_cases hlt : i < slots
      · obtain ⟨oa, ocap, hov, hoc1, hoc2⟩ := rowForm hrp.row
        rw [List.length_replicate] at hov hoc1
        subst hov
        have hil : (i : Int) < (slots : Int) := by omega
        have HMO := hide fun w6 v6 o ho hu => hrp.more (n := i) (w6 := w6) (v6 := v6) (o := o) (by simp) ho hu
        have HOW := hide fun o => hrp.own (n := i) (by simp) o
        clear hrp
        go_wp2_with (at_builtin; refine wpList_appendC _ rfl (.tmp 53) (.tmp 54) 25 rfl 3 i0 (.int .i64 0) 1 8 Try.underlying25 hi0 hz0 hz1 hz2 rfl (by decide) (.slice oa i ocap) i ((List.replicate i (-1)).map iV) rfl (HOW.out _) ⟨wr.heap.size, 0, none⟩ 1 1 [.int .i64 (-1)] rfl rfl (by decide) (fun j u hj => by rw [Addr.add_lit, Nat.zero_add]; exact (rangeTake (Go.heap_alloc_new wr (.cells #[.int .i64 (-1)] 3)) rfl) j u hj ▸ (by simp)) (by intro u hu; simp only [List.mem_cons, List.not_mem_nil, or_false] at hu; rcases hu with rfl <;> rfl) (by unfold maxLen; omega) (by omega) ?_; intro v6 w6 ho6 hu6; have HM6 := hide (HMO.out _ _ _ ho6 hu6); clear ho6 hu6)
        go_roundw
        case rel => exact ⟨i + 1, by omega, by go_num, by rw [List.replicate_succ']; exact HM6.out⟩
        case measure => simp [intOf]; omega
      · have his : i = slots := by omega
        have his' := his.symm
        obtain ⟨go, ocap, hov, hgo⟩ := hrp.some_ (by simp; omega)
        rw [List.length_replicate, his] at hov
        subst hov
        have HRS : Hid (RpI w wr P (.slice (some ⟨g, 0, none⟩) P.length pcap) (List.replicate slots (-1)) (.slice (some ⟨go, 0, none⟩) slots ocap)) := hide (by rw [his] at hrp; exact hrp)
        clear hrp HRP his his'
        have HN0 := hide (NbI.zero P)
        go_wp2_with fail
        go_loopw [13, 14] (fun bl x wr => ∃ (i b : Nat), i ≤ P.length ∧ x = .int .i64 (i : Int) ∧ bl = .int .i64 (b : Int) ∧ NbI P i b ∧ RpI w wr P (.slice (some ⟨g, 0, none⟩) P.length pcap) (List.replicate slots (-1)) (.slice (some ⟨go, 0, none⟩) slots ocap)) (fun _ x _ => P.length - (intOf x).toNat)
        case atStart => exact ⟨0, 0, by omega, rfl, rfl, HN0.out, HRS.out⟩
        case round =>
          clear HN0 HRS
          obtain ⟨i, b, hi, rfl, rfl, hnb, hrp⟩ := hrel
          have HNB := hide hnb
          have hbi := hnb.le
          have HRP := hide hrp
          clear hnb
          by_cases hlt : i < P.length
          · obtain ⟨p, hp⟩ : ∃ p, P[i]? = some p := ⟨_, List.getElem?_eq_getElem hlt⟩
            obtain ⟨f, nu, ag, st, c0, c1, z0, z1, z2, z3, e1, e2, e3⟩ := enC_lit p
            obtain ⟨k0, k1⟩ := hrp.cells hp (f := f) (nu := nu) (R := [.int .i64 (ag : Int), .int .i64 st, .int .i64 c0, .int .i64 c1, .int .i64 z0, .int .i64 z1, .int .i64 z2, .int .i64 z3]) (by rw [e1])
            have hil : (i : Int) < (P.length : Int) := by omega
            clear hrp
            cases f with
            | true =>
              have HNX := hide (HNB.out.blank (by rw [hp, e2.1 rfl]))
              clear e1 e2 e3 hp
              go_wp2_with fail
              go_roundw
              case rel => exact ⟨i + 1, b + 1, by omega, by go_num, by go_num, HNX.out, HRP.out⟩
              case measure => simp [intOf]; omega
            | false =>
              obtain ⟨r, hr⟩ : ∃ r, p = some r := by
                rcases p with - | r
                · have := e2.2 rfl; cases this
                · exact ⟨r, rfl⟩
              subst hr
              have hnu : r.num = nu := (e3 r rfl).1
              have hnl : nu < 4294967296 := by rw [← hnu]; exact (HPP.out.gd h2 i r hp).1.n
              have HNW := hide (newestR_any HRP.out.en hp1 hp4 hnl (by obtain ⟨cs, hc⟩ := rowCells HRP.out.en (g := g) rfl; exact (Array.getElem?_eq_some_iff.1 hc).1))
              have HNX : Hid (¬ EndAt P nu → NbI P (i + 1) b) := hide fun h => HNB.out.next hp (by rw [hnu]; exact h)
              have HFD : Hid (EndAt P nu → Newest P r) := hide fun h => HNB.out.found hp (by rw [hnu]; exact h)
              have HPA : Hid (pAt P nu = some r) := hide (by have := HPP.out.at_ hp; rw [hnu] at this; exact this)
              have HNU := hide hnu
              have HNN : Hid (¬ ∀ p ∈ P, p = none) := hide fun h => by have := h _ (List.mem_of_getElem? hp); cases this
              clear e1 e2 e3 hp hnu
              go_wp2_with (go_at_call 44; refine HNW.out.mono ?_; rintro e w5 ⟨bb, rfl, hbb, hb5⟩; have HBB := hide hbb; have HR5 := hide (HRP.out.below hb5); clear hbb hb5 HNW; cases bb)
              · go_roundw
                case rel => exact ⟨i + 1, b, by omega, by go_num, rfl, HNX.out (fun h => by have := HBB.out.2 h; first | (cases this; done) | exact this.elim), HR5.out⟩
                case measure => simp [intOf]; omega
              · have HNEW := hide (HFD.out (HBB.out.1 (by first | trivial | rfl)))
                have HRU := hide (runR_any HR5.out.en hp1 hp4 hnl (by obtain ⟨cs, hc⟩ := rowCells HR5.out.en (g := g) rfl; exact (Array.getElem?_eq_some_iff.1 hc).1) h1 h2 r HPA.out HNU.out (fun i q hq => (HPP.out.gd h2 i q hq).1))
                clear HBB HNX HFD HRP HNB HPA k0 k1
                go_wp2_with (go_at_call 45; refine HRU.out.mono ?_; rintro e w6 ⟨hor, hb6⟩; have HB6 := hide hb6; clear hb6 HRU; rcases hor with ⟨rs, v2, hrun, he, hrow2, hown2⟩ | ⟨hbad, rfl⟩; all_goals (first
                  | (obtain ⟨qs, hqs⟩ : ∃ qs, rs.reverse = qs := ⟨_, rfl⟩; rw [hqs] at hrow2; obtain ⟨g2, cap2, hv2, hg2⟩ := hrow2.some_ (by rw [List.length_map, ← hqs, List.length_reverse, hrun.len]; omega); rw [List.length_map] at hv2; subst hv2; subst he; have HRUN := hide hrun; have HQS := hide hqs; have HROW2 := hide hrow2; clear hrun hqs hrow2 hown2 hg2)
                  | skip))
                · have HLY := hide (HR5.out.ly HB6.out HROW2.out)
                  have HQK : Hid (∀ (k : Nat) (q : Rc), qs[k]? = some q → q.Ok slots ext) := hide fun k q hk => by
                    have hm : q ∈ rs := by have := List.mem_of_getElem? hk; rw [← HQS.out] at this; exact List.mem_reverse.1 this
                    obtain ⟨j, hj, e⟩ := List.mem_iff_getElem.1 hm
                    exact HRUN.out.ok HNEW.out HPP.out h2 hp1 j q (by rw [List.getElem?_eq_getElem hj, e])
                  have hql4 : qs.length ≤ 4 := by rw [← HQS.out, List.length_reverse, HRUN.out.len]; omega
                  have HFIN : Hid (∀ w9, LyI w w9 qs g2 cap2 go ocap slots (rowOf slots (qs.take qs.length).reverse) → RplQ w slots ext bs (.returned (.tuple #[.slice (some ⟨go, 0, none⟩) slots ocap, .int .u32 (((nu : Int) + 1) % 4294967296), .int .i64 0])) w9) := hide fun w9 h9 => by
                    refine ⟨some (rowOf slots rs, (r.num + 1) % 4294967296), ⟨P, HPP.out, .inr ⟨HNN.out, r, rs, HNEW.out, HRUN.out, rfl, rfl⟩⟩, h9.be, .slice (some ⟨go, 0, none⟩) slots ocap, fun b e => ?_, ?_, ?_, rowOf_len _ _⟩
                    · simp [Value.ownBlock] at e
                      have := h9.lo
                      omega
                    · rw [HNU.out, show (((nu + 1) % 4294967296 : Nat) : Int) = ((nu : Int) + 1) % 4294967296 by omega]
                    · have := h9.row
                      rw [List.take_length, ← HQS.out, List.reverse_reverse] at this
                      exact this
                  clear HROW2 HRUN HNEW HPP HNN HB6 HR5
                  go_loopw [18] (fun x wr => ∃ k : Nat, k ≤ qs.length ∧ x = .int .i64 (k : Int) ∧ LyI w wr qs g2 cap2 go ocap slots (rowOf slots (qs.take k).reverse)) (fun x _ => qs.length - (intOf x).toNat)
                  case atStart => exact ⟨0, by omega, rfl, HLY.out⟩
                  case round =>
                    clear HLY
                    obtain ⟨k, hkq, rfl, hly⟩ := hrel
                    have HL3 := hide hly
                    clear hly
                    by_cases hkl : k < qs.length
                    · have hkI : (k : Int) < (qs.length : Int) := by omega
                      obtain ⟨q, hq⟩ : ∃ q, qs[k]? = some q := ⟨_, List.getElem?_eq_getElem hkl⟩
                      obtain ⟨s1, s2, s3, s4⟩ := st_pos (HQK.out k q hq)
                      have HQ := hide hq
                      have HTK := hide (rowOf_take slots qs k q hq)
                      clear hq
                      obtain ⟨zz, hzz⟩ : ∃ zz, rowOf slots (qs.take k).reverse = zz := ⟨_, rfl⟩
                      rw [hzz] at HL3 HTK
                      clear hzz
                      have HL30 : Hid (LyI w wr qs g2 cap2 go ocap slots (ctxS q.st.toNat q.C 0 zz)) := hide HL3.out
                      have hzl := HL3.out.zl
                      clear HL3
                      have HZL := hide hzl
                      clear hzl
                      obtain ⟨s, hs⟩ : ∃ s, q.st.toNat = s := ⟨_, rfl⟩
                      obtain ⟨cn, hcn⟩ : ∃ cn, q.c0.toNat = cn := ⟨_, rfl⟩
                      rw [hs] at s1 s2 HL30
                      rw [hcn] at s3 s4
                      have HST : Hid (q.st = (s : Int)) := hide s1.symm
                      have HC0 : Hid (q.c0 = (cn : Int)) := hide s3.symm
                      have HLR : Hid (layR q zz = (ctxS s q.C 4 zz).set cn q.c1) := hide (by unfold layR; rw [hs, hcn])
                      clear s1 s3 hs hcn
                      go_wp2_with fail
                      go_loopw [19] (fun x wr => ∃ j : Nat, j ≤ 4 ∧ x = .int .i64 (j : Int) ∧ LyI w wr qs g2 cap2 go ocap slots (ctxS s q.C j zz)) (fun x _ => 4 - (intOf x).toNat)
                      case atStart => exact ⟨0, by omega, rfl, HL30.out⟩
                      case round =>
                        clear HL30
                        obtain ⟨j, hj, rfl, hly⟩ := hrel
                        have HL4 := hide hly
                        clear hly
                        by_cases hj4 : j < 4
                        · have hjI : (j : Int) < 4 := by omega
                          have hrm : (s + j) % slots < slots := Nat.mod_lt _ (by omega)
                          have e30 := HL4.out.drew.cell HQ.out (c := 3) (by omega)
                          have e6j := HL4.out.drew.cell HQ.out (c := 6 + j) (by omega)
                          have x3 : wr.drew.cell? ⟨g2, k * 10 + 3, none⟩ = some (.int .i64 (s : Int)) := by rw [e30, ← HST.out]; rfl
                          have x6 : wr.drew.cell? ⟨g2, k * 10 + 6 + j, none⟩ = some (.int .i64 (q.C.getD j 0)) := by
                            rw [Nat.add_assoc, e6j]
                            rcases (show j = 0 ∨ j = 1 ∨ j = 2 ∨ j = 3 by omega) with rfl | rfl | rfl | rfl <;> rfl
                          obtain ⟨⟨ov, o1⟩, o2⟩ := HL4.out.drew.old hrm
                          have HN : Hid (LyI w (wr.drew.setCell ⟨go, (s + j) % slots, none⟩ (.int .i64 (q.C.getD j 0))) qs g2 cap2 go ocap slots (ctxS s q.C (j + 1) zz)) := hide (by
                            have := HL4.out.drew.set hrm (q.C.getD j 0)
                            simp only [ctxS]
                            rw [HZL.out]
                            exact this)
                          clear e30 e6j HL4
                          generalize q.C.getD j 0 = cj at *
                          obtain ⟨rm, hrme⟩ : ∃ rm, (s + j) % slots = rm := ⟨_, rfl⟩
                          rw [hrme] at hrm o1 o2 HN
                          have HRM := hide hrme
                          clear hrme
                          have hrmI : (rm : Int) < (slots : Int) := by omega
                          have hnz : ¬ (slots : Int) = 0 := by omega
                          have hs0 : (s : Int) < (slots : Int) := by omega
                          have hsl : (slots : Int) ≤ 16 := by omega
                          have hw1 : IntKind.i64.wrap ((s : Int) + (j : Int)) = (s : Int) + (j : Int) := by simp [IntKind.wrap, IntKind.bits, IntKind.signed]; omega
                          have hw2 := wrap_i rm (by omega)
                          go_wp2_with fail
                          refine wp_region_still_tail 17 (by kernel_rfl) (by kernel_rfl) ?_
                          simp only [List.take_succ_cons, List.take_zero, List.drop_succ_cons, List.drop_zero]
                          repeat still_step
                          refine wpStill_val rfl _ (r_rem _ _ _ 104 105 (s + j) slots rfl rfl rfl h1 (by omega)) ?_
                          rw [HRM.out]
                          repeat still_step
                          refine wpStill_nil ?_
                          go_wp2_with fail
                          go_roundw
                          case rel => exact ⟨j + 1, by omega, by go_num, HN.out⟩
                          case measure => simp [intOf]; omega
                        · have hj4e : j = 4 := by omega
                          have HL5 : Hid (LyI w wr qs g2 cap2 go ocap slots (ctxS s q.C 4 zz)) := hide (by have := HL4.out; rw [hj4e] at this; exact this)
                          clear HL4 hj4e
                          have e4 := HL5.out.drew.cell HQ.out (c := 4) (by omega)
                          have e5 := HL5.out.drew.cell HQ.out (c := 5) (by omega)
                          have x4 : wr.drew.cell? ⟨g2, k * 10 + 4, none⟩ = some (.int .i64 (cn : Int)) := by rw [e4, ← HC0.out]; rfl
                          have x5 : wr.drew.cell? ⟨g2, k * 10 + 5, none⟩ = some (.int .i64 q.c1) := by rw [e5]; rfl
                          obtain ⟨⟨ov, o1⟩, o2⟩ := HL5.out.drew.old s4
                          have HN : Hid (LyI w (wr.drew.setCell ⟨go, cn, none⟩ (.int .i64 q.c1)) qs g2 cap2 go ocap slots (rowOf slots (qs.take (k + 1)).reverse)) := hide (by
                            have := HL5.out.drew.set s4 q.c1
                            rw [HTK.out, HLR.out]
                            exact this)
                          clear e4 e5 HL5
                          generalize q.c1 = c1q at *
                          have hcnI : (cn : Int) < (slots : Int) := by omega
                          go_wp2_with fail
                          refine wp_region_still_tail 11 (by kernel_rfl) (by kernel_rfl) ?_
                          simp only [List.take_succ_cons, List.take_zero, List.drop_succ_cons, List.drop_zero]
                          repeat still_step
                          refine wpStill_nil ?_
                          go_wp2_with fail
                          go_roundw
                          case rel => exact ⟨k + 1, by omega, by go_num, HN.out⟩
                          case measure => simp [intOf]; omega
                    · have hke : k = qs.length := by omega
                      have HF := hide (HFIN.out wr (by have := HL3.out; rw [hke] at this; exact this))
                      clear hke HL3
                      go_wp2_with fail
                      go_ret3
                      exact HF.out
                · have HBE := hide (HR5.out.be.trans (HB6.out.mono HR5.out.be.size))
                  have HBAD := hide hbad
                  clear hbad
                  go_ret3
                  exact ⟨none, .inr ⟨P, HPP.out, HNN.out, .inr ⟨r, HNEW.out, HBAD.out⟩⟩, HBE.out, rfl⟩
          · have hiP : i = P.length := by omega
            have HDN := hide (show (b = P.length ↔ ∀ p ∈ P, p = none) ∧ ∀ r, ¬ Newest P r from (by have := HNB.out; rw [hiP] at this; exact this.done))
            have hbP : b ≤ P.length := by omega
            clear hrp hiP
            by_cases hbl : b = P.length
            · have HAL := hide (HDN.out.1.1 hbl)
              have hbI : ((b : Int) == (P.length : Int)) = true := by simp; omega
              clear hbl
              go_wp2_with fail
              go_ret3
              exact ⟨some (List.replicate slots (-1), 0), ⟨P, HPP.out, .inl ⟨HAL.out, rfl, rfl⟩⟩, HRP.out.be, _, HRP.out.ro, rfl, by have := HRP.out.row; rw [List.length_replicate] at this; exact this, by simp⟩
            · have HNL : Hid (¬ ∀ p ∈ P, p = none) := hide fun h => hbl (HDN.out.1.2 h)
              have hbI : ¬ (b : Int) = (P.length : Int) := by omega
              clear hbl
              go_wp2_with fail
              go_ret3
              exact ⟨none, .inr ⟨P, HPP.out, HNL.out, .inl HDN.out.2⟩, HRP.out.be, rfl⟩
  · go_ret3
    exact ⟨none, .inl (by rw [HL.out]; exact hbad), HB1.out, rfl⟩
end Go.Proofs.Ytlkccencilhacaa
