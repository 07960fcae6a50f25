import Derived.Test.YtlkccencilhacaaALog9
namespace Go.Proofs.Ytlkccencilhacaa
open Num
set_option linter.unusedVariables false
set_option maxRecDepth 20000

/-- a record's fields -/
structure Rc where
  num : Nat
  age : Nat
  slots : Nat
  c0 : Int
  c1 : Int
  c2 : Int
  st : Int
  C : List Int
/-- the number of some bytes, the highest first -/
def bval (l : List Nat) : Nat := l.foldl (fun n b => n * 256 + b) 0
def bvA (l : List Nat) (i k : Nat) : Nat := bval ((l.drop i).take k)
/-- four bytes as a number with its sign -/
def sgI (n : Nat) : Int := if n < 2147483648 then (n : Int) else (n : Int) - 4294967296
def prs (l : List Nat) : Rc := ⟨bvA l 4 4, bvA l 8 2, bvA l 10 2, sgI (bvA l 12 4), sgI (bvA l 16 4), sgI (bvA l 20 4), sgI (bvA l 24 4), [sgI (bvA l 28 4), sgI (bvA l 32 4), sgI (bvA l 36 4), sgI (bvA l 40 4)]⟩
def Rc.mid (r : Rc) : List Nat := [97, 99, 116, 108] ++ be r.num 4 ++ be r.age 2 ++ be r.slots 2 ++ be (u32N r.c0) 4 ++ be (u32N r.c1) 4 ++ be (u32N r.c2) 4 ++ be (u32N r.st) 4 ++ be (u32N (r.C.getD 0 0)) 4 ++ be (u32N (r.C.getD 1 0)) 4 ++ be (u32N (r.C.getD 2 0)) 4 ++ be (u32N (r.C.getD 3 0)) 4
def Rc.head (r : Rc) (size : Nat) : List Nat := r.mid ++ List.replicate (size - 48) 0
def Rc.bytes (r : Rc) (size : Nat) : List Nat := r.head size ++ be (crcM 0 (r.head size)) 4
theorem bval_be : ∀ (k num : Nat) (a : Nat), (be num k).foldl (fun n b => n * 256 + b) a = a * 256 ^ k + num % 256 ^ k
  | 0, num, a => by simp [be, Nat.mod_one]
  | k + 1, num, a => by
    simp only [be, List.foldl_cons]
    rw [bval_be k num, Nat.pow_succ, Nat.mod_mul, Nat.add_mul, Nat.mul_comm (256 ^ k) 256, Nat.mul_assoc, Nat.mul_comm (256 ^ k) (num / 256 ^ k % 256)]
    omega
theorem bval_be0 (k num : Nat) (h : num < 256 ^ k) : bval (be num k) = num := by
  unfold bval; rw [bval_be, Nat.mod_eq_of_lt h]; simp
theorem bval_lt : ∀ (l : List Nat), (∀ b ∈ l, b < 256) → ∀ a, l.foldl (fun n b => n * 256 + b) a < (a + 1) * 256 ^ l.length
  | [], _, a => by simp
  | b :: l, h, a => by
    have h1 := h b (by simp)
    have h2 := bval_lt l (fun c hc => h c (by simp [hc])) (a * 256 + b)
    simp only [List.foldl_cons, List.length_cons]
    refine Nat.lt_of_lt_of_le h2 ?_
    rw [Nat.pow_succ, Nat.mul_comm (256 ^ l.length) 256, ← Nat.mul_assoc]
    exact Nat.mul_le_mul_right _ (by omega)
theorem be_bval : ∀ (l : List Nat), (∀ b ∈ l, b < 256) → ∀ a, be (l.foldl (fun n b => n * 256 + b) a) l.length = l
  | [], _, a => rfl
  | b :: l, h, a => by
    have h1 := h b (by simp)
    have h2 := be_bval l (fun c hc => h c (by simp [hc])) (a * 256 + b)
    simp only [List.foldl_cons, List.length_cons, be]
    rw [h2]
    congr 1
    have h3 : ∀ (l : List Nat), (∀ b ∈ l, b < 256) → ∀ a, l.foldl (fun n b => n * 256 + b) a / 256 ^ l.length = a := by
      intro l
      induction l with
      | nil => intro _ a; simp
      | cons c l ih =>
        intro hl a
        have hc := hl c (by simp)
        simp only [List.foldl_cons, List.length_cons, Nat.pow_succ]
        rw [← Nat.div_div_eq_div_mul, ih (fun d hd => hl d (by simp [hd]))]
        omega
    rw [h3 l (fun c hc => h c (by simp [hc]))]
    omega
theorem u32N_sgI (n : Nat) (h : n < 4294967296) : u32N (sgI n) = n := by unfold u32N sgI; split <;> omega
theorem sgI_u32N (x : Int) (h1 : -2147483648 ≤ x) (h2 : x < 2147483648) : sgI (u32N x) = x := by unfold u32N sgI; split <;> omega
theorem u32N_nat (n : Nat) (h : n < 4294967296) : u32N (n : Int) = n := by unfold u32N; omega

/-- what a record says, laid into a row -/
def ctxS (st : Nat) (C : List Int) : Nat → List Int → List Int
  | 0, z => z
  | i + 1, z => (ctxS st C i z).set ((st + i) % z.length) (C.getD i 0)
def layR (r : Rc) (z : List Int) : List Int := (ctxS r.st.toNat r.C 4 z).set r.c0.toNat r.c1
theorem ctxS_len (st : Nat) (C : List Int) (z : List Int) : ∀ i, (ctxS st C i z).length = z.length
  | 0 => rfl
  | i + 1 => by simp [ctxS, ctxS_len st C z i]
theorem layR_len (r : Rc) (z : List Int) : (layR r z).length = z.length := by simp [layR, ctxS_len]
/-- a record that a log of so many slots and extents may have written -/
structure Rc.Ok (r : Rc) (slots ext : Nat) : Prop where
  sl : r.slots = slots
  a0 : 0 ≤ r.c0
  a1 : r.c0 < (slots : Int)
  s0 : 0 ≤ r.st
  s1 : r.st < (slots : Int)
  ag : r.age = 65535 ∨ r.st = ((r.age * 4 % slots : Nat) : Int)
  cx : ∀ i, i < 4 → -1 ≤ r.C.getD i 0 ∧ r.C.getD i 0 < (ext : Int)
  e0 : 0 ≤ r.c1
  e1 : r.c1 < (ext : Int)
  o0 : -1 ≤ r.c2
  o1 : r.c2 < (ext : Int)
  ne : r.c2 ≠ r.c1
  ca : ctxL (layR r (List.replicate slots (-1))) r.st.toNat = r.C
def vsz (n : Nat) : Prop := n = 128 ∨ n = 256 ∨ n = 512 ∨ n = 1024
/-- what a place of a ring says -/
def plc (slots ext n len0 i : Nat) (l : List Nat) (p : Option Rc) : Prop :=
  (l.length = len0 ∧ vsz l.length) ∧ ((p = none ∧ ∀ b ∈ l, b = 0) ∨ (p = some (prs l) ∧ (¬ ∀ b ∈ l, b = 0) ∧ (prs l).bytes l.length = l ∧ (prs l).Ok slots ext ∧ (prs l).num % n = i))
theorem plc.uniq {slots ext n len0 i : Nat} {l : List Nat} {p q : Option Rc} (h : plc slots ext n len0 i l p) (k : plc slots ext n len0 i l q) : p = q := by
  rcases h.2 with ⟨rfl, h1⟩ | ⟨rfl, h1, -⟩ <;> rcases k.2 with ⟨rfl, k1⟩ | ⟨rfl, k1, -⟩
  · rfl
  · exact absurd h1 k1
  · exact absurd k1 h1
  · rfl
/-- the number so many ahead -/
def wd (num b : Nat) : Nat := (num + 4294967296 - b) % 4294967296
def pAt (P : List (Option Rc)) (num : Nat) : Option Rc := P.getD (num % P.length) none
def EndAt (P : List (Option Rc)) (num : Nat) : Prop := ∀ b, b < P.length → ∀ r, pAt P (wd num b) = some r → r.num = wd num b ∧ ∀ b', b' < b → pAt P (wd num b') ≠ none
def Newest (P : List (Option Rc)) (r : Rc) : Prop := ∃ i, P[i]? = some (some r) ∧ EndAt P r.num ∧ ∀ (j : Nat) (r' : Rc), j < i → P[j]? = some (some r') → ¬ EndAt P r'.num
def Fol (r b : Rc) : Prop := r.age = min (b.age + 1) 65535 ∧ r.st = (b.st + 4) % (r.slots : Int)
/-- the records of the newest one's run, the newest first -/
structure Run (P : List (Option Rc)) (r : Rc) (rs : List Rc) : Prop where
  len : rs.length = min P.length (r.age + 1)
  pl : ∀ k q, rs[k]? = some q → (k = 0 → q = r) ∧ (0 < k → pAt P (wd r.num k) = some q)
  fo : ∀ k q q', rs[k]? = some q → rs[k + 1]? = some q' → Fol q q'
def RunBad (P : List (Option Rc)) (r : Rc) : Prop := ∃ k, 1 ≤ k ∧ k < P.length ∧ k ≤ r.age ∧ (pAt P (wd r.num k) = none ∨ ∃ q q', (k = 1 ∧ q = r ∨ 1 < k ∧ pAt P (wd r.num (k - 1)) = some q) ∧ pAt P (wd r.num k) = some q' ∧ ¬ Fol q q')
def Places (slots ext : Nat) (bs : List (List Nat)) (P : List (Option Rc)) : Prop := P.length = bs.length ∧ ∀ i, i < bs.length → plc slots ext bs.length (bs.getD 0 []).length i (bs.getD i []) (P.getD i none)
def rowOf (slots : Nat) (rs : List Rc) : List Int := rs.foldr layR (List.replicate slots (-1))
/-- what Replay says of a ring of the right size -/
def RpRes (slots ext : Nat) (bs : List (List Nat)) : Option (List Int × Nat) → Prop
  | none => (∃ i, i < bs.length ∧ ∀ p, ¬ plc slots ext bs.length (bs.getD 0 []).length i (bs.getD i []) p) ∨ ∃ P, Places slots ext bs P ∧ (¬ ∀ p ∈ P, p = none) ∧ ((∀ r, ¬ Newest P r) ∨ ∃ r, Newest P r ∧ RunBad P r)
  | some (row, N) => ∃ P, Places slots ext bs P ∧ (((∀ p ∈ P, p = none) ∧ row = List.replicate slots (-1) ∧ N = 0) ∨ ((¬ ∀ p ∈ P, p = none) ∧ ∃ r rs, Newest P r ∧ Run P r rs ∧ row = rowOf slots rs ∧ N = (r.num + 1) % 4294967296))

theorem bytes_len (r : Rc) (size : Nat) (h : 48 ≤ size) : (r.bytes size).length = size := by simp [Rc.bytes, Rc.head, Rc.mid, be_len]; omega
theorem bytes_lt (r : Rc) (size : Nat) : ∀ b ∈ r.bytes size, b < 256 := by
  intro b hb
  unfold Rc.bytes Rc.head Rc.mid at hb
  simp only [List.mem_append, List.mem_cons, List.not_mem_nil, or_false, List.mem_replicate] at hb
  rcases hb with ((((((((((((hb | hb) | hb) | hb) | hb) | hb) | hb) | hb) | hb) | hb) | hb) | hb) | hb) | hb
  · omega
  all_goals first | exact be_lt _ _ b hb | omega
theorem seg_mid {a m c : List Nat} {i k : Nat} (hi : a.length = i) (hk : m.length = k) : bvA (a ++ (m ++ c)) i k = bval m := by
  subst hi hk
  simp [bvA]
/-- what is written is read back -/
theorem prs_bytes (r : Rc) (size : Nat) (hC : r.C.length = 4) (h1 : r.num < 4294967296) (h2 : r.age < 65536) (h3 : r.slots < 65536) (h4 : ∀ x, x = r.c0 ∨ x = r.c1 ∨ x = r.c2 ∨ x = r.st ∨ x ∈ r.C → -2147483648 ≤ x ∧ x < 2147483648) : prs (r.bytes size) = r := by
  have hw : ∀ x, x = r.c0 ∨ x = r.c1 ∨ x = r.c2 ∨ x = r.st ∨ x ∈ r.C → sgI (bval (be (u32N x) 4)) = x := fun x hx => by
    rw [bval_be0 4 _ (u32N_lt x), sgI_u32N x (h4 x hx).1 (h4 x hx).2]
  match hc : r.C, hC with
  | [z0, z1, z2, z3], _ =>
    unfold prs Rc.bytes Rc.head Rc.mid
    rw [hc]
    simp only [List.getD_cons_zero, List.getD_cons_succ, List.append_assoc]
    have f : ∀ (a m c : List Nat) (i k : Nat) (l : List Nat), l = a ++ (m ++ c) → a.length = i → m.length = k → bvA l i k = bval m := fun a m c i k l e hi hk => by rw [e]; exact seg_mid hi hk
    rw [f [97, 99, 116, 108] (be r.num 4) _ 4 4 _ rfl rfl (be_len _ _)]
    rw [f ([97, 99, 116, 108] ++ be r.num 4) (be r.age 2) _ 8 2 _ (by simp only [List.append_assoc]; rfl) (by simp [be_len]) (be_len _ _)]
    rw [f ([97, 99, 116, 108] ++ be r.num 4 ++ be r.age 2) (be r.slots 2) _ 10 2 _ (by simp only [List.append_assoc]; rfl) (by simp [be_len]) (be_len _ _)]
    rw [f ([97, 99, 116, 108] ++ be r.num 4 ++ be r.age 2 ++ be r.slots 2) (be (u32N r.c0) 4) _ 12 4 _ (by simp only [List.append_assoc]; rfl) (by simp [be_len]) (be_len _ _)]
    rw [f ([97, 99, 116, 108] ++ be r.num 4 ++ be r.age 2 ++ be r.slots 2 ++ be (u32N r.c0) 4) (be (u32N r.c1) 4) _ 16 4 _ (by simp only [List.append_assoc]; rfl) (by simp [be_len]) (be_len _ _)]
    rw [f ([97, 99, 116, 108] ++ be r.num 4 ++ be r.age 2 ++ be r.slots 2 ++ be (u32N r.c0) 4 ++ be (u32N r.c1) 4) (be (u32N r.c2) 4) _ 20 4 _ (by simp only [List.append_assoc]; rfl) (by simp [be_len]) (be_len _ _)]
    rw [f ([97, 99, 116, 108] ++ be r.num 4 ++ be r.age 2 ++ be r.slots 2 ++ be (u32N r.c0) 4 ++ be (u32N r.c1) 4 ++ be (u32N r.c2) 4) (be (u32N r.st) 4) _ 24 4 _ (by simp only [List.append_assoc]; rfl) (by simp [be_len]) (be_len _ _)]
    rw [f ([97, 99, 116, 108] ++ be r.num 4 ++ be r.age 2 ++ be r.slots 2 ++ be (u32N r.c0) 4 ++ be (u32N r.c1) 4 ++ be (u32N r.c2) 4 ++ be (u32N r.st) 4) (be (u32N z0) 4) _ 28 4 _ (by simp only [List.append_assoc]; rfl) (by simp [be_len]) (be_len _ _)]
    rw [f ([97, 99, 116, 108] ++ be r.num 4 ++ be r.age 2 ++ be r.slots 2 ++ be (u32N r.c0) 4 ++ be (u32N r.c1) 4 ++ be (u32N r.c2) 4 ++ be (u32N r.st) 4 ++ be (u32N z0) 4) (be (u32N z1) 4) _ 32 4 _ (by simp only [List.append_assoc]; rfl) (by simp [be_len]) (be_len _ _)]
    rw [f ([97, 99, 116, 108] ++ be r.num 4 ++ be r.age 2 ++ be r.slots 2 ++ be (u32N r.c0) 4 ++ be (u32N r.c1) 4 ++ be (u32N r.c2) 4 ++ be (u32N r.st) 4 ++ be (u32N z0) 4 ++ be (u32N z1) 4) (be (u32N z2) 4) _ 36 4 _ (by simp only [List.append_assoc]; rfl) (by simp [be_len]) (be_len _ _)]
    rw [f ([97, 99, 116, 108] ++ be r.num 4 ++ be r.age 2 ++ be r.slots 2 ++ be (u32N r.c0) 4 ++ be (u32N r.c1) 4 ++ be (u32N r.c2) 4 ++ be (u32N r.st) 4 ++ be (u32N z0) 4 ++ be (u32N z1) 4 ++ be (u32N z2) 4) (be (u32N z3) 4) _ 40 4 _ (by simp only [List.append_assoc]; rfl) (by simp [be_len]) (be_len _ _)]
    rw [bval_be0 4 _ h1, bval_be0 2 _ h2, bval_be0 2 _ h3, hw _ (.inl rfl), hw _ (.inr (.inl rfl)), hw _ (.inr (.inr (.inl rfl))), hw _ (.inr (.inr (.inr (.inl rfl)))), hw z0 (by rw [hc]; simp), hw z1 (by rw [hc]; simp), hw z2 (by rw [hc]; simp), hw z3 (by rw [hc]; simp), ← hc]
theorem ctxL_get (z : List Int) (st i : Nat) (h : i < 4) : (ctxL z st).getD i 0 = z.getD ((st + i) % z.length) 0 := by
  simp [ctxL, List.getD, h]
theorem ctxL_len (z : List Int) (st : Nat) : (ctxL z st).length = 4 := by simp [ctxL]
theorem ctxL_ext (z z' : List Int) (st : Nat) (hl : z.length = z'.length) (h : ∀ i, i < 4 → z.getD ((st + i) % z.length) 0 = z'.getD ((st + i) % z'.length) 0) : ctxL z st = ctxL z' st := by
  unfold ctxL
  refine List.map_congr_left fun i hi => h i (List.mem_range.1 hi)
theorem getDS (z : List Int) (i j : Nat) (x : Int) : (z.set i x).getD j 0 = if i = j ∧ j < z.length then x else z.getD j 0 := by
  simp only [List.getD, List.getElem?_set]
  by_cases e : i = j
  · subst e
    by_cases h : i < z.length
    · simp [h]
    · simp [h]
  · simp [e]
/-- a row after the first i of the context -/
theorem ctxS_get (st : Nat) (z R : List Int) (hz : z.length = R.length) (h1 : 1 ≤ R.length) (s : Nat) : ∀ i, i ≤ 4 → (((ctxS st (ctxL R st) i z).getD s 0 = R.getD s 0 ∧ s < R.length) ∨ ((ctxS st (ctxL R st) i z).getD s 0 = z.getD s 0 ∧ ∀ k, k < i → (st + k) % R.length ≠ s))
  | 0, _ => .inr ⟨rfl, fun k hk => absurd hk (by omega)⟩
  | i + 1, hi => by
    have hm : (st + i) % R.length < R.length := Nat.mod_lt _ (by omega)
    have ih := ctxS_get st z R hz h1 s i (by omega)
    simp only [ctxS]
    rw [getDS, ctxS_len, hz, ctxL_get _ _ _ (by omega)]
    by_cases e : (st + i) % R.length = s ∧ s < R.length
    · rw [if_pos e]
      exact .inl ⟨by rw [e.1], e.2⟩
    · rw [if_neg e]
      rcases ih with ih | ⟨ih, ik⟩
      · exact .inl ih
      · refine .inr ⟨ih, fun k hk => ?_⟩
        by_cases ek : k = i
        · subst ek; intro e2; exact e ⟨e2, by omega⟩
        · exact ik k (by omega)
theorem layR_get {r : Rc} {z R : List Int} {st : Nat} (hz : z.length = R.length) (h1 : 1 ≤ R.length) (hst : r.st = (st : Int)) (hC : r.C = ctxL R st) (hc0 : r.c0.toNat < R.length) (hc1 : R.getD r.c0.toNat 0 = r.c1) (s : Nat) : ((layR r z).getD s 0 = R.getD s 0 ∧ s < R.length) ∨ ((layR r z).getD s 0 = z.getD s 0 ∧ (∀ k, k < 4 → (st + k) % R.length ≠ s) ∧ s ≠ r.c0.toNat) := by
  unfold layR
  rw [getDS, ctxS_len, hz, hst, hC, Int.toNat_natCast]
  by_cases e : r.c0.toNat = s ∧ s < R.length
  · rw [if_pos e]; exact .inl ⟨by rw [← hc1, e.1], e.2⟩
  · rw [if_neg e]
    rcases ctxS_get st z R hz h1 s 4 (by omega) with h | ⟨h, hk⟩
    · exact .inl h
    · exact .inr ⟨h, hk, fun e2 => e ⟨e2.symm, by omega⟩⟩
theorem agrees {r : Rc} {R : List Int} {st slots : Nat} (hR : R.length = slots) (h1 : 1 ≤ slots) (hst : r.st = (st : Int)) (hC : r.C = ctxL R st) (hc0 : r.c0.toNat < slots) (hc1 : R.getD r.c0.toNat 0 = r.c1) : ctxL (layR r (List.replicate slots (-1))) r.st.toNat = r.C := by
  rw [hC, hst, Int.toNat_natCast]
  refine ctxL_ext _ _ _ (by rw [layR_len, List.length_replicate, hR]) fun i hi => ?_
  rw [layR_len, List.length_replicate, hR]
  rcases layR_get (z := List.replicate slots (-1)) (by rw [List.length_replicate, hR]) (by omega) hst hC (by omega) hc1 ((st + i) % slots) with h | ⟨_, h, _⟩
  · exact h.1
  · exact absurd (by rw [hR]) (h i hi)
/-- the ring as the log has written it: W d: the record d ahead of the newest; wr: how many the last run has written; R d: the slots behind that record -/
structure Win (slots ext size n N : Nat) (W : Nat → Option Rc) (wr : Nat) (R : Nat → List Int) (bs : List (List Nat)) : Prop where
  s1 : 1 ≤ slots
  s2 : slots ≤ 16
  s3 : ext ≤ 1024
  sz : vsz size
  n1 : n = 1 ∨ n = 2 ∨ n = 4
  n2 : slots ≤ 4 * n
  nl : N < 4294967296
  len : bs.length = n
  bat : ∀ d, d < n → bs[(N + 4294967295 - d) % n]? = some (match W d with | none => List.replicate size 0 | some r => r.bytes size)
  num : ∀ d r, d < n → W d = some r → r.num = (N + 4294967295 - d) % 4294967296
  rok : ∀ d r, d < n → W d = some r → r.Ok slots ext ∧ r.age ≤ 65535
  pre : ∀ d, d + 1 < n → W d = none → W (d + 1) = none
  w1 : 1 ≤ wr
  run : ∀ d, d < n → d < wr → ∃ r, W d = some r ∧ r.age = min (wr - 1 - d) 65535 ∧ r.st = (((wr - 1 - d) * 4 % slots : Nat) : Int) ∧ r.C = ctxL (R d) ((wr - 1 - d) * 4 % slots) ∧ R d = (R (d + 1)).set r.c0.toNat r.c1
  rl : ∀ d, (R d).length = slots
  r0 : wr ≤ n → R wr = List.replicate slots (-1)
theorem mod_n {n x : Nat} (h : n = 1 ∨ n = 2 ∨ n = 4) : x % 4294967296 % n = x % n := by
  rcases h with rfl | rfl | rfl <;> omega
theorem Rc.Ok.rt {r : Rc} {slots ext size : Nat} (h : r.Ok slots ext) (hs : slots ≤ 16) (he : ext ≤ 1024) (hn : r.num < 4294967296) (ha : r.age ≤ 65535) : prs (r.bytes size) = r := by
  have hC : r.C.length = 4 := by rw [← h.ca, ctxL_len]
  have q := h.a0; have q1 := h.a1; have q2 := h.s0; have q3 := h.s1; have q4 := h.e0; have q5 := h.e1; have q6 := h.o0; have q7 := h.o1; have q8 := h.sl
  refine prs_bytes r size hC hn (by omega) (by omega) fun x hx => ?_
  rcases hx with rfl | rfl | rfl | rfl | hx
  · omega
  · omega
  · omega
  · omega
  · obtain ⟨i, hi, rfl⟩ := List.mem_iff_getElem.1 hx
    have := h.cx i (by omega)
    rw [List.getD_eq_getElem?_getD, List.getElem?_eq_getElem hi] at this
    simp at this
    omega
theorem nz_bytes (r : Rc) (size : Nat) : ¬ ∀ b ∈ r.bytes size, b = 0 := fun h => by
  have := h 97 (by simp [Rc.bytes, Rc.head, Rc.mid])
  omega
theorem vsz.ge {n : Nat} (h : vsz n) : 128 ≤ n ∧ n ≤ 1024 := by unfold vsz at h; omega
/-- the places of the ring -/
theorem Win.places {slots ext size n N : Nat} {W : Nat → Option Rc} {wr : Nat} {R : Nat → List Int} {bs : List (List Nat)} (h : Win slots ext size n N W wr R bs) {P : List (Option Rc)} (hP : Places slots ext bs P) : ∀ d, d < n → P[(N + 4294967295 - d) % n]? = some (W d) := by
  intro d hd
  obtain ⟨h1, h2⟩ := hP
  have hl := h.len
  have hn0 : 0 < n := by omega
  have hm : (N + 4294967295 - d) % n < n := Nat.mod_lt _ hn0
  have hp := h2 ((N + 4294967295 - d) % n) (by omega)
  have hb : bs.getD ((N + 4294967295 - d) % n) [] = (match W d with | none => List.replicate size 0 | some r => r.bytes size) := by rw [List.getD_eq_getElem?_getD, h.bat d hd]; rfl
  rw [hb] at hp
  have hpl : P[(N + 4294967295 - d) % n]? = some (P.getD ((N + 4294967295 - d) % n) none) := by
    rw [List.getD_eq_getElem?_getD, List.getElem?_eq_getElem (by omega)]; simp
  rw [hpl]
  congr 1
  rcases hW : W d with _ | r
  · rw [hW] at hp
    rcases hp.2 with ⟨e, -⟩ | ⟨-, e, -⟩
    · exact e
    · exact absurd (fun b hb => (List.mem_replicate.1 hb).2) e
  · rw [hW] at hp
    rcases hp.2 with ⟨-, e⟩ | ⟨e, -⟩
    · exact absurd e (nz_bytes r size)
    · have hn := h.num d r hd hW
      rw [e, (h.rok d r hd hW).1.rt h.s2 h.s3 (by rw [hn]; omega) (h.rok d r hd hW).2]
theorem Win.isPlaces {slots ext size n N : Nat} {W : Nat → Option Rc} {wr : Nat} {R : Nat → List Int} {bs : List (List Nat)} (h : Win slots ext size n N W wr R bs) : ∀ i, i < bs.length → ∃ p, plc slots ext bs.length (bs.getD 0 []).length i (bs.getD i []) p := by
  intro i hi
  have hl := h.len
  have hsz := h.sz.ge
  have key : ∀ i, i < n → ∃ d, d < n ∧ (N + 4294967295 - d) % n = i := by
    intro i hi
    refine ⟨(N + 4294967295 - i) % n, Nat.mod_lt _ (by omega), ?_⟩
    have hN := h.nl
    rcases h.n1 with rfl | rfl | rfl
    all_goals omega
  have blen : ∀ i, i < n → (bs.getD i []).length = size := by
    intro i hi
    obtain ⟨d, hd, e⟩ := key i hi
    have := h.bat d hd
    rw [e] at this
    rw [List.getD_eq_getElem?_getD, this]
    cases hW : W d with
    | none => simp
    | some r => simpa using bytes_len r size (by omega)
  obtain ⟨d, hd, e⟩ := key i (by omega)
  have hb := h.bat d hd
  rw [e] at hb
  refine ⟨W d, ⟨by rw [blen i (by omega), blen 0 (by omega)], by rw [blen i (by omega)]; exact h.sz⟩, ?_⟩
  rw [List.getD_eq_getElem?_getD, hb]
  cases hW : W d with
  | none => exact .inl ⟨rfl, fun b hb => (List.mem_replicate.1 hb).2⟩
  | some r =>
    have hn := h.num d r hd hW
    have hr := (h.rok d r hd hW).1.rt (size := size) h.s2 h.s3 (by rw [hn]; omega) (h.rok d r hd hW).2
    refine .inr ⟨?_, nz_bytes r size, ?_, ?_, ?_⟩
    · show some r = some (prs (r.bytes size))
      rw [hr]
    · show (prs (r.bytes size)).bytes (r.bytes size).length = r.bytes size
      rw [hr, bytes_len r size (by omega)]
    · show (prs (r.bytes size)).Ok slots ext
      rw [hr]; exact (h.rok d r hd hW).1
    · show (prs (r.bytes size)).num % bs.length = i
      rw [hr, hn, hl, mod_n h.n1, e]
theorem pAt_of {P : List (Option Rc)} {n x : Nat} (hl : P.length = n) : pAt P x = P.getD (x % n) none := by unfold pAt; rw [hl]
theorem Win.ofAt {slots ext size n N : Nat} {W : Nat → Option Rc} {wr : Nat} {R : Nat → List Int} {bs : List (List Nat)} (h : Win slots ext size n N W wr R bs) {P : List (Option Rc)} (hP : Places slots ext bs P) {x d : Nat} (hd : d < n) (hx : x % n = (N + 4294967295 - d) % n) : pAt P x = W d := by
  rw [pAt_of (hP.1.trans h.len), hx, List.getD_eq_getElem?_getD, h.places hP d hd]
  rfl
theorem Win.filled {slots ext size n N : Nat} {W : Nat → Option Rc} {wr : Nat} {R : Nat → List Int} {bs : List (List Nat)} (h : Win slots ext size n N W wr R bs) : ∀ d d', d ≤ d' → d' < n → W d = none → W d' = none := by
  intro d d' hdd hd' hW
  induction d' with
  | zero => have e : d = 0 := by omega
            subst e; exact hW
  | succ k ih =>
    by_cases e : d = k + 1
    · subst e; exact hW
    · exact h.pre k hd' (ih (by omega) (by omega))
theorem Win.zero {slots ext size n N : Nat} {W : Nat → Option Rc} {wr : Nat} {R : Nat → List Int} {bs : List (List Nat)} (h : Win slots ext size n N W wr R bs) : ∃ r, W 0 = some r ∧ r.age = min (wr - 1) 65535 ∧ r.num = (N + 4294967295) % 4294967296 := by
  have hn := h.n1
  have hw := h.w1
  obtain ⟨r, hr, ha, -⟩ := h.run 0 (by omega) (by omega)
  exact ⟨r, hr, by simpa using ha, by simpa using h.num 0 r (by omega) hr⟩
theorem Win.newest {slots ext size n N : Nat} {W : Nat → Option Rc} {wr : Nat} {R : Nat → List Int} {bs : List (List Nat)} (h : Win slots ext size n N W wr R bs) {P : List (Option Rc)} (hP : Places slots ext bs P) {r : Rc} (hr : W 0 = some r) : EndAt P r.num ∧ ∀ (i : Nat) (r' : Rc), P[i]? = some (some r') → EndAt P r'.num → r' = r := by
  have hn := h.n1
  have hN := h.nl
  have hl : P.length = n := hP.1.trans h.len
  have hnum := h.num 0 r (by omega) hr
  constructor
  · intro b hb q hq
    rw [hl] at hb
    have e1 : wd r.num b = (N + 4294967295 - b) % 4294967296 := by unfold wd; omega
    rw [h.ofAt hP (d := b) hb (by rw [e1, mod_n hn])] at hq
    refine ⟨by rw [h.num b q hb hq, e1], fun b' hb' => ?_⟩
    have e2 : wd r.num b' = (N + 4294967295 - b') % 4294967296 := by unfold wd; omega
    rw [h.ofAt hP (d := b') (by omega) (by rw [e2, mod_n hn])]
    intro hW
    rw [h.filled b' b (by omega) hb hW] at hq
    simp at hq
  · intro i r' hi he
    have hil : i < n := by rw [← hl]; exact (List.getElem?_eq_some_iff.1 hi).1
    obtain ⟨d, hd, hdi⟩ : ∃ d, d < n ∧ (N + 4294967295 - d) % n = i := by
      refine ⟨(N + 4294967295 - i) % n, Nat.mod_lt _ (by omega), ?_⟩
      rcases hn with rfl | rfl | rfl
      all_goals omega
    have hW : W d = some r' := by
      have := h.places hP d hd
      rw [hdi, hi] at this
      exact (Option.some.inj this).symm
    by_cases e : d = 0
    · subst e; rw [hr] at hW; exact (Option.some.inj hW).symm
    · exfalso
      have hn' := h.num d r' hd hW
      have e3 : wd r'.num (n - d) = (N + 4294967295 - n) % 4294967296 := by unfold wd; omega
      have hq : pAt P (wd r'.num (n - d)) = some r := by
        rw [h.ofAt hP (d := 0) (by omega) (by rw [e3, mod_n hn]; rcases hn with rfl | rfl | rfl <;> omega), hr]
      have := (he (n - d) (by omega) r hq).1
      rw [e3, hnum] at this
      omega
/-- the rows as they are laid, from the oldest -/
theorem Win.rows {slots ext size n N : Nat} {W : Nat → Option Rc} {wr : Nat} {R : Nat → List Int} {bs : List (List Nat)} (h : Win slots ext size n N W wr R bs) {K : Nat} (hK : K ≤ n) (hKw : K ≤ wr) : ∀ (m : Nat) (rs : List Rc), m ≤ K → rs.length = m → (∀ k q, rs[k]? = some q → W (K - m + k) = some q) → ∀ s, s < slots → ((rowOf slots rs).getD s 0 = (R (K - m)).getD s 0 ∨ ((rowOf slots rs).getD s 0 = -1 ∧ (R (K - m)).getD s 0 = (R K).getD s 0 ∧ ∀ d, K - m ≤ d → d < K → ∀ i, i < 4 → ((wr - 1 - d) * 4 % slots + i) % slots ≠ s)) := by
  intro m
  induction m with
  | zero =>
    intro rs _ hl _ s hs
    rw [List.length_eq_zero_iff] at hl
    subst hl
    exact .inr ⟨by simp [rowOf, List.getD, hs], by simp, fun d h1 h2 => by omega⟩
  | succ m ih =>
    intro rs hm hl hW s hs
    match rs, hl with
    | r :: rs, hl =>
      have hl' : rs.length = m := by simpa using hl
      have hsub : K - (m + 1) + 1 = K - m := by omega
      have ihs := ih rs (by omega) hl' (fun k q hk => by
        have := hW (k + 1) q (by simpa using hk)
        rwa [show K - (m + 1) + (k + 1) = K - m + k by omega] at this) s hs
      have hr0 := hW 0 r (by simp)
      rw [Nat.add_zero] at hr0
      obtain ⟨r2, q1, q2, q3, q4, q5⟩ := h.run (K - (m + 1)) (by omega) (by omega)
      rw [hr0] at q1
      cases Option.some.inj q1
      have hok := (h.rok _ r (by omega) hr0).1
      have hRl := h.rl (K - (m + 1))
      have hc0 : r.c0.toNat < slots := by have := hok.a0; have := hok.a1; omega
      have hc1 : (R (K - (m + 1))).getD r.c0.toNat 0 = r.c1 := by
        rw [q5, getDS, if_pos ⟨rfl, by rw [h.rl]; exact hc0⟩]
      have hs1 := h.s1
      have hrl2 : (rowOf slots rs).length = slots := by
        clear ih ihs hW hl hl'
        induction rs with
        | nil => simp [rowOf]
        | cons a l il => unfold rowOf at il ⊢; rw [List.foldr_cons, layR_len]; exact il
      have hg := layR_get (z := rowOf slots rs) (by rw [hrl2, hRl]) (by omega) q3 q4 (by rw [hRl]; exact hc0) hc1 s
      show (layR r (rowOf slots rs)).getD s 0 = _ ∨ (layR r (rowOf slots rs)).getD s 0 = -1 ∧ _
      rw [hsub] at q5
      have hset : s ≠ r.c0.toNat → (R (K - (m + 1))).getD s 0 = (R (K - m)).getD s 0 := fun e => by
        rw [q5, getDS, if_neg (fun e2 => e e2.1.symm)]
      rcases hg with hg | ⟨hg1, hg2, hg3⟩
      · exact .inl hg.1
      · rcases ihs with ihs | ⟨i1, i2, i3⟩
        · exact .inl (by rw [hg1, ihs, hset hg3])
        · refine .inr ⟨by rw [hg1, i1], by rw [hset hg3, i2], fun d hd1 hd2 i hi => ?_⟩
          by_cases ed : d = K - (m + 1)
          · subst ed
            have := hg2 i hi
            rwa [hRl] at this
          · exact i3 d (by omega) hd2 i hi
theorem cover {slots n wr s : Nat} (h1 : 1 ≤ slots) (h2 : slots ≤ 4 * n) (h3 : n ≤ wr) (hs : s < slots) (hn : 1 ≤ n) : ∃ d i, d < n ∧ i < 4 ∧ ((wr - 1 - d) * 4 % slots + i) % slots = s := by
  -- the 4 n numbers from (wr - n) * 4 on
  obtain ⟨t, ht1, ht2⟩ : ∃ t, t < slots ∧ ((wr - n) * 4 + t) % slots = s := by
    refine ⟨(s + (slots - (wr - n) * 4 % slots)) % slots, Nat.mod_lt _ (by omega), ?_⟩
    have hm : (wr - n) * 4 % slots < slots := Nat.mod_lt _ (by omega)
    rw [Nat.add_mod, Nat.mod_mod]
    generalize (wr - n) * 4 % slots = a at *
    by_cases e : s + (slots - a) < slots
    · rw [Nat.mod_eq_of_lt e, show a + (s + (slots - a)) = s + slots by omega, Nat.add_mod_right, Nat.mod_eq_of_lt hs]
    · have e2 : (s + (slots - a)) % slots = s - a := by rw [show s + (slots - a) = (s - a) + slots by omega, Nat.add_mod_right, Nat.mod_eq_of_lt (by omega)]
      rw [e2, show a + (s - a) = s by omega, Nat.mod_eq_of_lt hs]
  refine ⟨n - 1 - t / 4, t % 4, by omega, by omega, ?_⟩
  have e : (wr - 1 - (n - 1 - t / 4)) * 4 = (wr - n) * 4 + t / 4 * 4 := by omega
  rw [e, Nat.mod_add_mod, show (wr - n) * 4 + t / 4 * 4 + t % 4 = (wr - n) * 4 + t by omega, ht2]
theorem Win.fol {slots ext size n N : Nat} {W : Nat → Option Rc} {wr : Nat} {R : Nat → List Int} {bs : List (List Nat)} (h : Win slots ext size n N W wr R bs) {d : Nat} {q q' : Rc} (h1 : d + 1 < n) (h2 : d + 1 < wr) (hq : W d = some q) (hq' : W (d + 1) = some q') : Fol q q' := by
  obtain ⟨r, a1, a2, a3, -⟩ := h.run d (by omega) (by omega)
  obtain ⟨r', b1, b2, b3, -⟩ := h.run (d + 1) h1 h2
  rw [hq] at a1
  rw [hq'] at b1
  cases Option.some.inj a1
  cases Option.some.inj b1
  have hok := (h.rok d q (by omega) hq).1.sl
  obtain ⟨y, hy⟩ : ∃ y, wr - 1 - (d + 1) = y := ⟨_, rfl⟩
  have hy2 : wr - 1 - d = y + 1 := by omega
  refine ⟨by rw [a2, b2, hy, hy2]; clear a2 b2 a3 b3 hy hy2; omega, ?_⟩
  rw [a3, b3, hok]
  have e : wr - 1 - d = wr - 1 - (d + 1) + 1 := by omega
  rw [e, Nat.add_mul, Nat.one_mul]
  generalize (wr - 1 - (d + 1)) * 4 = x
  have hs := h.s1
  rw [Int.natCast_emod, Int.natCast_emod, Int.emod_add_emod]
  simp
/-- what Replay says of a ring that the log has written -/
theorem Win.replay {slots ext size n N : Nat} {W : Nat → Option Rc} {wr : Nat} {R : Nat → List Int} {bs : List (List Nat)} (h : Win slots ext size n N W wr R bs) {res : Option (List Int × Nat)} (hr : RpRes slots ext bs res) : res = some (R 0, N) := by
  obtain ⟨r0, hr0, ha0, hn0⟩ := h.zero
  have hn := h.n1
  have hN := h.nl
  have hlen := h.len
  have hn1 : 1 ≤ n := by omega
  have hat : ∀ {P}, Places slots ext bs P → ∀ k, k < n → pAt P (wd r0.num k) = W k := fun {P} hP k hk => h.ofAt hP hk (by
    have e1 : wd r0.num k = (N + 4294967295 - k) % 4294967296 := by unfold wd; omega
    rw [e1, mod_n hn])
  have hnone : ∀ {P}, Places slots ext bs P → ¬ ∀ p ∈ P, p = none := fun {P} hP hall => by
    have := h.places hP 0 (by omega)
    rw [hr0] at this
    have := hall _ (List.mem_of_getElem? this)
    simp at this
  cases res with
  | none =>
    exfalso
    rcases hr with ⟨i, hi, hp⟩ | ⟨P, hP, -, hb⟩
    · obtain ⟨p, hp'⟩ := h.isPlaces i hi
      exact hp p hp'
    · obtain ⟨hE, hU⟩ := h.newest hP hr0
      rcases hb with hb | ⟨r, ⟨i, hi, hEr, -⟩, k, hk1, hk2, hk3, hbad⟩
      · -- the first one that ends
        have hex : ∃ i : Nat, ∃ r : Rc, P[i]? = some (some r) ∧ EndAt P r.num := ⟨_, r0, by rw [h.places hP 0 (by omega), hr0], hE⟩
        have : ∃ i : Nat, (∃ r : Rc, P[i]? = some (some r) ∧ EndAt P r.num) ∧ ∀ j, j < i → ¬ ∃ r : Rc, P[j]? = some (some r) ∧ EndAt P r.num := by
          obtain ⟨i, hi⟩ := hex
          induction i using Nat.strongRecOn with
          | ind i ih =>
            by_cases hj : ∃ j, j < i ∧ ∃ r : Rc, P[j]? = some (some r) ∧ EndAt P r.num
            · obtain ⟨j, hj1, hj2⟩ := hj
              exact ih j hj1 hj2
            · exact ⟨i, hi, fun j hj1 hj2 => hj ⟨j, hj1, hj2⟩⟩
        obtain ⟨i, ⟨r, hi1, hi2⟩, hi3⟩ := this
        exact hb r ⟨i, hi1, hi2, fun j r' hj1 hj2 hj3 => hi3 j hj1 ⟨r', hj2, hj3⟩⟩
      · have e := hU i r hi hEr
        subst e
        rw [hP.1, hlen] at hk2
        have hkw : k < wr := by omega
        rcases hbad with hbad | ⟨q, q', hq, hq', hnf⟩
        · rw [hat hP k hk2] at hbad
          obtain ⟨r', hr', -⟩ := h.run k hk2 hkw
          rw [hr'] at hbad
          simp at hbad
        · rw [hat hP k hk2] at hq'
          obtain ⟨d, rfl⟩ : ∃ d, k = d + 1 := ⟨k - 1, by omega⟩
          have hqd : W d = some q := by
            rcases hq with ⟨e1, e2⟩ | ⟨e1, e2⟩
            · have : d = 0 := by omega
              subst this; rw [e2]; exact hr0
            · rw [Nat.add_sub_cancel, hat hP d (by omega)] at e2; exact e2
          exact hnf (h.fol hk2 hkw hqd hq')
  | some res =>
    obtain ⟨row, M⟩ := res
    obtain ⟨P, hP, hc⟩ := hr
    rcases hc with ⟨hall, -⟩ | ⟨-, r, rs, ⟨i, hi, hEr, -⟩, hrun, hrow, hM⟩
    · exact absurd hall (hnone hP)
    · obtain ⟨hE, hU⟩ := h.newest hP hr0
      have e := hU i r hi hEr
      subst e
      have hPl : P.length = n := hP.1.trans hlen
      have hK : rs.length = min n wr := by rw [hrun.len, hPl, ha0]; have := h.w1; omega
      have hW : ∀ k q, rs[k]? = some q → W k = some q := fun k q hk => by
        have hkl : k < rs.length := (List.getElem?_eq_some_iff.1 hk).1
        obtain ⟨p1, p2⟩ := hrun.pl k q hk
        by_cases e : k = 0
        · subst e; rw [p1 rfl]; exact hr0
        · rw [← hat hP k (by omega)]; exact p2 (by omega)
      have hrows := h.rows (K := min n wr) (by omega) (by omega) (min n wr) rs (Nat.le_refl _) hK (fun k q hk => by rw [Nat.sub_self, Nat.zero_add]; exact hW k q hk)
      congr 1
      refine Prod.ext ?_ (by show M = N; rw [hM, hn0]; omega)
      show row = R 0
      have hl : row.length = slots := by
        rw [hrow]
        clear hrow hrows hW hK hrun
        induction rs with
        | nil => simp [rowOf]
        | cons a l il => unfold rowOf at il ⊢; rw [List.foldr_cons, layR_len]; exact il
      refine List.ext_getElem? fun s => ?_
      by_cases hs : s < slots
      · have hgoal : row.getD s 0 = (R 0).getD s 0 := by
          rcases hrows s hs with g | ⟨g1, g2, g3⟩
          · rw [hrow, g, Nat.sub_self]
          · rw [Nat.sub_self] at g2 g3
            by_cases hw : wr ≤ n
            · rw [hrow, g1, g2, show min n wr = wr by omega, h.r0 hw]
              simp [List.getD, hs]
            · exfalso
              obtain ⟨d, i, hd, hi4, e⟩ := cover h.s1 h.n2 (show n ≤ wr by omega) hs hn1
              exact g3 d (by omega) (by omega) i hi4 e
        rw [List.getElem?_eq_getElem (by omega), List.getElem?_eq_getElem (by rw [h.rl]; exact hs)]
        simp only [List.getD, List.getElem?_eq_getElem (show s < row.length by omega), List.getElem?_eq_getElem (show s < (R 0).length by rw [h.rl]; exact hs)] at hgoal
        simpa using hgoal
      · rw [List.getElem?_eq_none (by omega), List.getElem?_eq_none (by rw [h.rl]; omega)]
end Go.Proofs.Ytlkccencilhacaa
