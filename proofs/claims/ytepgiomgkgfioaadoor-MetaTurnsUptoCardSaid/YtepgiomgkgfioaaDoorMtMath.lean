import Derived.Test.YtepgiomgkgfioaaDoorMtUns2
namespace Go.Proofs.YtepgiomgkgfioaaDoor
open Go.RowKit Go.Lib
set_option linter.unusedVariables false
set_option linter.unusedSimpArgs false
set_option maxRecDepth 20000

theorem bval_bW' (x n : Nat) (hx : x < 2 ^ (8 * n)) : ∀ k, k ≤ n → bval (bW x n k) = x / 2 ^ (8 * (n - k))
  | 0, _ => by
    rw [bW_zero, Nat.sub_zero, Nat.div_eq_of_lt hx]
    rfl
  | k + 1, hk => by
    rw [bW_succ, bval_snoc, bval_bW' x n hx k (by omega)]
    have e : 8 * (n - k) = 8 * (n - 1 - k) + 8 := by omega
    rw [e, Nat.pow_add, ← Nat.div_div_eq_div_mul, show n - (k + 1) = n - 1 - k by omega]
    generalize x / 2 ^ (8 * (n - 1 - k)) = y
    omega
theorem bval_bW {x n : Nat} (hx : x < 2 ^ (8 * n)) : bval (bW x n n) = x := by
  rw [bval_bW' x n hx n (Nat.le_refl _)]
  simp
theorem bval_inj : ∀ (n : Nat) (l k : List Nat), l.length = n → k.length = n → (∀ x ∈ l, x < 256) → (∀ x ∈ k, x < 256) → bval l = bval k → l = k
  | 0, l, k, h1, h2, _, _, _ => by rw [List.length_eq_zero_iff.1 h1, List.length_eq_zero_iff.1 h2]
  | n + 1, l, k, h1, h2, b1, b2, e => by
    obtain ⟨p, x, rfl⟩ : ∃ m b, l = m ++ [b] := ⟨l.dropLast, l.getLast (by intro e; subst e; cases h1), (List.dropLast_concat_getLast _).symm⟩
    obtain ⟨q, y, rfl⟩ : ∃ m b, k = m ++ [b] := ⟨k.dropLast, k.getLast (by intro e; subst e; cases h2), (List.dropLast_concat_getLast _).symm⟩
    rw [bval_snoc, bval_snoc] at e
    have hx := b1 x (by simp)
    have hy := b2 y (by simp)
    have e1 : bval p = bval q := by omega
    have e2 : x = y := by omega
    rw [bval_inj n p q (by simpa using h1) (by simpa using h2) (fun z hz => b1 z (by simp [hz])) (fun z hz => b2 z (by simp [hz])) e1, e2]
theorem bW_bval {l : List Nat} {n : Nat} (h : l.length = n) (hb : ∀ x ∈ l, x < 256) : bW (bval l) n n = l := by
  have hlt := bval_lt n l h hb
  rw [show (256 : Nat) = 2 ^ 8 by decide, ← Nat.pow_mul] at hlt
  exact bval_inj n _ _ (bW_len _ _ _) h (bW_lt _ _ _) hb (bval_bW hlt)
theorem take_app {a b : List Nat} {n : Nat} (h : a.length = n) : (a ++ b).take n = a := by subst h; simp
theorem drop_app {a b : List Nat} {n : Nat} (h : a.length = n) : (a ++ b).drop n = b := by subst h; simp
theorem drop_plus {l r : List Nat} {a b c : Nat} (h : l.drop a = r) (hc : c = a + b) : l.drop c = r.drop b := by rw [hc, ← List.drop_drop, h]
/-- the fields behind the letters -/
def Sup.tail (s : Sup) : List Nat := bW s.seq 8 8 ++ (bW s.blocks.toNat 4 4 ++ (bW s.size.toNat 4 4 ++ (bW s.slots.toNat 4 4 ++ (bW s.mark.toNat 4 4 ++ (bW s.g0 8 8 ++ (bW s.g1 8 8 ++ (bW s.g2 8 8 ++ (bW s.g3 8 8 ++ bW s.flags 4 4))))))))
theorem Sup.tail_len (s : Sup) : s.tail.length = 60 := by simp [Sup.tail, bW_len]
theorem Sup.fld_eq (s : Sup) : s.fld = lets ++ s.tail := by
  simp [Sup.fld, Sup.tail, cat, Sup.ints, Sup.gens]
theorem Sup.tail_lt (s : Sup) : ∀ x ∈ s.tail, x < 256 := by
  intro x hx
  simp only [Sup.tail, List.mem_append] at hx
  rcases hx with h | h | h | h | h | h | h | h | h | h <;> exact bW_lt _ _ _ x h
theorem lets_lt : ∀ x ∈ lets, x < 256 := by decide
theorem Sup.head_lt (s : Sup) : ∀ x ∈ s.head, x < 256 := by
  intro x hx
  rw [Sup.head, Sup.fld_eq] at hx
  simp only [List.mem_append] at hx
  rcases hx with (h | h) | h
  · exact lets_lt x h
  · exact s.tail_lt x h
  · simp at h; omega
/-- what is read of fields and what follows them -/
theorem decF_app {r : List Nat} {q b z k m g0 g1 g2 g3 f : Nat} (hq : q < 2 ^ (8 * 8)) (hb : b < 2 ^ (8 * 4)) (hz : z < 2 ^ (8 * 4)) (hk : k < 2 ^ (8 * 4)) (hm : m < 2 ^ (8 * 4)) (h0 : g0 < 2 ^ (8 * 8)) (h1 : g1 < 2 ^ (8 * 8)) (h2 : g2 < 2 ^ (8 * 8)) (h3 : g3 < 2 ^ (8 * 8)) (hf : f < 2 ^ (8 * 4)) :
    decF ((⟨q, b, z, k, g0, g1, g2, g3, f, m⟩ : Sup).tail ++ r) = ⟨q, b, z, k, g0, g1, g2, g3, f, m⟩ := by
  unfold Sup.tail
  simp only [Int.toNat_natCast, List.append_assoc]
  have d0 : ∀ x : List Nat, x.drop 0 = x := fun x => rfl
  generalize hl : bW q 8 8 ++ (bW b 4 4 ++ (bW z 4 4 ++ (bW k 4 4 ++ (bW m 4 4 ++ (bW g0 8 8 ++ (bW g1 8 8 ++ (bW g2 8 8 ++ (bW g3 8 8 ++ (bW f 4 4 ++ r))))))))) = l
  have t0 : l.take 8 = bW q 8 8 := by rw [← hl]; exact take_app (bW_len _ _ _)
  have e1 := (congrArg (List.drop 8) hl.symm).trans (drop_app (bW_len _ _ _))
  have e2 := (drop_plus (b := 4) (c := 12) e1 rfl).trans (drop_app (bW_len _ _ _))
  have e3 := (drop_plus (b := 4) (c := 16) e2 rfl).trans (drop_app (bW_len _ _ _))
  have e4 := (drop_plus (b := 4) (c := 20) e3 rfl).trans (drop_app (bW_len _ _ _))
  have e5 := (drop_plus (b := 4) (c := 24) e4 rfl).trans (drop_app (bW_len _ _ _))
  have e6 := (drop_plus (b := 8) (c := 32) e5 rfl).trans (drop_app (bW_len _ _ _))
  have e7 := (drop_plus (b := 8) (c := 40) e6 rfl).trans (drop_app (bW_len _ _ _))
  have e8 := (drop_plus (b := 8) (c := 48) e7 rfl).trans (drop_app (bW_len _ _ _))
  have e9 := (drop_plus (b := 8) (c := 56) e8 rfl).trans (drop_app (bW_len _ _ _))
  unfold decF
  rw [t0, e1, e2, e3, e4, e5, e6, e7, e8, e9, take_app (bW_len _ _ _), take_app (bW_len _ _ _), take_app (bW_len _ _ _), take_app (bW_len _ _ _), take_app (bW_len _ _ _), take_app (bW_len _ _ _), take_app (bW_len _ _ _), take_app (bW_len _ _ _), take_app (bW_len _ _ _)]
  rw [bval_bW hq, bval_bW hb, bval_bW hz, bval_bW hk, bval_bW hm, bval_bW h0, bval_bW h1, bval_bW h2, bval_bW h3, bval_bW hf]
structure Sup.Ok (s : Sup) : Prop where
  ok : s.ok = true
  wf : s.Wf
theorem Sup.Ok.nat {s : Sup} (h : s.Ok) : ∃ q b z k g0 g1 g2 g3 f m : Nat, s = ⟨q, b, z, k, g0, g1, g2, g3, f, m⟩ ∧ okSz (z : Int) = true ∧ q < 2 ^ (8 * 8) ∧ b < 2 ^ (8 * 4) ∧ z < 2 ^ (8 * 4) ∧ k < 2 ^ (8 * 4) ∧ m < 2 ^ (8 * 4) ∧ g0 < 2 ^ (8 * 8) ∧ g1 < 2 ^ (8 * 8) ∧ g2 < 2 ^ (8 * 8) ∧ g3 < 2 ^ (8 * 8) ∧ f < 2 ^ (8 * 4) := by
  obtain ⟨ho, hq, hg0, hg1, hg2, hg3, hf, -⟩ := h
  simp only [Sup.ok, Bool.and_eq_true, decide_eq_true_eq] at ho
  obtain ⟨⟨⟨⟨⟨ho1, ho2⟩, ho3⟩, ho4⟩, ho5⟩, ho6⟩ := ho
  have hz := okSz_pos ho3
  obtain ⟨q, b, z, k, g0, g1, g2, g3, f, m⟩ := s
  dsimp only at *
  refine ⟨q, b.toNat, z.toNat, k.toNat, g0, g1, g2, g3, f, m.toNat, ?_, ?_, ?_, ?_, ?_, ?_, ?_, ?_, ?_, ?_, ?_, ?_⟩
  · rw [Int.toNat_of_nonneg (by omega), Int.toNat_of_nonneg (by omega), Int.toNat_of_nonneg (by omega), Int.toNat_of_nonneg (by omega)]
  · rw [Int.toNat_of_nonneg (by omega)]; exact ho3
  all_goals omega
theorem Sup.head_len {s : Sup} (h : s.Ok) : s.head.length = s.size.toNat - 32 := by
  obtain ⟨q, b, z, k, g0, g1, g2, g3, f, m, rfl, hz, -⟩ := h.nat
  have := okSz_pos hz
  rw [Sup.head, List.length_append, Sup.fld_len]
  simp
  omega
theorem Sup.enc_len {s : Sup} (h : s.Ok) : s.enc.length = s.size.toNat := by
  have hh := Sup.head_len h
  obtain ⟨q, b, z, k, g0, g1, g2, g3, f, m, rfl, hz, -⟩ := h.nat
  have := okSz_pos hz
  rw [Sup.enc, List.length_append, hh, shaL_len]
  simp
  omega
/-- what is sealed is read back -/
theorem uns_enc {s : Sup} (h : s.Ok) : uns s.enc = (s, 0) := by
  have hl := Sup.enc_len h
  have hh := Sup.head_len h
  have hok := h.ok
  obtain ⟨q, b, z, k, g0, g1, g2, g3, f, m, hs, hz, b1, b2, b3, b4, b5, b6, b7, b8, b9, b10⟩ := h.nat
  have hzz := okSz_pos hz
  have hsz : s.size = (z : Int) := by rw [hs]
  have hsn : s.size.toNat = z := by rw [hsz]; simp
  rw [hsn] at hl hh
  have hT : s.enc.take (z - 32) = s.head := take_app hh
  have hD : s.enc.drop (z - 32) = shaL s.head := drop_app hh
  have hH : s.head = lets ++ (s.tail ++ List.replicate (z - 100) 0) := by rw [Sup.head, Sup.fld_eq, hsn, List.append_assoc]
  have hB : body s.enc (z - 32) = s := by
    rw [body, hT, hH, drop_app (by rfl)]
    conv => lhs; rw [hs]
    rw [decF_app b1 b2 b3 b4 b5 b6 b7 b8 b9 b10, ← hs]
  have h8 : s.enc.take 8 = lets := by rw [Sup.enc, hH, List.append_assoc]; exact take_app rfl
  have h68 : s.head.drop 68 = List.replicate (z - 100) 0 := drop_app (Sup.fld_len s) |>.trans (by rw [hsn])
  have hC : chk s.enc (z - 32) = 0 := by
    rw [chk, if_neg (by simpa using h8), hT, hD, if_neg (by simp), hB, if_neg (by rw [hok]; decide), if_neg (by rw [hsz]; omega), h68, if_neg (by simp)]
  rw [uns, hl, if_pos hz, if_pos hC, hB]
end Go.Proofs.YtepgiomgkgfioaaDoor
