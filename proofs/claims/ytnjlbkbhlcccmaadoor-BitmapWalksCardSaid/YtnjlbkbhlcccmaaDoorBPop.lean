import Derived.Test.YtnjlbkbhlcccmaaDoorBMath
namespace Go.Proofs.YtnjlbkbhlcccmaaDoor
set_option linter.unusedVariables false

/-- a shift and a mask that lets no bit of the next byte in act on the bytes one by one -/
theorem shift_mask (hi lo M m s : Nat) (hlo : lo < 256) (hm : m < 2 ^ (8 - s)) (hs : s ≤ 8) :
    ((hi * 256 + lo) / 2 ^ s) &&& (M * 256 + m) = ((hi / 2 ^ s) &&& M) * 256 + ((lo / 2 ^ s) &&& m) := by
  have hm8 : m < 2 ^ 8 := Nat.lt_of_lt_of_le hm (Nat.pow_le_pow_right (by decide) (by omega))
  have hl : (lo / 2 ^ s) &&& m < 2 ^ 8 := Nat.lt_of_le_of_lt Nat.and_le_right hm8
  have tb : ∀ (a b i : Nat), b < 2 ^ 8 → (a * 256 + b).testBit i = if i < 8 then b.testBit i else a.testBit (i - 8) := fun a b i hb => by
    have := Nat.testBit_two_pow_mul_add a hb i
    rw [Nat.mul_comm a 256]
    exact this
  apply Nat.eq_of_testBit_eq
  intro i
  rw [Nat.testBit_and, Nat.testBit_div_two_pow, tb hi lo _ hlo, tb M m _ hm8, tb _ _ _ hl, Nat.testBit_and, Nat.testBit_and, Nat.testBit_div_two_pow, Nat.testBit_div_two_pow]
  by_cases h : i < 8
  · by_cases h2 : i + s < 8
    · simp [h, h2]
    · have : m.testBit i = false := Nat.testBit_lt_two_pow (Nat.lt_of_lt_of_le hm (Nat.pow_le_pow_right (by decide) (by omega)))
      simp [h, this]
  · have e1 : ¬ i + s < 8 := by omega
    have e2 : i + s - 8 = i - 8 + s := by omega
    simp [h, e1, e2]

def b1 (x : Nat) : Nat := ((x / 2) &&& 85) + (x &&& 85)
def b2 (x : Nat) : Nat := ((x / 4) &&& 51) + (x &&& 51)
def b3 (x : Nat) : Nat := (x / 16 + x) &&& 15
theorem b1_lt : ∀ x, x < 256 → b1 x < 256 ∧ b2 (b1 x) < 256 ∧ b2 (b1 x) / 16 + b2 (b1 x) < 256 ∧ b3 (b2 (b1 x)) ≤ 8 ∧ b3 (b2 (b1 x)) = cnt x.testBit 8 ∧ (b2 (b1 x) / 16 + b2 (b1 x) % 16 < 16) := by decide +kernel

/-- bytes, the lowest first -/
def ofB : List Nat → Nat
  | [] => 0
  | b :: l => ofB l * 256 + b
def rep (m : Nat) : Nat → Nat
  | 0 => 0
  | k + 1 => rep m k * 256 + m
theorem ofB_lt : ∀ l : List Nat, (∀ b ∈ l, b < 256) → ofB l < 256 ^ l.length
  | [], _ => by simp [ofB]
  | b :: l, h => by
    have := ofB_lt l (fun x hx => h x (List.mem_cons_of_mem _ hx))
    have hb := h b List.mem_cons_self
    simp only [ofB, List.length_cons, Nat.pow_succ]
    omega
theorem bytes_and (s m : Nat) (hs : s ≤ 8) (hm : m < 2 ^ (8 - s)) : ∀ l : List Nat, (∀ b ∈ l, b < 256) → (ofB l / 2 ^ s) &&& rep m l.length = ofB (l.map fun b => (b / 2 ^ s) &&& m)
  | [], _ => by simp [ofB, rep]
  | b :: l, h => by
    simp only [ofB, rep, List.length_cons, List.map_cons]
    rw [shift_mask _ _ _ _ s (h b List.mem_cons_self) hm hs, bytes_and s m hs hm l (fun x hx => h x (List.mem_cons_of_mem _ hx))]
theorem ofB_add : ∀ l : List Nat, ∀ f g : Nat → Nat, ofB (l.map f) + ofB (l.map g) = ofB (l.map fun b => f b + g b)
  | [], f, g => rfl
  | b :: l, f, g => by
    simp only [ofB, List.map_cons]
    have := ofB_add l f g
    omega
theorem ofB_mod : ∀ l : List Nat, (∀ b ∈ l, b % 16 ≤ 4) → ofB l % 16 ≤ 4
  | [], _ => by simp [ofB]
  | b :: l, h => by
    have := h b List.mem_cons_self
    simp only [ofB]
    omega
/-- the low nibbles of the sum of two shifts -/
theorem bytes_nib : ∀ l : List Nat, (∀ b ∈ l, b / 16 ≤ 4 ∧ b % 16 ≤ 4) → (ofB l / 16 + ofB l) &&& rep 15 l.length = ofB (l.map b3)
  | [], _ => by simp [ofB, rep]
  | b :: l, h => by
    have hb := h b List.mem_cons_self
    have ih := bytes_nib l (fun x hx => h x (List.mem_cons_of_mem _ hx))
    have hm := ofB_mod l (fun x hx => (h x (List.mem_cons_of_mem _ hx)).2)
    simp only [ofB, rep, List.length_cons, List.map_cons]
    have e : (ofB l * 256 + b) / 16 + (ofB l * 256 + b) = (ofB l / 16 + ofB l) * 256 + (b / 16 + b + ofB l % 16 * 16) := by omega
    have e3 := shift_mask (ofB l / 16 + ofB l) (b / 16 + b + ofB l % 16 * 16) (rep 15 l.length) 15 0 (by omega) (by decide) (by decide)
    simp only [Nat.pow_zero, Nat.div_one] at e3
    rw [e, e3, ih]
    congr 1
    unfold b3
    have a15 : ∀ x : Nat, x &&& 15 = x % 16 := fun x => Nat.and_two_pow_sub_one_eq_mod x 4
    rw [a15, a15]
    omega
theorem b2_nib : ∀ x, x < 256 → b2 (b1 x) / 16 ≤ 4 ∧ b2 (b1 x) % 16 ≤ 4 := by decide +kernel

theorem cnt_bytes : ∀ l : List Nat, (∀ b ∈ l, b < 256) → cnt (ofB l).testBit (8 * l.length) = (l.map fun b => cnt b.testBit 8).sum
  | [], _ => rfl
  | b :: l, h => by
    have hb : b < 2 ^ 8 := h b List.mem_cons_self
    have ih := cnt_bytes l (fun x hx => h x (List.mem_cons_of_mem _ hx))
    simp only [ofB, List.length_cons, List.map_cons, List.sum_cons]
    have tb : ∀ i, (ofB l * 256 + b).testBit i = if i < 8 then b.testBit i else (ofB l).testBit (i - 8) := fun i => by
      rw [Nat.mul_comm]; exact Nat.testBit_two_pow_mul_add (ofB l) hb i
    rw [show 8 * (l.length + 1) = 8 + 8 * l.length by omega, cnt_add, ← ih]
    congr 1
    · exact cnt_congr 8 (fun i hi => by rw [tb]; simp [hi])
    · exact cnt_congr _ (fun i hi => by rw [tb]; have : ¬ 8 + i < 8 := by omega
                                        simp [this])

theorem div_step {c Y d Z : Nat} (hc : c < 256) (h : Y = c + 256 * Z) : Y / 256 = Z := by omega
theorem fold8 (c0 c1 c2 c3 c4 c5 c6 c7 y : Nat) (h0 : c0 ≤ 8) (h1 : c1 ≤ 8) (h2 : c2 ≤ 8) (h3 : c3 ≤ 8) (h4 : c4 ≤ 8) (h5 : c5 ≤ 8) (h6 : c6 ≤ 8) (h7 : c7 ≤ 8)
    (hy : y = ((((((c7 * 256 + c6) * 256 + c5) * 256 + c4) * 256 + c3) * 256 + c2) * 256 + c1) * 256 + c0) :
    y < 4294967296 * 268435456 ∧ ((y + y / 256) + (y + y / 256) / 65536 + ((y + y / 256) + (y + y / 256) / 65536) / 4294967296) % 128 = c0 + c1 + c2 + c3 + c4 + c5 + c6 + c7 := by
  obtain ⟨Y6, e6⟩ : ∃ Y6, Y6 = c6 + 256 * c7 := ⟨_, rfl⟩
  obtain ⟨Y5, e5⟩ : ∃ Y5, Y5 = c5 + 256 * Y6 := ⟨_, rfl⟩
  obtain ⟨Y4, e4⟩ : ∃ Y4, Y4 = c4 + 256 * Y5 := ⟨_, rfl⟩
  obtain ⟨Y3, e3⟩ : ∃ Y3, Y3 = c3 + 256 * Y4 := ⟨_, rfl⟩
  obtain ⟨Y2, e2⟩ : ∃ Y2, Y2 = c2 + 256 * Y3 := ⟨_, rfl⟩
  obtain ⟨Y1, e1⟩ : ∃ Y1, Y1 = c1 + 256 * Y2 := ⟨_, rfl⟩
  have e0 : y = c0 + 256 * Y1 := by rw [hy, e1, e2, e3, e4, e5, e6]; simp only [Nat.mul_comm, Nat.add_comm]
  have b6 : Y6 ≤ 2056 := by omega
  have b5 : Y5 ≤ 526344 := by clear hy e0 e1 e2 e3 e4; omega
  have b4 : Y4 ≤ 134744072 := by clear hy e0 e1 e2 e3 e6; omega
  have b3 : Y3 ≤ 34494482440 := by clear hy e0 e1 e2 e5 e6; omega
  have b2 : Y2 ≤ 8830587504648 := by clear hy e0 e1 e4 e5 e6; omega
  have b1 : Y1 ≤ 2260630401189896 := by clear hy e0 e3 e4 e5 e6; omega
  have b0 : y ≤ 578721382704613384 := by clear hy e2 e3 e4 e5 e6; omega
  clear hy
  have d0 : y / 256 = Y1 := div_step (d := 0) (by omega) e0
  rw [d0]
  have s1 : y + Y1 = (c0 + c1) + 256 * (Y1 + Y2) := by clear e2 e3 e4 e5 e6; omega
  have s2 : Y1 + Y2 = (c1 + c2) + 256 * (Y2 + Y3) := by clear e0 e3 e4 e5 e6 s1; omega
  have s3 : Y2 + Y3 = (c2 + c3) + 256 * (Y3 + Y4) := by clear e0 e1 e4 e5 e6 s1 s2; omega
  have d1 : (y + Y1) / 65536 = Y2 + Y3 := by
    rw [show (65536 : Nat) = 256 * 256 from rfl, ← Nat.div_div_eq_div_mul, div_step (d := 0) (by omega) s1, div_step (d := 0) (by omega) s2]
  rw [d1]
  have t0 : y + Y1 + (Y2 + Y3) = (c0 + c1 + c2 + c3) + 256 * (Y1 + Y2 + Y3 + Y4) := by rw [s1, s3]; omega
  have t1 : Y1 + Y2 + Y3 + Y4 = (c1 + c2 + c3 + c4) + 256 * (Y2 + Y3 + Y4 + Y5) := by clear e0 e5 e6 s1 s2 s3 t0 d0 d1; omega
  have t2 : Y2 + Y3 + Y4 + Y5 = (c2 + c3 + c4 + c5) + 256 * (Y3 + Y4 + Y5 + Y6) := by clear e0 e1 e6 s1 s2 s3 t0 t1 d0 d1; omega
  have t3 : Y3 + Y4 + Y5 + Y6 = (c3 + c4 + c5 + c6) + 256 * (Y4 + Y5 + Y6 + c7) := by clear e0 e1 e2 s1 s2 s3 t0 t1 t2 d0 d1; omega
  have t4 : Y4 + Y5 + Y6 + c7 = (c4 + c5 + c6 + c7) + 256 * (Y5 + Y6 + c7) := by clear e0 e1 e2 e3 s1 s2 s3 t0 t1 t2 t3 d0 d1; omega
  have d2 : (y + Y1 + (Y2 + Y3)) / 4294967296 = Y4 + Y5 + Y6 + c7 := by
    rw [show (4294967296 : Nat) = 256 * 256 * 256 * 256 from rfl, ← Nat.div_div_eq_div_mul, ← Nat.div_div_eq_div_mul, ← Nat.div_div_eq_div_mul, div_step (d := 0) (by omega) t0, div_step (d := 0) (by omega) t1, div_step (d := 0) (by omega) t2, div_step (d := 0) (by omega) t3]
  rw [d2, t0, t4]
  refine ⟨Nat.lt_of_le_of_lt b0 (by decide), ?_⟩
  clear e0 e1 e2 e3 e4 e5 e6 s1 s2 s3 t0 t1 t2 t3 t4 d0 d1 d2 b0 b1 b2 b3 b4 b5 b6
  omega

theorem split8 (x : Nat) (hx : x < 18446744073709551616) : ∃ a0 a1 a2 a3 a4 a5 a6 a7, x = ofB [a0, a1, a2, a3, a4, a5, a6, a7] ∧ ∀ b ∈ [a0, a1, a2, a3, a4, a5, a6, a7], b < 256 := by
  refine ⟨x % 256, x / 256 % 256, x / 65536 % 256, x / 16777216 % 256, x / 4294967296 % 256, x / 1099511627776 % 256, x / 281474976710656 % 256, x / 72057594037927936 % 256, ?_, ?_⟩
  · simp only [ofB]; omega
  · simp only [List.mem_cons, List.not_mem_nil, or_false]
    rintro b (rfl | rfl | rfl | rfl | rfl | rfl | rfl | rfl) <;> omega

/-- what OnesCount64 reckons -/
theorem pop64 (x : Nat) (hx : x < 18446744073709551616) :
    ∃ x1 x2 x3, ((x / 2) &&& 6148914691236517205) + (x &&& 6148914691236517205) = x1 ∧ x1 < 18446744073709551616 ∧ ((x1 / 4) &&& 3689348814741910323) + (x1 &&& 3689348814741910323) = x2 ∧ x2 < 18446744073709551616 ∧
      x2 / 16 + x2 < 18446744073709551616 ∧ ((x2 / 16 + x2) &&& 1085102592571150095) = x3 ∧ x3 < 4294967296 * 268435456 ∧
      ((x3 + x3 / 256) + (x3 + x3 / 256) / 65536 + ((x3 + x3 / 256) + (x3 + x3 / 256) / 65536) / 4294967296) % 128 = cnt x.testBit 64 := by
  obtain ⟨a0, a1, a2, a3, a4, a5, a6, a7, e, hl⟩ := split8 x hx
  generalize hL : [a0, a1, a2, a3, a4, a5, a6, a7] = l at e hl
  have len : l.length = 8 := by rw [← hL]; rfl
  have s1 : ((x / 2) &&& 6148914691236517205) + (x &&& 6148914691236517205) = ofB (l.map b1) := by
    have h1 := bytes_and 1 85 (by decide) (by decide) l hl
    have h2 := bytes_and 0 85 (by decide) (by decide) l hl
    rw [len] at h1 h2
    simp only [Nat.pow_zero, Nat.div_one, Nat.pow_one] at h1 h2
    rw [e]
    have r : rep 85 8 = 6148914691236517205 := by decide
    rw [r] at h1 h2
    rw [h1, h2, ofB_add]
    rfl
  have hl1 : ∀ b ∈ l.map b1, b < 256 := by
    intro b hb
    obtain ⟨c, hc, rfl⟩ := List.mem_map.1 hb
    exact (b1_lt c (hl c hc)).1
  have s2 : ((ofB (l.map b1) / 4) &&& 3689348814741910323) + (ofB (l.map b1) &&& 3689348814741910323) = ofB (l.map fun c => b2 (b1 c)) := by
    have h1 := bytes_and 2 51 (by decide) (by decide) (l.map b1) hl1
    have h2 := bytes_and 0 51 (by decide) (by decide) (l.map b1) hl1
    rw [List.length_map, len] at h1 h2
    simp only [Nat.pow_zero, Nat.div_one, show 2 ^ 2 = 4 from rfl] at h1 h2
    have r : rep 51 8 = 3689348814741910323 := by decide
    rw [r] at h1 h2
    rw [h1, h2, ofB_add, List.map_map]
    rfl
  have hl2 : ∀ b ∈ l.map (fun c => b2 (b1 c)), b < 256 ∧ b / 16 ≤ 4 ∧ b % 16 ≤ 4 := by
    intro b hb
    obtain ⟨c, hc, rfl⟩ := List.mem_map.1 hb
    exact ⟨(b1_lt c (hl c hc)).2.1, b2_nib c (hl c hc)⟩
  have s3 : (ofB (l.map fun c => b2 (b1 c)) / 16 + ofB (l.map fun c => b2 (b1 c))) &&& 1085102592571150095 = ofB (l.map fun c => b3 (b2 (b1 c))) := by
    have h1 := bytes_nib (l.map fun c => b2 (b1 c)) (fun b hb => (hl2 b hb).2)
    rw [List.length_map, len, List.map_map] at h1
    have r : rep 15 8 = 1085102592571150095 := by decide
    rw [r] at h1
    exact h1
  have p8 : (256 : Nat) ^ 8 = 18446744073709551616 := by decide
  have l1 := ofB_lt (l.map b1) hl1
  have l2 := ofB_lt (l.map fun c => b2 (b1 c)) (fun b hb => (hl2 b hb).1)
  rw [List.length_map, len, p8] at l1 l2
  have hc : ∀ c ∈ l, b3 (b2 (b1 c)) ≤ 8 ∧ b3 (b2 (b1 c)) = cnt c.testBit 8 := fun c h => ⟨(b1_lt c (hl c h)).2.2.2.1, (b1_lt c (hl c h)).2.2.2.2.1⟩
  have l3 : ofB (l.map fun c => b2 (b1 c)) / 16 + ofB (l.map fun c => b2 (b1 c)) < 18446744073709551616 := by
    have h7 := hl2 (b2 (b1 a7)) (List.mem_map.2 ⟨a7, by rw [← hL]; simp, rfl⟩)
    have h6 := ofB_lt ([a0, a1, a2, a3, a4, a5, a6].map fun c => b2 (b1 c)) (fun b hb => by
      obtain ⟨c, hc', rfl⟩ := List.mem_map.1 hb
      have hm : c ∈ [a0, a1, a2, a3, a4, a5, a6] ++ [a7] := List.mem_append_left _ hc'
      exact (b1_lt c (hl c (by rw [← hL]; exact hm))).2.1)
    have e7 : ofB (l.map fun c => b2 (b1 c)) = b2 (b1 a7) * 72057594037927936 + ofB ([a0, a1, a2, a3, a4, a5, a6].map fun c => b2 (b1 c)) := by
      rw [← hL]; simp only [List.map_cons, List.map_nil, ofB]; omega
    have p7 : (256 : Nat) ^ 7 = 72057594037927936 := by decide
    simp only [List.length_map, List.length_cons, List.length_nil, Nat.zero_add, Nat.reduceAdd, p7] at h6
    rw [e7]
    omega
  have f8 : ofB (l.map fun c => b3 (b2 (b1 c))) < 4294967296 * 268435456 ∧ ((ofB (l.map fun c => b3 (b2 (b1 c))) + ofB (l.map fun c => b3 (b2 (b1 c))) / 256) + (ofB (l.map fun c => b3 (b2 (b1 c))) + ofB (l.map fun c => b3 (b2 (b1 c))) / 256) / 65536 + ((ofB (l.map fun c => b3 (b2 (b1 c))) + ofB (l.map fun c => b3 (b2 (b1 c))) / 256) + (ofB (l.map fun c => b3 (b2 (b1 c))) + ofB (l.map fun c => b3 (b2 (b1 c))) / 256) / 65536) / 4294967296) % 128 = cnt x.testBit 64 := by
    have cb := cnt_bytes l hl
    rw [len, ← e] at cb
    have m : ∀ c, c ∈ l → b3 (b2 (b1 c)) ≤ 8 := fun c h => (hc c h).1
    have := fold8 (b3 (b2 (b1 a0))) (b3 (b2 (b1 a1))) (b3 (b2 (b1 a2))) (b3 (b2 (b1 a3))) (b3 (b2 (b1 a4))) (b3 (b2 (b1 a5))) (b3 (b2 (b1 a6))) (b3 (b2 (b1 a7))) (ofB (l.map fun c => b3 (b2 (b1 c))))
      (m _ (by rw [← hL]; simp)) (m _ (by rw [← hL]; simp)) (m _ (by rw [← hL]; simp)) (m _ (by rw [← hL]; simp)) (m _ (by rw [← hL]; simp)) (m _ (by rw [← hL]; simp)) (m _ (by rw [← hL]; simp)) (m _ (by rw [← hL]; simp))
      (by rw [← hL]; simp only [List.map_cons, List.map_nil, ofB]; omega)
    refine ⟨this.1, this.2.trans ?_⟩
    rw [show 8 * 8 = 64 from rfl] at cb
    rw [cb, (hc a0 (by rw [← hL]; simp)).2, (hc a1 (by rw [← hL]; simp)).2, (hc a2 (by rw [← hL]; simp)).2, (hc a3 (by rw [← hL]; simp)).2, (hc a4 (by rw [← hL]; simp)).2, (hc a5 (by rw [← hL]; simp)).2, (hc a6 (by rw [← hL]; simp)).2, (hc a7 (by rw [← hL]; simp)).2, ← hL]
    simp only [List.map_cons, List.map_nil, List.sum_cons, List.sum_nil]
    omega
  exact ⟨_, _, _, s1, l1, s2, l2, l3, s3, f8.1, f8.2⟩
end Go.Proofs.YtnjlbkbhlcccmaaDoor
