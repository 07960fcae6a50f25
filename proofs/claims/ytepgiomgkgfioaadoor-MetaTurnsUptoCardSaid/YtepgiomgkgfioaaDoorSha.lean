namespace Go.Proofs.YtepgiomgkgfioaaDoor
namespace Num
/-! SHA-256 over plain numbers. -/
def rot (n x : Nat) : Nat := (x * 2 ^ (32 - n) % 4294967296) ||| (x / 2 ^ n)
def sSig0 (x : Nat) : Nat := rot 7 x ^^^ rot 18 x ^^^ (x / 8)
def sSig1 (x : Nat) : Nat := rot 17 x ^^^ rot 19 x ^^^ (x / 1024)
def bSig0 (x : Nat) : Nat := rot 2 x ^^^ rot 13 x ^^^ rot 22 x
def bSig1 (x : Nat) : Nat := rot 6 x ^^^ rot 11 x ^^^ rot 25 x
def chs (x y z : Nat) : Nat := (x &&& y) ^^^ ((x ^^^ 4294967295) &&& z)
def maj (x y z : Nat) : Nat := (x &&& y) ^^^ (x &&& z) ^^^ (y &&& z)

theorem rot_lt {n x : Nat} (hx : x < 4294967296) : rot n x < 4294967296 := by
  refine Nat.or_lt_two_pow (n := 32) (Nat.mod_lt _ (by decide)) ?_
  exact Nat.lt_of_le_of_lt (Nat.div_le_self _ _) hx
theorem xor_lt {x y : Nat} (hx : x < 4294967296) (hy : y < 4294967296) : x ^^^ y < 4294967296 := Nat.xor_lt_two_pow (n := 32) hx hy
theorem and_lt {x y : Nat} (hx : x < 4294967296) : x &&& y < 4294967296 := Nat.lt_of_le_of_lt Nat.and_le_left hx
theorem sSig0_lt {x : Nat} (hx : x < 4294967296) : sSig0 x < 4294967296 := xor_lt (xor_lt (rot_lt hx) (rot_lt hx)) (by omega)
theorem sSig1_lt {x : Nat} (hx : x < 4294967296) : sSig1 x < 4294967296 := xor_lt (xor_lt (rot_lt hx) (rot_lt hx)) (by omega)
theorem bSig0_lt {x : Nat} (hx : x < 4294967296) : bSig0 x < 4294967296 := xor_lt (xor_lt (rot_lt hx) (rot_lt hx)) (rot_lt hx)
theorem bSig1_lt {x : Nat} (hx : x < 4294967296) : bSig1 x < 4294967296 := xor_lt (xor_lt (rot_lt hx) (rot_lt hx)) (rot_lt hx)
theorem chs_lt {x y z : Nat} (hx : x < 4294967296) : chs x y z < 4294967296 := xor_lt (and_lt hx) (and_lt (xor_lt hx (by decide)))
theorem maj_lt {x y z : Nat} (hx : x < 4294967296) (hy : y < 4294967296) : maj x y z < 4294967296 := xor_lt (xor_lt (and_lt hx) (and_lt hx)) (and_lt hy)

/-- the word of round t, given the words ahead of it and the chunk's bytes -/
def wordAt (c ws : List Nat) (t : Nat) : Nat :=
  if t < 16 then ((c.getD (4 * t) 0 * 16777216 ||| c.getD (4 * t + 1) 0 * 65536) ||| c.getD (4 * t + 2) 0 * 256) ||| c.getD (4 * t + 3) 0
  else (sSig1 (ws.getD (t - 2) 0) + ws.getD (t - 7) 0 + sSig0 (ws.getD (t - 15) 0) + ws.getD (t - 16) 0) % 4294967296
def sched (c : List Nat) : Nat → List Nat
  | 0 => []
  | t + 1 => sched c t ++ [wordAt c (sched c t) t]

structure St where
  a : Nat
  b : Nat
  c : Nat
  d : Nat
  e : Nat
  f : Nat
  g : Nat
  h : Nat

def St.ok (s : St) : Prop := s.a < 4294967296 ∧ s.b < 4294967296 ∧ s.c < 4294967296 ∧ s.d < 4294967296 ∧ s.e < 4294967296 ∧ s.f < 4294967296 ∧ s.g < 4294967296 ∧ s.h < 4294967296
def St.list (s : St) : List Nat := [s.a, s.b, s.c, s.d, s.e, s.f, s.g, s.h]

def tOne (s : St) (k w : Nat) : Nat := (s.h + bSig1 s.e + chs s.e s.f s.g + k + w) % 4294967296
def tTwo (s : St) : Nat := (bSig0 s.a + maj s.a s.b s.c) % 4294967296
def rnd (s : St) (k w : Nat) : St := ⟨(tOne s k w + tTwo s) % 4294967296, s.a, s.b, s.c, (s.d + tOne s k w) % 4294967296, s.e, s.f, s.g⟩
def rounds (ks ws : List Nat) (s : St) : Nat → St
  | 0 => s
  | t + 1 => rnd (rounds ks ws s t) (ks.getD t 0) (ws.getD t 0)
def St.add (s v : St) : St := ⟨(s.a + v.a) % 4294967296, (s.b + v.b) % 4294967296, (s.c + v.c) % 4294967296, (s.d + v.d) % 4294967296, (s.e + v.e) % 4294967296, (s.f + v.f) % 4294967296, (s.g + v.g) % 4294967296, (s.h + v.h) % 4294967296⟩
def mixS (ks : List Nat) (s : St) (c : List Nat) : St := s.add (rounds ks (sched c 64) s 64)

theorem St.add_ok (s v : St) : (s.add v).ok := by
  refine ⟨?_, ?_, ?_, ?_, ?_, ?_, ?_, ?_⟩ <;> exact Nat.mod_lt _ (by decide)
theorem rnd_ok {s : St} (h : s.ok) (k w : Nat) : (rnd s k w).ok := by
  obtain ⟨h1, h2, h3, h4, h5, h6, h7, h8⟩ := h
  exact ⟨Nat.mod_lt _ (by decide), h1, h2, h3, Nat.mod_lt _ (by decide), h5, h6, h7⟩
theorem rounds_ok {ks ws : List Nat} {s : St} (h : s.ok) : ∀ t, (rounds ks ws s t).ok
  | 0 => h
  | t + 1 => rnd_ok (rounds_ok h t) _ _
theorem mixS_ok {ks : List Nat} {s : St} {c : List Nat} : (mixS ks s c).ok := St.add_ok _ _

theorem sched_len (c : List Nat) (t : Nat) : (sched c t).length = t := by
  induction t with
  | zero => rfl
  | succ t ih => simp [sched, ih]
theorem wordAt_lt {c ws : List Nat} (hc : ∀ b ∈ c, b < 256) (t : Nat) : wordAt c ws t < 4294967296 := by
  have hb : ∀ i, c.getD i 0 < 256 := by
    intro i
    by_cases hi : i < c.length
    · have : c.getD i 0 = c[i] := by simp [List.getD, hi]
      rw [this]; exact hc _ (List.getElem_mem hi)
    · have : c.getD i 0 = 0 := by simp [List.getD, List.getElem?_eq_none (Nat.le_of_not_lt hi)]
      omega
  unfold wordAt
  split
  · have h0 := hb (4 * t)
    have h1 := hb (4 * t + 1)
    have h2 := hb (4 * t + 2)
    have h3 := hb (4 * t + 3)
    exact Nat.or_lt_two_pow (n := 32) (Nat.or_lt_two_pow (n := 32) (Nat.or_lt_two_pow (n := 32) (by omega) (by omega)) (by omega)) (by omega)
  · exact Nat.mod_lt _ (by decide)
theorem sched_lt {c : List Nat} (hc : ∀ b ∈ c, b < 256) (t : Nat) : ∀ x ∈ sched c t, x < 4294967296 := by
  induction t with
  | zero => simp [sched]
  | succ t ih =>
    intro x hx
    simp only [sched, List.mem_append, List.mem_singleton] at hx
    rcases hx with hx | rfl
    · exact ih x hx
    · exact wordAt_lt hc t
theorem sched_getD {c : List Nat} : ∀ {n t : Nat}, t < n → (sched c n).getD t 0 = wordAt c (sched c t) t := by
  intro n
  induction n with
  | zero => intro t h; omega
  | succ n ih =>
    intro t h
    have hl := sched_len c n
    by_cases ht : t < n
    · have : (sched c (n + 1)).getD t 0 = (sched c n).getD t 0 := by
        simp only [sched, List.getD]
        rw [List.getElem?_append_left (by omega)]
      rw [this]; exact ih ht
    · have : t = n := by omega
      subst this
      simp only [sched, List.getD]
      rw [List.getElem?_append_right (by omega), hl]
      simp
end Num
end Go.Proofs.YtepgiomgkgfioaaDoor
