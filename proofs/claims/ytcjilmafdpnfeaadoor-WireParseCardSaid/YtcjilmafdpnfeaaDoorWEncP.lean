import Derived.Test.YtcjilmafdpnfeaaDoorWAf2
namespace Go.Proofs.YtcjilmafdpnfeaaDoor
open Go.RowKit
set_option linter.unusedVariables false
set_option linter.unusedSimpArgs false
set_option maxRecDepth 20000

theorem Own.lone {w : World} (x : Nat) (hx : x < 256) : Own (w.alloc (.cells #[.int .u8 (x : Int)] 5)) w.heap.size (.slice (some ⟨w.heap.size, 0, none⟩) 1 1) [x] :=
  ⟨World.ownsRow_lit w #[.int .u8 (x : Int)] 1 (Nat.le_refl _) (by unfold maxLen; omega) rfl, by simpa using hx⟩
theorem fit_dat {p : PV} {lo hi : Nat} {t : Bool} (h : fitF p (.dat lo hi t) = true) (hh : hi < 65536) : p.dl.length < 65536 := by
  have h : meets (dmayL lo hi t p.e) p.dl.length p.dl.length = true := h
  unfold meets dmayL at h
  split at h <;> simp only [List.any_cons, List.any_nil, Bool.or_false, Bool.and_eq_true, decide_eq_true_eq] at h <;> omega
theorem encF_len {p : PV} {f : Fd} (hs : p.s.length = 32) (ho : f.Ok) (h : fitF p f = true) : (encF p f).length ≤ 70000 := by
  cases f with
  | num n => simp [encF, be_len]
  | ids => simp [encF, be_len]
  | sum t => simp [encF, hs]
  | dat lo hi t => have := fit_dat h ho.2; simp [encF, be_len]; omega
def encT (p : PV) (fs : List Fd) (k : Nat) : List Nat := (fs.take k).flatMap (encF p)
theorem encT_succ {p : PV} {fs : List Fd} {k : Nat} {f : Fd} (hk : fs[k]? = some f) : encT p fs (k + 1) = encT p fs k ++ encF p f := by
  unfold encT
  rw [List.take_add_one, hk]
  simp
theorem encT_len {p : PV} {fs : List Fd} (hs : p.s.length = 32) (ho : ∀ f ∈ fs, f.Ok) (h : fitAll p fs = true) (k : Nat) : (encT p fs k).length ≤ 70000 * k := by
  induction k with
  | zero => simp [encT]
  | succ k ih =>
    cases hk : fs[k]? with
    | none =>
      have : encT p fs (k + 1) = encT p fs k := by unfold encT; rw [List.take_add_one, hk]; simp
      rw [this]; omega
    | some f =>
      have hm := List.mem_of_getElem? hk
      have hf : fitF p f = true := by
        unfold fitAll at h
        rw [Bool.and_eq_true, List.all_eq_true] at h
        exact h.1 f hm
      have := encF_len hs (ho f hm) hf
      rw [encT_succ hk, List.length_append]; omega
theorem fit_of {p : PV} {fs : List Fd} {k : Nat} {f : Fd} (h : fitAll p fs = true) (hk : fs[k]? = some f) : fitF p f = true := by
  unfold fitAll at h
  rw [Bool.and_eq_true, List.all_eq_true] at h
  exact h.1 f (List.mem_of_getElem? hk)

theorem FL.below {w x : World} {v : Value} {vs : List Value} (h : FL w v vs) (hb : Below w.heap.size w x) : FL x v vs := by
  rcases h with h | ⟨b, h1, h2⟩
  · exact .inl h
  · exact .inr ⟨b, h1, (hb.block b (Array.getElem?_eq_some_iff.1 h2).1).trans h2⟩
theorem perr_yes {c : Nat} {p : PV} (h1 : 1 ≤ c) (h2 : c ≤ 25) (h : fitAll p (fdL c) = true) : perr c p = 0 ∧ pbytes c p = c :: encAll p (fdL c) := by
  have e : perr c p = 0 := by unfold perr; rw [if_neg (by omega), Int.toNat_natCast, h]; rfl
  refine ⟨e, ?_⟩
  unfold pbytes
  rw [if_pos e, Int.toNat_natCast]
theorem perr_no {c : Nat} {p : PV} (h1 : 1 ≤ c) (h2 : c ≤ 25) (h : fitAll p (fdL c) = false) : perr c p = 75 ∧ pbytes c p = [] := by
  have e : perr c p = 75 := by unfold perr; rw [if_neg (by omega), Int.toNat_natCast, h]; rfl
  refine ⟨e, ?_⟩
  unfold pbytes
  rw [if_neg (by omega)]
theorem fdL_ne (c : Nat) (h1 : 1 ≤ c) (h2 : c ≤ 25) : fdL c ≠ [] := by
  rcases (show c = 1 ∨ c = 2 ∨ c = 3 ∨ c = 4 ∨ c = 5 ∨ c = 6 ∨ c = 7 ∨ c = 8 ∨ c = 9 ∨ c = 10 ∨ c = 11 ∨ c = 12 ∨ c = 13 ∨ c = 14 ∨ c = 15 ∨ c = 16 ∨ c = 17 ∨ c = 18 ∨ c = 19 ∨ c = 20 ∨ c = 21 ∨ c = 22 ∨ c = 23 ∨ c = 24 ∨ c = 25 by omega) with rfl | rfl | rfl | rfl | rfl | rfl | rfl | rfl | rfl | rfl | rfl | rfl | rfl | rfl | rfl | rfl | rfl | rfl | rfl | rfl | rfl | rfl | rfl | rfl | rfl <;> simp [fdL]
theorem own_nil (w : World) (base : Nat) : Own w base (.slice none 0 0) [] := ⟨World.ownsRow_nil _ _ _ _, by simp⟩
/-- behind carried and partsOf -/
structure EM (w x : World) (c : Nat) (p : PV) (v fv : Value) (pb : Nat) : Prop where
  fl : FL x fv (fldL c)
  pm : PM x pb p v
  bel : Below w.heap.size w x
def EncPost (w : World) (c : Int) (p : PV) (e : Ending) (w' : World) : Prop := ∃ v', e = .returned (.tuple #[v', .int .i64 (perr c p : Nat)]) ∧ Own w' w.heap.size v' (pbytes c p) ∧ Below w.heap.size w w'

end Go.Proofs.YtcjilmafdpnfeaaDoor
