import Derived.Test.YtlpmpicmpklaoaaDBarM
namespace Go.Proofs.Ytlpmpicmpklaoaa
open Go.RowKit Go.Maps
set_option linter.unusedVariables false
set_option linter.unusedSimpArgs false
set_option maxRecDepth 20000

/-- the writes of the list to one block, in their order -/
def mineL (ps : List PutV) (nb k : Nat) : List PutV := ps.filter fun p => decide (p.at_ nb = k)
theorem mineL_snoc (ps : List PutV) (nb k : Nat) {n : Nat} (h : n < ps.length) : mineL (ps.take (n + 1)) nb k = if ps[n].at_ nb = k then mineL (ps.take n) nb k ++ [ps[n]] else mineL (ps.take n) nb k := by
  rw [List.take_succ_eq_append_getElem h]
  unfold mineL
  rw [List.filter_append, List.filter_cons]
  by_cases e : ps[n].at_ nb = k
  · simp [e]
  · simp [e]
theorem mineL_len (ps : List PutV) (nb k : Nat) : (mineL ps nb k).length ≤ ps.length := List.length_filter_le _ _

/-- a disk behind writes into its cache -/
structure CK (F S : St) (ps : List PutV) : Prop where
  calm : S.calm
  nb : S.nb = F.nb
  sz : S.sz = F.sz
  med : S.med = F.med
  cache : ∀ k, S.cache k = (mineL ps F.nb k).map (·.bs F.sz)

theorem CK.start {F S : St} (hc : F.calm) (hd : F.dry) (h : F.like S) : CK F S [] := by
  obtain ⟨h1, h2, h3, h4, h5, h6⟩ := h
  exact ⟨⟨h5.trans hc.1, h6.trans hc.2⟩, h1, h2, h3, fun k => by rw [h4, hd k]; rfl⟩

theorem CK.wrote {F S : St} {ps : List PutV} {n : Nat} (h : CK F S (ps.take n)) (hn : n < ps.length) (h1 : 1 ≤ F.nb) :
    CK F (S.write (ps[n].at_ F.nb : Nat) (ps[n].bs F.sz)) (ps.take (n + 1)) ∧ (S.write (ps[n].at_ F.nb : Nat) (ps[n].bs F.sz)).val (ps[n].at_ F.nb) = some (ps[n].bs F.sz) := by
  have hk : ps[n].at_ F.nb < S.nb := by rw [h.nb]; exact ps[n].at_lt h1
  have hl : (ps[n].bs F.sz).length = S.sz := by rw [bs_len, h.sz]
  rw [calm_write h.calm hk hl]
  refine ⟨⟨h.calm, h.nb, h.sz, h.med, fun k => ?_⟩, ?_⟩
  · show updF S.cache _ _ k = _
    rw [mineL_snoc ps F.nb k hn]
    by_cases e : ps[n].at_ F.nb = k
    · rw [if_pos e, ← e, updF_same, h.cache]; simp
    · rw [if_neg e, updF_other _ _ (fun e' => e e'.symm), h.cache]
  · rw [val_eq]
    show (updF S.cache _ _ _).getLast?.or _ = _
    rw [updF_same]; simp
theorem CK.like {F S T : St} {ps : List PutV} (h : CK F S ps) (k : S.like T) : CK F T ps := by
  obtain ⟨h1, h2, h3, h4, h5, h6⟩ := k
  exact ⟨⟨h5.trans h.calm.1, h6.trans h.calm.2⟩, h1.trans h.nb, h2.trans h.sz, h3.trans h.med, fun j => by rw [h4]; exact h.cache j⟩

/-- what is read behind the crash -/
theorem CK.crash {F S : St} {ps : List PutV} (h : CK F S ps) (hc : F.calm) (hd : F.dry) (p : List Nat) (k : Nat) (hk : k < F.nb) :
    (keptN p k (mineL ps F.nb k).length = 0 → (S.crash p).rdE k = F.rdE k ∧ (S.crash p).rdV k = F.rdV k) ∧
    (∀ j (hj : j < (mineL ps F.nb k).length), keptN p k (mineL ps F.nb k).length = j + 1 → (S.crash p).rdE k = 0 ∧ (S.crash p).rdV k = some ((mineL ps F.nb k)[j].bs F.sz)) := by
  have hlen : (S.cache k).length = (mineL ps F.nb k).length := by rw [h.cache]; simp
  have hv : (S.crash p).val k = if 0 < keptN p k (mineL ps F.nb k).length then some ((S.cache k).getD (keptN p k (mineL ps F.nb k).length - 1) []) else F.med k := by
    rw [val_eq, ← hlen, ← h.med]
    rfl
  have hf : F.val k = F.med k := by rw [val_eq, hd k]; rfl
  have hoff : F.off = false := hc.1
  have hn : (S.crash p).nb = F.nb := h.nb
  constructor
  · intro e
    rw [e] at hv
    have hv' : (S.crash p).val k = F.med k := by rw [hv]; simp
    constructor
    · unfold St.rdE St.readErr
      rw [Int.toNat_natCast, hv', hf, hn, hoff]
      rfl
    · unfold St.rdV
      rw [hv', hf, hoff]
      rfl
  · intro j hj e
    rw [e] at hv
    have hg : (S.cache k).getD j [] = (mineL ps F.nb k)[j].bs F.sz := by
      rw [h.cache]; simp [List.getD, hj]
    have hv' : (S.crash p).val k = some ((mineL ps F.nb k)[j].bs F.sz) := by rw [hv, if_pos (by omega), Nat.add_sub_cancel, hg]
    constructor
    · unfold St.rdE St.readErr
      rw [Int.toNat_natCast, hv', hn]
      rw [if_neg (by omega), if_neg (by simp [St.crash]), if_neg (by simp)]
    · unfold St.rdV
      rw [hv']
      rfl

theorem left_any {w : World} {v : Value} {p : List Nat} (hv : BSl w v p) (k n : Nat) (hk : k < 8192) (hn : n < 9223372036854775807) :
    Calls Try.prog 26 #[v, .int .i64 (k : Int), .int .i64 (n : Int)] w fun e w' => e = .returned (.int .i64 (keptN p k n : Int)) ∧ w' = w := by
  obtain ⟨a, cap, rfl, hl, hm, hn', hb, hcell⟩ := hv
  unfold maxLen at hm
  by_cases h0 : p.length = 0
  · have e1 : keptN p k n = 0 := by simp [keptN, h0]
    rw [e1, h0]
    clear hcell hb
    go_enter Try.func26, Try.ntmps26
    go_wp2
    go_ret
    exact ⟨rfl, rfl⟩
  · obtain ⟨g, off, rfl, hc⟩ := hcell (by omega)
    have e1 : keptN p k n = p.getD (k % p.length) 0 % (n + 1) := by simp [keptN, h0]
    have hkm : k % p.length < p.length := Nat.mod_lt _ (by omega)
    have hck := hc _ hkm
    have hx : p.getD (k % p.length) 0 < 256 := hb _ (mem_getD hkm)
    have t1 := tmod_nat k p.length
    have t2 := tmod_nat (p.getD (k % p.length) 0) (n + 1)
    rw [e1]
    clear hc hcell hb hn' e1
    generalize hj : k % p.length = j at *
    clear hj
    generalize p.getD j 0 = x at *
    have hN0 : ¬ (p.length : Int) = 0 := by omega
    generalize p.length = N at *
    have t2' : Int.tmod (x : Int) ((n : Int) + 1) = ((x % (n + 1) : Nat) : Int) := by rw [← t2]; rfl
    clear t2
    generalize x % (n + 1) = y at *
    go_enter Try.func26, Try.ntmps26
    go_wp2
    go_ret
    exact ⟨rfl, rfl⟩
end Go.Proofs.Ytlpmpicmpklaoaa
