import Derived.Test.YtlpmpicmpklaoabDAgain
namespace Go.Proofs.Ytlpmpicmpklaoab
open Go.RowKit Go.Maps
set_option linter.unusedVariables false
set_option linter.unusedSimpArgs false
set_option maxRecDepth 20000

/-- a writing step -/
structure RunV where
  kind : Int
  put : PutV
  len : Int
/-- the blocks of a run of zeroes -/
def RunV.zs (r : RunV) (nb : Nat) : Nat := min r.len.toNat (nb - r.put.at_ nb)
def RunV.steps (r : RunV) (nb : Nat) : Nat := if r.kind = 1 then r.zs nb else 1
def St.runSt (S : St) (r : RunV) (most : Nat) : St :=
  if r.kind = 1 then (S.zero (r.put.at_ S.nb : Int) (min (r.zs S.nb) most : Nat)).1
  else if most = 0 then S
  else if r.kind = 2 then S.flush
  else S.put1 r.put
def St.runErr (S : St) (r : RunV) (most : Nat) : Int :=
  if r.kind = 1 then (S.zero (r.put.at_ S.nb : Int) (min (r.zs S.nb) most : Nat)).2.1
  else if most = 0 then 0
  else if r.kind = 2 then (if S.stepOk then 0 else 22)
  else S.putErr (r.put.at_ S.nb : Int) S.sz

theorem step_on {S : St} {n : Nat} (h : S.off = false) (hf : S.fuse = ((n + 1 : Nat) : Int)) : S.stepOk = true ∧ S.step = { S with fuse := (n : Int) } := by
  have h0 : ¬ S.fuse = 0 := by omega
  have h1 : 0 < S.fuse := by omega
  refine ⟨by simp [St.stepOk, h, h0], ?_⟩
  rw [St.step, if_neg h0, h, if_neg (by simp), if_pos h1]
  have : S.fuse - 1 = (n : Int) := by omega
  rw [this, ← h]
theorem step_cut {S : St} (h : S.off = false) (hf : S.fuse = 0) : S.stepOk = false ∧ S.step = { S with off := true } := by
  refine ⟨by simp [St.stepOk, h, hf], ?_⟩
  rw [St.step, if_pos hf]
theorem step_off {S : St} (h : S.off = true) : S.stepOk = false ∧ S.step.off = true := by
  refine ⟨by simp [St.stepOk, h], ?_⟩
  unfold St.step
  split
  · rfl
  · first | exact h | (rw [if_pos h]; exact h)

theorem runErr_at (S : St) (r : RunV) {m : Nat} (h1 : ¬ r.kind = 1) (hm : ¬ m = 0) : S.runErr r m = if r.kind = 2 then (if S.stepOk then 0 else 22) else S.putErr (r.put.at_ S.nb : Int) S.sz := by
  unfold St.runErr
  rw [if_neg h1, if_neg hm]
theorem runSt_at (S : St) (r : RunV) {m : Nat} (h1 : ¬ r.kind = 1) (hm : ¬ m = 0) : S.runSt r m = if r.kind = 2 then S.flush else S.put1 r.put := by
  unfold St.runSt
  rw [if_neg h1, if_neg hm]

/-- a disk with a fuse beside one that is given just those steps -/
structure Cut (S T : St) (rest : Nat) (off : Bool) : Prop where
  nb : T.nb = S.nb
  sz : T.sz = S.sz
  med : T.med = S.med
  cache : T.cache = S.cache
  calm : T.calm
  on : off = false → S.off = false ∧ S.fuse = (rest : Int)
  cut : off = true → S.off = true ∧ rest = 0

theorem Cut.dead {S T : St} {n : Nat} (h : Cut S T n false) (h0 : n = 0) : S.stepOk = false ∧ Cut S.step T 0 true := by
  subst h0
  obtain ⟨h1, h2⟩ := h.on rfl
  obtain ⟨e1, e2⟩ := step_cut h1 h2
  refine ⟨e1, ?_⟩
  rw [e2]
  exact ⟨h.nb, h.sz, h.med, h.cache, h.calm, fun e => (by simp at e), fun _ => ⟨rfl, rfl⟩⟩
theorem Cut.still {S T : St} {n : Nat} (h : Cut S T n true) : S.stepOk = false ∧ Cut S.step T 0 true := by
  obtain ⟨h1, h2⟩ := h.cut rfl
  obtain ⟨e1, e2⟩ := step_off h1
  refine ⟨e1, ?_⟩
  exact ⟨h.nb.trans (step_nb S).symm, h.sz.trans (step_sz S).symm, h.med.trans (step_med S).symm, h.cache.trans (step_cache S).symm, h.calm, fun e => (by simp at e), fun _ => ⟨e2, rfl⟩⟩
theorem Cut.goes {S T : St} {n : Nat} (h : Cut S T (n + 1) false) : S.stepOk = true ∧ T.stepOk = true ∧ Cut S.step T.step n false := by
  obtain ⟨h1, h2⟩ := h.on rfl
  obtain ⟨e1, e2⟩ := step_on h1 h2
  refine ⟨e1, calm_ok h.calm, ?_⟩
  rw [calm_step h.calm, e2]
  exact ⟨h.nb, h.sz, h.med, h.cache, h.calm, fun _ => ⟨h1, rfl⟩, fun e => (by simp at e)⟩

theorem Cut.pushed {S T : St} {n : Nat} {o : Bool} (h : Cut S T n o) (k : Nat) (l : List Nat) : Cut (S.pushed k l).addWr (T.pushed k l).addWr n o :=
  ⟨h.nb, h.sz, h.med, by show updF T.cache k (T.cache k ++ [l]) = updF S.cache k (S.cache k ++ [l]); rw [h.cache], h.calm, h.on, h.cut⟩
theorem Cut.through {S T : St} {n : Nat} {o : Bool} (h : Cut S T n o) (k : Nat) (l : List Nat) : Cut ((S.laid k (some l)).dropped k).addTh ((T.laid k (some l)).dropped k).addTh n o :=
  ⟨h.nb, h.sz, by show updF T.med k (some l) = updF S.med k (some l); rw [h.med], by show updF T.cache k [] = updF S.cache k []; rw [h.cache], h.calm, h.on, h.cut⟩
theorem Cut.down {S T : St} {n : Nat} {o : Bool} (h : Cut S T n o) (f : Nat → Nat) : Cut (S.allDown f).addFl (T.allDown f).addFl n o :=
  ⟨h.nb, h.sz, by
    show (fun k => if 0 < f k then some ((T.cache k).getD (f k - 1) []) else T.med k) = fun k => if 0 < f k then some ((S.cache k).getD (f k - 1) []) else S.med k
    rw [h.cache, h.med], rfl, h.calm, h.on, h.cut⟩

theorem Cut.zeroN : ∀ (n : Nat) {S T : St} {rest : Nat} (f : Nat), Cut S T rest false →
    (n ≤ rest → (S.zeroN f n).2.1 = 0 ∧ (T.zeroN f n).2.1 = 0 ∧ Cut (S.zeroN f n).1 (T.zeroN f n).1 (rest - n) false) ∧
    (rest < n → (S.zeroN f n).2.1 = 22 ∧ (T.zeroN f rest).2.1 = 0 ∧ Cut (S.zeroN f n).1 (T.zeroN f rest).1 0 true)
  | 0, S, T, rest, f, h => ⟨fun _ => ⟨rfl, rfl, h⟩, fun h' => absurd h' (Nat.not_lt_zero _)⟩
  | n + 1, S, T, rest, f, h => by
    cases rest with
    | zero =>
      obtain ⟨e1, e2⟩ := h.dead rfl
      refine ⟨fun h' => absurd h' (by omega), fun _ => ?_⟩
      simp only [St.zeroN, e1]
      exact ⟨by simp, trivial, by simpa using e2⟩
    | succ r =>
      obtain ⟨e1, e2, e3⟩ := h.goes
      have hs : S.sz = T.sz := h.sz.symm
      have h' : Cut (S.zput f) (T.zput f) r false := by
        have := e3.pushed f (zeros S.sz)
        unfold St.zput
        rw [← hs]; exact this
      obtain ⟨i1, i2⟩ := Cut.zeroN n (f + 1) h'
      simp only [St.zeroN, e1, e2, if_true]
      refine ⟨fun hn => ?_, fun hn => i2 (by omega)⟩
      obtain ⟨a, b, c⟩ := i1 (by omega)
      refine ⟨a, b, ?_⟩
      rw [Nat.succ_sub_succ]; exact c

theorem zs_le (r : RunV) {nb : Nat} (h : 1 ≤ nb) : r.put.at_ nb + r.zs nb ≤ nb := by
  have := r.put.at_lt h
  unfold RunV.zs
  omega
theorem zeroBad_ok {S : St} {a z : Nat} (h : a + z ≤ S.nb) : S.zeroBad (a : Int) (z : Int) = if S.off = true then 22 else 0 := by
  rw [St.zeroBad, if_neg (by omega), if_neg (by omega)]

theorem putErr_step {S : St} {k : Nat} (hk : k < S.nb) : S.putErr (k : Int) S.sz = if S.stepOk = false then 22 else 0 := by
  simp only [St.putErr]
  rw [if_neg (by omega), if_neg (by simp)]
theorem put1_dead {S : St} (p : PutV) (hnb : 1 ≤ S.nb) (h : S.stepOk = false) : S.put1 p = S.step := by
  have hk := p.at_lt hnb
  have e : S.putErr (p.at_ S.nb : Int) (p.bs S.sz).length = 22 := by rw [bs_len, putErr_step hk, if_pos h]
  unfold St.put1 St.through St.write St.putSt
  simp only [e]
  simp
theorem put1_live {S : St} (p : PutV) (hnb : 1 ≤ S.nb) (h : S.stepOk = true) : S.put1 p = if p.past then ((S.step.laid (p.at_ S.nb) (some (p.bs S.sz))).dropped (p.at_ S.nb)).addTh else (S.step.pushed (p.at_ S.nb) (p.bs S.sz)).addWr := by
  have hk := p.at_lt hnb
  have e : S.putErr (p.at_ S.nb : Int) (p.bs S.sz).length = 0 := by rw [bs_len, putErr_step hk, if_neg (by rw [h]; simp)]
  unfold St.put1 St.through St.write St.putSt
  simp only [e]
  simp

/-- the law's step -/
theorem Cut.run {S T : St} {rest : Nat} {off : Bool} (h : Cut S T rest off) (hnb : 1 ≤ S.nb) (r : RunV) :
    T.runErr r rest = 0 ∧
    (off = true ∨ rest < r.steps S.nb → S.runErr r (r.steps S.nb) = 22 ∧ Cut (S.runSt r (r.steps S.nb)) (T.runSt r rest) 0 true) ∧
    (off = false → r.steps S.nb ≤ rest → S.runErr r (r.steps S.nb) = 0 ∧ Cut (S.runSt r (r.steps S.nb)) (T.runSt r rest) (rest - r.steps S.nb) false) := by
  have hTn := h.nb
  have hTs := h.sz
  have hTo := h.calm.1
  by_cases h1 : r.kind = 1
  · have hst : r.steps S.nb = r.zs S.nb := by rw [RunV.steps, if_pos h1]
    have hz := zs_le r hnb
    rw [hst]
    generalize hq : r.zs S.nb = z at *
    generalize ha : r.put.at_ S.nb = a at *
    have eT : ∀ m, T.runErr r m = (T.zeroN a (min z m)).2.1 ∧ T.runSt r m = (T.zeroN a (min z m)).1 := fun m => by
      have hb : T.zeroBad (a : Int) (min z m : Nat) = 0 := by rw [zeroBad_ok (by rw [hTn]; omega), hTo]; rfl
      have hz : T.zero (a : Int) (min z m : Nat) = T.zeroN a (min z m) := by rw [St.zero, if_pos hb]; rfl
      rw [St.runErr, St.runSt, if_pos h1, if_pos h1, hTn, hq, ha, hz]
      exact ⟨rfl, rfl⟩
    have eS0 : S.runErr r z = (S.zero (a : Int) (z : Nat)).2.1 ∧ S.runSt r z = (S.zero (a : Int) (z : Nat)).1 := by
      rw [St.runErr, St.runSt, if_pos h1, if_pos h1, hq, ha, Nat.min_self]
      exact ⟨rfl, rfl⟩
    cases off with
    | true =>
      obtain ⟨s1, s2⟩ := h.cut rfl
      subst s2
      have hb : S.zeroBad (a : Int) (z : Nat) = 22 := by rw [zeroBad_ok hz, if_pos s1]
      have e : S.zero (a : Int) (z : Nat) = (S, 22, (a : Int)) := by rw [St.zero, if_neg (by rw [hb]; decide), hb]
      rw [eS0.1, eS0.2, (eT 0).1, (eT 0).2, e, Nat.min_zero]
      exact ⟨rfl, fun _ => ⟨rfl, h⟩, fun e => (by simp at e)⟩
    | false =>
      obtain ⟨s1, s2⟩ := h.on rfl
      have hb : S.zeroBad (a : Int) (z : Nat) = 0 := by rw [zeroBad_ok hz, s1]; rfl
      have e : S.zero (a : Int) (z : Nat) = S.zeroN a z := by rw [St.zero, if_pos hb]; rfl
      rw [eS0.1, eS0.2, (eT rest).1, (eT rest).2, e]
      obtain ⟨i1, i2⟩ := Cut.zeroN z a h
      by_cases hlt : rest < z
      · obtain ⟨x1, x2, x3⟩ := i2 hlt
        rw [Nat.min_eq_right (by omega)]
        exact ⟨x2, fun _ => ⟨x1, x3⟩, fun _ h' => absurd h' (by omega)⟩
      · obtain ⟨x1, x2, x3⟩ := i1 (by omega)
        rw [Nat.min_eq_left (by omega)]
        exact ⟨x2, fun h' => by simp at h'; omega, fun _ _ => ⟨x1, x3⟩⟩
  · have hst : r.steps S.nb = 1 := by rw [RunV.steps, if_neg h1]
    rw [hst]
    have hTnb : 1 ≤ T.nb := by rw [hTn]; exact hnb
    have eT0 : T.runErr r 0 = 0 ∧ T.runSt r 0 = T := by
      rw [St.runErr, St.runSt, if_neg h1, if_neg h1]; exact ⟨rfl, rfl⟩
    have dead : S.stepOk = false → S.runErr r 1 = 22 ∧ S.runSt r 1 = S.step := fun hd => by
      rw [runErr_at S r h1 (by decide), runSt_at S r h1 (by decide)]
      by_cases h2 : r.kind = 2
      · rw [if_pos h2, if_pos h2, hd, St.flush, hd]; exact ⟨rfl, rfl⟩
      · rw [if_neg h2, if_neg h2, putErr_step (r.put.at_lt hnb), if_pos hd, put1_dead r.put hnb hd]; exact ⟨rfl, rfl⟩
    cases off with
    | true =>
      obtain ⟨s1, s2⟩ := h.cut rfl
      subst s2
      obtain ⟨d1, d2⟩ := h.still
      rw [eT0.1, eT0.2, (dead d1).1, (dead d1).2]
      exact ⟨rfl, fun _ => ⟨rfl, d2⟩, fun e => (by simp at e)⟩
    | false =>
      cases rest with
      | zero =>
        obtain ⟨d1, d2⟩ := h.dead rfl
        rw [eT0.1, eT0.2, (dead d1).1, (dead d1).2]
        exact ⟨rfl, fun _ => ⟨rfl, d2⟩, fun _ e => absurd e (by omega)⟩
      | succ m =>
        obtain ⟨g1, g2, g3⟩ := h.goes
        rw [runErr_at T r h1 (by omega), runErr_at S r h1 (by decide), runSt_at S r h1 (by decide), runSt_at T r h1 (by omega)]
        refine ⟨?_, fun h' => by simp at h', fun _ _ => ?_⟩
        · by_cases h2 : r.kind = 2
          · rw [if_pos h2, g2]; rfl
          · rw [if_neg h2, putErr_step (r.put.at_lt hTnb), g2]; rfl
        · by_cases h2 : r.kind = 2
          · rw [if_pos h2, if_pos h2, if_pos h2, g1, St.flush, St.flush, if_pos g1, if_pos g2, h.cache]
            exact ⟨rfl, g3.down _⟩
          · rw [if_neg h2, if_neg h2, if_neg h2, putErr_step (r.put.at_lt hnb), g1, put1_live r.put hnb g1, put1_live r.put hTnb g2, hTn, hTs]
            refine ⟨rfl, ?_⟩
            split
            · exact g3.through _ _
            · exact g3.pushed _ _

theorem geo_flush (S : St) : S.geo S.flush := by
  unfold St.flush
  split
  · exact geo_step S
  · exact geo_step S
theorem geo_run (S : St) (r : RunV) (m : Nat) : S.geo (S.runSt r m) := by
  unfold St.runSt
  split
  · exact geo_zero S _ _
  · split
    · exact geo_refl S
    · split
      · exact geo_flush S
      · exact put1_geo S _
theorem cache_run (S : St) (r : RunV) (m k : Nat) : ((S.runSt r m).cache k).length ≤ (S.cache k).length + 1 := by
  unfold St.runSt
  split
  · exact cache_zero S _ _ k
  · split
    · omega
    · split
      · unfold St.flush
        split
        · show ([] : List (List Nat)).length ≤ _
          simp
        · rw [step_cache]; omega
      · exact put1_cache S _ k

theorem Cut.crash {S T : St} {n : Nat} {o : Bool} (h : Cut S T n o) (p : List Nat) : (S.crash p).like (T.crash p) := by
  refine ⟨h.nb, h.sz, ?_, rfl, rfl, rfl⟩
  show (T.crash p).med = (S.crash p).med
  unfold St.crash St.allDown
  rw [h.cache, h.med]
end Go.Proofs.Ytlpmpicmpklaoab
