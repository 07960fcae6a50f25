import Derived.Test.YtlpmpicmpklaoaaDLast
import Derived.Test.YtlpmpicmpklaoaaDAgain
namespace Go.Proofs.Ytlpmpicmpklaoaa
open Go.RowKit Go.Maps
set_option linter.unusedVariables false
set_option linter.unusedSimpArgs false
set_option maxRecDepth 20000

theorem val_eq (S : St) (k : Nat) : S.val k = (S.cache k).getLast?.or (S.med k) := by
  unfold St.val
  cases (S.cache k).getLast? <;> rfl
theorem put1_val {S : St} (h : S.calm) (hnb : 1 ≤ S.nb) (p : PutV) (k : Nat) : (S.put1 p).val k = if k = p.at_ S.nb then some (p.bs S.sz) else S.val k := by
  have hk := p.at_lt hnb
  have hl := bs_len p S.sz
  unfold St.put1
  cases hp : p.past
  · rw [if_neg (by simp), calm_write h hk hl, val_eq, val_eq]
    simp only [St.pushed, St.addWr]
    by_cases e : k = p.at_ S.nb
    · subst e; simp [updF_same]
    · rw [if_neg e, updF_other _ _ e]
  · rw [if_pos rfl, calm_through h hk hl, val_eq, val_eq]
    simp only [St.laid, St.dropped, St.addTh]
    by_cases e : k = p.at_ S.nb
    · subst e; simp [updF_same]
    · rw [if_neg e, updF_other _ _ e, updF_other _ _ e]

theorem puts_val {S : St} (h : S.calm) (hnb : 1 ≤ S.nb) (ps : List PutV) : ∀ n, n ≤ ps.length → ∀ i, i < n → ∀ (hi : i < ps.length),
    ((S.puts (ps.take n)).val (ps[i].at_ S.nb)).isSome ∧ ((∀ j, j < n → i < j → ats ps S.nb j ≠ ats ps S.nb i) → (S.puts (ps.take n)).val (ps[i].at_ S.nb) = some (ps[i].bs S.sz)) := by
  intro n
  induction n with
  | zero => intro _ i hi; omega
  | succ n ih =>
    intro hn i hin hi
    have hlt : n < ps.length := by omega
    obtain ⟨hg, hca, _⟩ := puts_all S (ps.take n)
    have hc := hca h hnb
    rw [puts_snoc S ps hlt]
    rw [put1_val hc (by rw [hg.1]; exact hnb), hg.1, hg.2]
    by_cases e : i = n
    · subst e
      simp
    · by_cases e2 : ps[i].at_ S.nb = ps[n].at_ S.nb
      · rw [if_pos e2]
        refine ⟨rfl, fun hj => absurd ?_ (hj n (by omega) (by omega))⟩
        rw [ats_get hlt, ats_get hi, e2]
      · rw [if_neg e2]
        obtain ⟨h1, h2⟩ := ih (by omega) i (by omega) hi
        exact ⟨h1, fun hj => h2 fun j hjn hij => hj j (by omega) hij⟩

theorem flush_calm {S : St} (h : S.calm) : S.flush.calm ∧ S.flush.dry ∧ S.geo S.flush ∧ ∀ k, S.flush.val k = S.val k := by
  have e : S.flush = (S.allDown fun k => (S.cache k).length).addFl := by
    rw [St.flush, calm_ok h, calm_step h]; rfl
  refine ⟨by rw [e]; exact h, by rw [e]; exact fun _ => rfl, by rw [e]; exact ⟨rfl, rfl⟩, fun k => ?_⟩
  rw [e, val_eq, val_eq]
  simp only [St.allDown, St.addFl, List.getLast?_nil, Option.none_or]
  cases hc : S.cache k with
  | nil => simp
  | cons x r =>
    have hpos : 0 < (x :: r).length := by simp
    rw [if_pos hpos]
    rw [List.getLast?_eq_getElem?]
    have : (x :: r)[(x :: r).length - 1]? = some ((x :: r).getD ((x :: r).length - 1) []) := getD_get [] (by simp)
    rw [this]
    rfl

/-- what is read behind a flush of the writes -/
theorem barrier_reads {S : St} (h : S.calm) (hnb : 1 ≤ S.nb) (ps : List PutV) {i : Nat} (hi : i < ps.length) :
    (S.puts ps).flush.rdE (ps[i].at_ S.nb) = 0 ∧ (lastOf ps i S.nb = true → (S.puts ps).flush.rdV (ps[i].at_ S.nb) = some (ps[i].bs S.sz)) := by
  obtain ⟨hg, hca, _⟩ := puts_all S ps
  have hc := hca h hnb
  obtain ⟨f1, f2, f3, f4⟩ := flush_calm hc
  have pv := puts_val h hnb ps ps.length (Nat.le_refl _) i hi hi
  rw [List.take_length] at pv
  constructor
  · unfold St.rdE St.readErr
    have hk := ps[i].at_lt hnb
    rw [if_neg (by rw [f3.1, hg.1]; omega), if_neg (by rw [f1.1]; simp), if_neg]
    rw [Int.toNat_natCast, f4]
    intro e
    rw [e] at pv
    simp at pv
  · intro hl
    unfold St.rdV
    rw [if_neg (by rw [f1.1]; simp), f4]
    exact pv.2 (of_decide_eq_true hl)
end Go.Proofs.Ytlpmpicmpklaoaa
