import Derived.Test.YtlpmpicmpklaoacGreatDCached
import Derived.Test.YtlpmpicmpklaoacGreatDSeen
namespace Go.Proofs.YtlpmpicmpklaoacGreat
open Go.RowKit Go.Maps Go.Sort
set_option linter.unusedVariables false
set_option linter.unusedSimpArgs false
set_option maxRecDepth 20000

/-- the blocks that have cached writes, rising -/
def St.keysL (S : St) : List Nat := (List.range S.nb).filter fun k => !(S.cache k).isEmpty
def St.keysI (S : St) : List Int := S.keysL.map fun (k : Nat) => (k : Int)
theorem mem_keysL {S : St} {k : Nat} : k ∈ S.keysL ↔ k < S.nb ∧ S.cache k ≠ [] := by
  unfold St.keysL
  rw [List.mem_filter, List.mem_range]
  cases S.cache k <;> simp
theorem keysI_sorted (S : St) : S.keysI.Pairwise (fun a b => leI a b = true) := by
  unfold St.keysI
  rw [List.pairwise_map]
  refine (List.Pairwise.filter _ (List.pairwise_lt_range (n := S.nb))).imp ?_
  intro a b h
  simp only [leI, decide_eq_true_eq]
  omega
theorem keysI_nodup (S : St) : S.keysI.Nodup := by
  unfold St.keysI List.Nodup
  rw [List.pairwise_map]
  refine (List.Pairwise.filter _ (List.pairwise_lt_range (n := S.nb))).imp ?_
  intro a b h
  omega

theorem Cached_any {w : World} {L : Lay} {S : St} (hR : Rep w L S) :
    Calls Tryz.prog 33 #[PD L] w fun e w' => ∃ v, e = .returned v ∧ w'.ownsRow w.heap.size 3 1 v S.keysI.length (S.keysI.map encZ) ∧ (v = .slice none 0 0 ↔ S.keysI = []) ∧ Below w.heap.size w w' := by
  obtain ⟨A, D, ho, hc⟩ := hR
  refine (Cached_raw ho hc).mono ?_
  rintro e w' ⟨v, ss, rfl, hp, hrow, hnil, hb⟩
  obtain ⟨es, rfl, hpw, hkey⟩ := ho.entries kInt
  have hnb := hc.nb2
  have hin : ∀ p ∈ es, ∃ k, k < S.nb ∧ p.1 = kL k := fun p hp' => hc.keys _ (List.any_eq_true.2 ⟨p, hp', WideAt.sameKey_self (hkey p hp')⟩)
  have h2 : S.keysI.Perm (intKeys (.map es)) := perm_intKeys hpw (fun p hp' => by obtain ⟨k, _, e⟩ := hin p hp'; exact ⟨_, e⟩) (keysI_nodup S) (fun x => by
    unfold St.keysI
    rw [List.mem_map]
    constructor
    · rintro ⟨k, hk, rfl⟩
      obtain ⟨h1, h2⟩ := mem_keysL.1 hk
      exact (hc.hasK k h1).2 h2
    · intro h
      obtain ⟨k, hk, e⟩ := hc.keys _ h
      have e' : x = (k : Int) := by simpa [kL] using e
      subst e'
      exact ⟨k, mem_keysL.2 ⟨hk, (hc.hasK k hk).1 h⟩, rfl⟩)
  have h3 : ss.Perm S.keysI := hp.trans h2.symm
  have h4 : ss.mergeSort leI = S.keysI := by
    rw [mergeSort_of_perm_i h3]
    exact List.mergeSort_of_pairwise (keysI_sorted S)
  have h5 : (ss.mergeSort fun x y => decide (x ≤ y)) = S.keysI := h4
  rw [h5, h3.length_eq] at hrow
  refine ⟨v, rfl, hrow, hnil.trans ⟨fun e => ?_, fun e => ?_⟩, hb⟩
  · rw [e] at h3; exact h3.symm.eq_nil
  · rw [e] at h3; exact h3.eq_nil
theorem keysI_like {S T : St} (h : S.like T) : T.keysI = S.keysI := by
  unfold St.keysI St.keysL
  rw [h.1, h.2.2.2.1]
end Go.Proofs.YtlpmpicmpklaoacGreat
