import Derived.Test.YtlkccencilhacaaALogA
import Derived.Test.YtlkccencilhacaaABook3
namespace Go.Proofs.Ytlkccencilhacaa
open Go.RowKit Go.Sort
set_option linter.unusedVariables false
set_option linter.unusedSimpArgs false
set_option maxRecDepth 20000

theorem RefRes.uniq {S : LS} {M : Nat} (hS : S.Ok M) {k : Int} {r t : Nat} (h1 : RefRes S k r) (h2 : RefRes S k t) : r = t := by
  rcases h1 with ⟨a, a1, a2⟩ | ⟨a1, rfl⟩
  · rcases h2 with ⟨b, b1, b2⟩ | ⟨b1, rfl⟩
    · have := nodup_inj hS.kd a1 b1
      subst this
      rw [a2] at b2
      exact Option.some.inj b2
    · exact absurd (List.mem_of_getElem? a1) b1
  · rcases h2 with ⟨b, b1, b2⟩ | ⟨b1, rfl⟩
    · exact absurd (List.mem_of_getElem? b1) a1
    · rfl
theorem RefRes.total {S : LS} {M : Nat} (hS : S.Ok M) (k : Int) : ∃ r, RefRes S k r := by
  by_cases h : k ∈ S.ks
  · obtain ⟨s, hs⟩ := List.getElem?_of_mem h
    have hl : s < S.rs.length := by rw [hS.rl]; exact (List.getElem?_eq_some_iff.1 hs).1
    exact ⟨S.rs[s], .inl ⟨s, hs, List.getElem?_eq_getElem hl⟩⟩
  · exact ⟨0, .inr ⟨h, rfl⟩⟩
theorem RefRes.pos {S : LS} {k : Int} {r : Nat} (h : RefRes S k r) (hr : 0 < r) : k ∈ S.ks := by
  rcases h with ⟨s, h1, _⟩ | ⟨_, rfl⟩
  · exact List.mem_of_getElem? h1
  · omega
/-- what Get does to the references -/
theorem GetRes.refs {S S' : LS} {M : Nat} (hS : S.Ok M) {key : Int} {slot : Nat} {fresh : Bool} {old : Int} {gone : Bool} {er : Int} (h : GetRes S key S' slot fresh old gone er) (he : er = 0) : (∀ k r, k ≠ key → RefRes S k r → RefRes S' k r) ∧ ∀ r, RefRes S key r → RefRes S' key (r + 1) := by
  rcases h with ⟨s, g1, rfl, -⟩ | ⟨g1, g2, rfl, -⟩ | ⟨g1, g2, s, t, o, g3, g4, rfl, -⟩ | ⟨g1, g2, g3, rfl, -, -, -, -, rfl⟩
  · have hsl : s < S.rs.length := by rw [hS.rl]; exact (List.getElem?_eq_some_iff.1 g1).1
    refine ⟨fun k r hk hr => ?_, fun r hr => ?_⟩
    · rcases hr with ⟨a, a1, a2⟩ | ⟨a1, rfl⟩
      · refine .inl ⟨a, a1, ?_⟩
        show (S.rs.set s _)[a]? = _
        rw [getD_set hsl, if_neg (fun e => hk (by rw [e, g1] at a1; exact (Option.some.inj a1).symm)), a2]
      · exact .inr ⟨a1, rfl⟩
    · rcases hr with ⟨a, a1, a2⟩ | ⟨a1, rfl⟩
      · have := nodup_inj hS.kd a1 g1
        subst this
        refine .inl ⟨a, a1, ?_⟩
        show (S.rs.set a _)[a]? = _
        rw [getD_set hsl, if_pos rfl, getD_of a2]
      · exact absurd (List.mem_of_getElem? g1) a1
  · refine ⟨fun k r hk hr => ?_, fun r hr => ?_⟩
    · rcases hr with ⟨a, a1, a2⟩ | ⟨a1, rfl⟩
      · refine .inl ⟨a, ?_, ?_⟩
        · show (S.ks ++ [key])[a]? = _
          rw [List.getElem?_append_left (List.getElem?_eq_some_iff.1 a1).1, a1]
        · show (S.rs ++ [1])[a]? = _
          rw [List.getElem?_append_left (List.getElem?_eq_some_iff.1 a2).1, a2]
      · refine .inr ⟨fun e => ?_, rfl⟩
        rcases List.mem_append.1 (show k ∈ S.ks ++ [key] from e) with e | e
        · exact a1 e
        · exact hk (by simpa using e)
    · rcases hr with ⟨a, a1, a2⟩ | ⟨a1, rfl⟩
      · exact absurd (List.mem_of_getElem? a1) g1
      · refine .inl ⟨S.ks.length, ?_, ?_⟩
        · show (S.ks ++ [key])[S.ks.length]? = _
          simp
        · show (S.rs ++ [1])[S.ks.length]? = _
          rw [← hS.rl]; simp
  · have hsi : S.rs[s]? = some 0 := (hS.im s).1 (by rw [g3]; exact List.mem_cons_self ..)
    have hsl := (List.getElem?_eq_some_iff.1 hsi).1
    have hkl : s < S.ks.length := (List.getElem?_eq_some_iff.1 g4).1
    refine ⟨fun k r hk hr => ?_, fun r hr => ?_⟩
    · rcases hr with ⟨a, a1, a2⟩ | ⟨a1, rfl⟩
      · by_cases e : a = s
        · subst e
          rw [hsi] at a2
          obtain rfl := Option.some.inj a2
          refine .inr ⟨fun e => ?_, rfl⟩
          have e : k ∈ S.ks.set a key := e
          rcases List.mem_or_eq_of_mem_set e with _ | e2
          · obtain ⟨b, hb⟩ := List.getElem?_of_mem e
            by_cases hba : b = a
            · subst hba
              rw [List.getElem?_set_self hkl] at hb
              exact hk (Option.some.inj hb).symm
            · rw [List.getElem?_set_ne (fun e => hba e.symm)] at hb
              exact hba (nodup_inj hS.kd hb a1)
          · exact hk e2
        · refine .inl ⟨a, ?_, ?_⟩
          · show (S.ks.set s key)[a]? = _
            rw [List.getElem?_set_ne (fun e2 => e e2.symm), a1]
          · show (S.rs.set s _)[a]? = _
            rw [getD_set hsl, if_neg e, a2]
      · refine .inr ⟨fun e => ?_, rfl⟩
        rcases List.mem_or_eq_of_mem_set (show k ∈ S.ks.set s key from e) with e | e
        · exact a1 e
        · exact hk e
    · rcases hr with ⟨a, a1, a2⟩ | ⟨a1, rfl⟩
      · exact absurd (List.mem_of_getElem? a1) g1
      · refine .inl ⟨s, ?_, ?_⟩
        · show (S.ks.set s key)[s]? = _
          rw [List.getElem?_set_self hkl]
        · show (S.rs.set s _)[s]? = _
          rw [getD_set hsl, if_pos rfl]
          show some (S.rs.getD s 0 + 1) = _
          rw [getD_of hsi]
  · omega
theorem PutRes.refs {S S' : LS} {M : Nat} (hS : S.Ok M) {key : Int} {er : Int} (h : PutRes S key S' er) (he : er = 0) : (∀ k r, k ≠ key → RefRes S k r → RefRes S' k r) ∧ ∃ r, RefRes S key (r + 1) ∧ RefRes S' key r := by
  rcases h with ⟨-, -, rfl⟩ | ⟨s, r, g1, g2, rfl, -⟩
  · omega
  · have hsl := (List.getElem?_eq_some_iff.1 g2).1
    refine ⟨fun k t hk hr => ?_, r, .inl ⟨s, g1, g2⟩, .inl ⟨s, g1, ?_⟩⟩
    · rcases hr with ⟨a, a1, a2⟩ | ⟨a1, rfl⟩
      · refine .inl ⟨a, a1, ?_⟩
        show (S.rs.set s _)[a]? = _
        rw [getD_set hsl, if_neg (fun e => hk (by rw [e, g1] at a1; exact (Option.some.inj a1).symm)), a2]
      · exact .inr ⟨a1, rfl⟩
    · show (S.rs.set s _)[s]? = _
      rw [getD_set hsl, if_pos rfl, getD_of g2]
      rfl
theorem PutRes.same {S S' : LS} {key : Int} {er : Int} (h : PutRes S key S' er) (he : er ≠ 0) : S' = S := by
  rcases h with ⟨-, h, -⟩ | ⟨s, r, -, -, -, h⟩
  · exact h
  · exact absurd h he
/-- the book of Keeps says what the log does -/
structure Kb (S : LS) (L : List Us) (ext i : Nat) : Prop where
  kd : (L.map Us.key).Nodup
  rg : ∀ u ∈ L, 0 ≤ u.key ∧ u.key < (ext : Int)
  gb : ∀ u ∈ L, u.back ≤ u.got ∧ u.got ≤ i
  rf : ∀ u ∈ L, RefRes S u.key (u.got - u.back)
  cv : ∀ k r, RefRes S k r → 0 < r → ∃ u ∈ L, u.key = k
theorem Kb.start (slots ext : Nat) : Kb ⟨slots, [], [], [], []⟩ [] ext 0 := ⟨List.Pairwise.nil, fun u hu => by simp at hu, fun u hu => by simp at hu, fun u hu => by simp at hu, fun k r h hr => by
  have := h.pos hr
  simp at this⟩
theorem Kb.next {S : LS} {L : List Us} {ext i : Nat} (h : Kb S L ext i) : Kb S L ext (i + 1) := ⟨h.kd, h.rg, fun u hu => by have := h.gb u hu; omega, h.rf, h.cv⟩
theorem Kb.len {S : LS} {L : List Us} {ext i : Nat} (h : Kb S L ext i) : L.length ≤ ext := by
  have hn : (L.map fun u => u.key.toNat).Nodup := by
    have hk := h.kd
    rw [List.Nodup, List.pairwise_map] at hk ⊢
    exact hk.imp_of_mem fun {a b} ha hb hab e => hab (by have := h.rg a ha; have := h.rg b hb; omega)
  have := nodup_bound (n := ext) hn fun x hx => by
    obtain ⟨u, hu, rfl⟩ := List.mem_map.1 hx
    have := h.rg u hu
    omega
  simpa using this
theorem Kb.uniq {S : LS} {L : List Us} {ext i : Nat} (h : Kb S L ext i) {a b : Nat} {u v : Us} (ha : L[a]? = some u) (hb : L[b]? = some v) (e : u.key = v.key) : a = b :=
  nodup_inj (l := L.map Us.key) h.kd (by rw [List.getElem?_map, ha]; rfl) (by rw [List.getElem?_map, hb, Option.map_some, ← e])
theorem mem_set_key {L : List Us} {j : Nat} {u' : Us} (hk : ∀ u, L[j]? = some u → u'.key = u.key) : (L.set j u').map Us.key = L.map Us.key := by
  refine List.ext_getElem? fun n => ?_
  rw [List.getElem?_map, List.getElem?_map]
  by_cases e : n = j
  · subst e
    by_cases hl : n < L.length
    · rw [List.getElem?_set_self hl, List.getElem?_eq_getElem hl]
      simp [hk _ (List.getElem?_eq_getElem hl)]
    · rw [List.getElem?_eq_none (by simp; omega), List.getElem?_eq_none (by omega)]
  · rw [List.getElem?_set_ne (fun h => e h.symm)]
/-- a line of the book and the references of its key turn alike -/
theorem Kb.line {S S' : LS} {M : Nat} {L : List Us} {ext i j : Nat} {u u' : Us} (h : Kb S L ext i) (hS : S.Ok M) (hS' : S'.Ok (M + 1)) (hj : L[j]? = some u) (hk : u'.key = u.key) (hg : u'.back ≤ u'.got ∧ u'.got ≤ i + 1) (ho : ∀ k r, k ≠ u.key → RefRes S k r → RefRes S' k r) (hr : RefRes S' u.key (u'.got - u'.back)) : Kb S' (L.set j u') ext (i + 1) := by
  have hmem : u ∈ L := List.mem_of_getElem? hj
  have hcase : ∀ v ∈ L.set j u', v = u' ∨ (v ∈ L ∧ v.key ≠ u.key) := fun v hv => by
    rcases mem_set_cases hv with e | ⟨b, hb, hv⟩
    · exact .inl e
    · refine .inr ⟨List.mem_of_getElem? hv, fun e => hb (h.uniq hv hj e)⟩
  refine ⟨by rw [mem_set_key fun w hw => by rw [hj] at hw; obtain rfl := Option.some.inj hw; exact hk]; exact h.kd, fun v hv => ?_, fun v hv => ?_, fun v hv => ?_, fun k r hkr hpos => ?_⟩
  · rcases hcase v hv with rfl | ⟨h1, -⟩
    · rw [hk]; exact h.rg u hmem
    · exact h.rg v h1
  · rcases hcase v hv with rfl | ⟨h1, -⟩
    · exact hg
    · have := h.gb v h1; omega
  · rcases hcase v hv with rfl | ⟨h1, h2⟩
    · rw [hk]; exact hr
    · exact ho _ _ h2 (h.rf v h1)
  · have key : ∀ x ∈ L, ∃ y ∈ L.set j u', y.key = x.key := fun x hx => by
      have : x.key ∈ (L.set j u').map Us.key := by
        rw [mem_set_key fun w hw => by rw [hj] at hw; obtain rfl := Option.some.inj hw; exact hk]
        exact List.mem_map.2 ⟨x, hx, rfl⟩
      obtain ⟨y, hy, e⟩ := List.mem_map.1 this
      exact ⟨y, hy, e⟩
    by_cases e : k = u.key
    · obtain ⟨y, hy, e2⟩ := key u hmem
      exact ⟨y, hy, by rw [e2, e]⟩
    · obtain ⟨r0, hr0⟩ := RefRes.total hS k
      have := RefRes.uniq hS' (ho k r0 e hr0) hkr
      subst this
      obtain ⟨x, hx, e2⟩ := h.cv k r0 hr0 hpos
      obtain ⟨y, hy, e3⟩ := key x hx
      exact ⟨y, hy, by rw [e3, e2]⟩
/-- a new line -/
theorem Kb.more {S S' : LS} {M : Nat} {L : List Us} {ext i : Nat} {key : Int} (h : Kb S L ext i) (hS : S.Ok M) (hS' : S'.Ok (M + 1)) (hn : ∀ u ∈ L, u.key ≠ key) (hr0 : 0 ≤ key ∧ key < (ext : Int)) (ho : ∀ k r, k ≠ key → RefRes S k r → RefRes S' k r) (hr : ∀ r, RefRes S key r → RefRes S' key (r + 1)) : Kb S' (L ++ [⟨key, 1, 0, 0⟩]) ext (i + 1) := by
  have h0 : RefRes S key 0 := by
    obtain ⟨r, hr⟩ := RefRes.total hS key
    by_cases hz : r = 0
    · subst hz; exact hr
    · obtain ⟨u, hu, e⟩ := h.cv key r hr (by omega)
      exact absurd e (hn u hu)
  have hcase : ∀ v ∈ L ++ [⟨key, 1, 0, 0⟩], v = ⟨key, 1, 0, 0⟩ ∨ v ∈ L := fun v hv => by
    rcases List.mem_append.1 hv with e | e
    · exact .inr e
    · exact .inl (by simpa using e)
  refine ⟨?_, fun v hv => ?_, fun v hv => ?_, fun v hv => ?_, fun k r hkr hpos => ?_⟩
  · rw [List.map_append, List.nodup_append]
    refine ⟨h.kd, by simp, fun a ha b hb e => ?_⟩
    simp at hb
    obtain ⟨u, hu, e2⟩ := List.mem_map.1 ha
    exact hn u hu (by rw [e2, e, hb])
  · rcases hcase v hv with rfl | h1
    · exact hr0
    · exact h.rg v h1
  · rcases hcase v hv with rfl | h1
    · simp
    · have := h.gb v h1; omega
  · rcases hcase v hv with rfl | h1
    · exact hr 0 h0
    · exact ho _ _ (hn v h1) (h.rf v h1)
  · by_cases e : k = key
    · exact ⟨⟨key, 1, 0, 0⟩, by simp, e.symm⟩
    · obtain ⟨r0, hr0⟩ := RefRes.total hS k
      have := RefRes.uniq hS' (ho k r0 e hr0) hkr
      subst this
      obtain ⟨x, hx, e2⟩ := h.cv k r0 hr0 hpos
      exact ⟨x, List.mem_append_left _ hx, e2⟩
def busyN (L : List Us) : Nat := (L.filter fun u => u.got != u.back).length
def idleN (L : List Us) : Nat := (L.filter fun u => u.got == u.back).length
theorem busy_idle (L : List Us) : busyN L + idleN L = L.length := by
  unfold busyN idleN
  induction L with
  | nil => rfl
  | cons u L ih =>
    by_cases e : u.got = u.back
    · simp [List.filter_cons, e] at ih ⊢; omega
    · simp [List.filter_cons, e] at ih ⊢; omega
/-- those that have references -/
theorem Kb.busy {S : LS} {M : Nat} {L : List Us} {ext i : Nat} (h : Kb S L ext i) (hS : S.Ok M) : busyN L = ((List.range S.ks.length).filter fun s => decide (0 < S.rs.getD s 0)).length := by
  have hp : ((L.filter fun u => u.got != u.back).map Us.key).Perm (((List.range S.ks.length).filter fun s => decide (0 < S.rs.getD s 0)).map fun s => S.ks.getD s 0) := by
    refine (List.perm_ext_iff_of_nodup ?_ ?_).2 fun k => ?_
    · exact h.kd.sublist (List.filter_sublist.map _)
    · refine List.Pairwise.map (R := fun a b => a ≠ b ∧ a < S.ks.length ∧ b < S.ks.length) _ (fun a b hab e => ?_) ?_
      · have h1 : S.ks[a]? = some (S.ks.getD a 0) := by simp [List.getD, hab.2.1]
        have h2 : S.ks[b]? = some (S.ks.getD b 0) := by simp [List.getD, hab.2.2]
        rw [e] at h1
        exact hab.1 (nodup_inj hS.kd h1 h2)
      · refine List.Pairwise.filter _ ?_
        exact List.Pairwise.imp_of_mem (R := fun a b => a ≠ b) (fun {a b} ha hb hab => ⟨hab, List.mem_range.1 ha, List.mem_range.1 hb⟩) List.nodup_range
    · constructor
      · intro hk
        obtain ⟨u, hu, rfl⟩ := List.mem_map.1 hk
        obtain ⟨hu1, hu2⟩ := List.mem_filter.1 hu
        have hu2 : u.got ≠ u.back := by simpa using hu2
        have hgb := h.gb u hu1
        rcases h.rf u hu1 with ⟨s, h1, h2⟩ | ⟨-, e⟩
        · refine List.mem_map.2 ⟨s, List.mem_filter.2 ⟨List.mem_range.2 (List.getElem?_eq_some_iff.1 h1).1, ?_⟩, by simp [List.getD, h1]⟩
          rw [getD_of h2]
          simp; omega
        · omega
      · intro hk
        obtain ⟨s, hs, rfl⟩ := List.mem_map.1 hk
        obtain ⟨hs1, hs2⟩ := List.mem_filter.1 hs
        have hs1 := List.mem_range.1 hs1
        have hs2 : 0 < S.rs.getD s 0 := by simpa using hs2
        have hrl : s < S.rs.length := by rw [hS.rl]; exact hs1
        have hr : RefRes S (S.ks.getD s 0) (S.rs.getD s 0) := .inl ⟨s, by simp [List.getD, hs1], by simp [List.getD, hrl]⟩
        obtain ⟨u, hu, e⟩ := h.cv _ _ hr hs2
        have := RefRes.uniq hS (e ▸ h.rf u hu) hr
        refine List.mem_map.2 ⟨u, List.mem_filter.2 ⟨hu, ?_⟩, e⟩
        simp; omega
  have := hp.length_eq
  simpa [busyN] using this
/-- all slots are taken by such with references -/
theorem Kb.full {S : LS} {M : Nat} {L : List Us} {ext i : Nat} (h : Kb S L ext i) (hS : S.Ok M) : busyN L ≤ S.slots ∧ (busyN L = S.slots ↔ S.ks.length = S.slots ∧ S.idle = []) := by
  have hb := h.busy hS
  have hle : ((List.range S.ks.length).filter fun s => decide (0 < S.rs.getD s 0)).length ≤ S.ks.length := by
    have := List.length_filter_le (fun s => decide (0 < S.rs.getD s 0)) (List.range S.ks.length)
    simpa using this
  have hkl := hS.kl
  refine ⟨by omega, fun e => ?_, fun ⟨e1, e2⟩ => ?_⟩
  · refine ⟨by omega, ?_⟩
    have hall : ((List.range S.ks.length).filter fun s => decide (0 < S.rs.getD s 0)).length = (List.range S.ks.length).length := by rw [List.length_range]; omega
    have hall := List.length_filter_eq_length_iff.1 hall
    cases hi : S.idle with
    | nil => rfl
    | cons s t =>
      have h0 : S.rs[s]? = some 0 := (hS.im s).1 (by rw [hi]; exact List.mem_cons_self ..)
      have hsl : s < S.ks.length := by rw [← hS.rl]; exact (List.getElem?_eq_some_iff.1 h0).1
      have := hall s (List.mem_range.2 hsl)
      rw [getD_of h0] at this
      simp at this
  · rw [hb, ← e1]
    have : ((List.range S.ks.length).filter fun s => decide (0 < S.rs.getD s 0)).length = (List.range S.ks.length).length := by
      refine List.length_filter_eq_length_iff.2 fun s hs => ?_
      have hs := List.mem_range.1 hs
      have hrl : s < S.rs.length := by rw [hS.rl]; exact hs
      by_cases hz : S.rs.getD s 0 = 0
      · have : s ∈ S.idle := (hS.im s).2 (by rw [List.getElem?_eq_getElem hrl]; simp [List.getD, hrl] at hz; rw [hz])
        rw [e2] at this
        simp at this
      · exact decide_eq_true (Nat.pos_of_ne_zero hz)
    simpa using this
end Go.Proofs.Ytlkccencilhacaa
