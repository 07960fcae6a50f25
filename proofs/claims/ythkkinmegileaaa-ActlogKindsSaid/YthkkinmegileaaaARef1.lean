import Derived.Test.YthkkinmegileaaaALruA
namespace Go.Proofs.Ythkkinmegileaaa
open Go.RowKit Go.Sort
set_option linter.unusedVariables false
set_option linter.unusedSimpArgs false
set_option maxRecDepth 20000

/-- a slot of the document's Lru -/
structure RC where
  used : Bool
  key : Int
  refs : Nat
  given : Nat
def RC.cells (c : RC) : List Value := [.bool c.used, .int .i64 c.key, .int .i64 (c.refs : Int), .int .i64 (c.given : Int)]
def cflat (C : List RC) : List Value := C.flatMap RC.cells
theorem cflat_len : ∀ C : List RC, (cflat C).length = C.length * 4
  | [] => rfl
  | u :: r => by
    have := cflat_len r
    simp only [cflat, List.flatMap_cons, List.length_append, List.length_cons] at *
    rw [this]
    simp [RC.cells]
    omega
theorem cflat_get : ∀ {C : List RC} {i : Nat} {u : RC} (h : C[i]? = some u) {f : Nat} (hf : f < 4), (cflat C)[i * 4 + f]? = u.cells[f]?
  | [], i, u, h, f, hf => by simp at h
  | a :: r, 0, u, h, f, hf => by
    have e : a = u := by simpa using h
    subst e
    simp only [cflat, List.flatMap_cons]
    rw [List.getElem?_append_left (by simp [RC.cells]; omega)]
    simp
  | a :: r, i + 1, u, h, f, hf => by
    have hl : a.cells.length = 4 := rfl
    simp only [cflat, List.flatMap_cons]
    rw [List.getElem?_append_right (by rw [hl]; omega), hl]
    have := cflat_get (C := r) (i := i) (u := u) (by simpa using h) hf
    rw [← this]
    show (cflat r)[_]? = _
    congr 1
    omega
theorem cflat_set : ∀ {C : List RC} {i : Nat} {u u' : RC} (h : C[i]? = some u) {f : Nat} (hf : f < 4) {x : Value} (e : u'.cells = u.cells.set f x), (cflat C).set (i * 4 + f) x = cflat (C.set i u')
  | [], i, u, u', h, f, hf, x, e => by simp at h
  | a :: r, 0, u, u', h, f, hf, x, e => by
    have e2 : a = u := by simpa using h
    subst e2
    simp only [cflat, List.flatMap_cons, List.set_cons_zero]
    rw [List.set_append_left _ _ (by simp [RC.cells]; omega), e]
    simp
  | a :: r, i + 1, u, u', h, f, hf, x, e => by
    have hl : a.cells.length = 4 := rfl
    have := cflat_set (C := r) (i := i) (u := u) (u' := u') (by simpa using h) hf e
    simp only [cflat, List.flatMap_cons, List.set_cons_succ] at *
    rw [List.set_append_right _ _ (by rw [hl]; omega), hl, ← this]
    congr 2
    omega
def rcb (C : List RC) (s : Nat) : RC := C.getD s ⟨false, 0, 0, 0⟩
theorem rcb_of {C : List RC} {s : Nat} (h : s < C.length) : C[s]? = some (rcb C s) := by simp [rcb, List.getD, h]
theorem rcb_eq {C : List RC} {s : Nat} {c : RC} (h : C[s]? = some c) : rcb C s = c := by simp [rcb, List.getD, h]
theorem rcb_set {C : List RC} {s t : Nat} {c : RC} (h : s < C.length) : rcb (C.set s c) t = if t = s then c else rcb C t := by
  by_cases e : t = s
  · subst e; rw [if_pos rfl]; exact rcb_eq (by rw [List.getElem?_set_self h])
  · rw [if_neg e]; simp only [rcb, List.getD]; rw [List.getElem?_set_ne (fun x => e x.symm)]
/-- the document's Lru says what the state says -/
structure Rel (S : LS) (C : List RC) (P : Nat) : Prop where
  len : C.length = S.slots
  us : ∀ s, s < S.ks.length → (rcb C s).used = true ∧ S.ks[s]? = some (rcb C s).key ∧ S.rs[s]? = some (rcb C s).refs
  fr : ∀ s, S.ks.length ≤ s → s < C.length → (rcb C s).used = false
  od : S.idle.Pairwise (fun s t => (rcb C s).given < (rcb C t).given)
  rg : ∀ s ∈ S.idle, 1 ≤ (rcb C s).given ∧ (rcb C s).given ≤ P
theorem LS.Ok.idle_lt {S : LS} {M : Nat} (h : S.Ok M) {s : Nat} (hs : s ∈ S.idle) : s < S.ks.length := by
  rw [← h.rl]; exact (List.getElem?_eq_some_iff.1 ((h.im s).1 hs)).1
theorem pw_congr {l : List Nat} {f g : Nat → Nat} (h : l.Pairwise (fun s t => f s < f t)) (e : ∀ s ∈ l, g s = f s) : l.Pairwise (fun s t => g s < g t) := by
  refine List.Pairwise.imp_of_mem ?_ h
  intro a b ha hb hab
  rw [e a ha, e b hb]
  exact hab
theorem Rel.start (n : Nat) : Rel ⟨n, [], [], [], []⟩ (List.replicate n ⟨false, 0, 0, 0⟩) 0 := by
  refine ⟨by simp, fun s h => by simp at h, fun s _ h => ?_, List.Pairwise.nil, fun s h => by simp at h⟩
  simp only [List.length_replicate] at h
  rw [rcb_eq (c := ⟨false, 0, 0, 0⟩) (by simp [h])]
theorem Rel.take {S : LS} {C : List RC} {P M s : Nat} (h : Rel S C P) (hS : S.Ok M) (hs : s < S.ks.length) : Rel (S.take s) (C.set s { rcb C s with refs := (rcb C s).refs + 1 }) P := by
  have hsl : s < C.length := by rw [h.len]; have := hS.kl; omega
  have hsr : s < S.rs.length := by rw [hS.rl]; exact hs
  have hr := (h.us s hs).2.2
  refine ⟨by rw [List.length_set]; exact h.len, fun t ht => ?_, fun t h1 h2 => ?_, ?_, fun t ht => ?_⟩
  · rw [rcb_set hsl]
    by_cases e : t = s
    · subst e
      rw [if_pos rfl]
      exact ⟨(h.us t hs).1, (h.us t hs).2.1, by simp only [LS.take]; rw [List.getElem?_set_self hsr, getD_of hr]⟩
    · rw [if_neg e]
      refine ⟨(h.us t ht).1, (h.us t ht).2.1, ?_⟩
      simp only [LS.take]
      rw [List.getElem?_set_ne (fun x => e x.symm)]
      exact (h.us t ht).2.2
  · rw [List.length_set] at h2
    have h1' : S.ks.length ≤ t := h1
    rw [rcb_set hsl, if_neg (by omega)]
    exact h.fr t h1' h2
  · refine pw_congr (h.od.sublist List.erase_sublist) fun t ht => ?_
    rw [rcb_set hsl]
    split
    · rename_i e; subst e; rfl
    · rfl
  · have ht' : t ∈ S.idle := List.mem_of_mem_erase ht
    rw [rcb_set hsl]
    by_cases e : t = s
    · subst e; rw [if_pos rfl]; exact h.rg t ht'
    · rw [if_neg e]; exact h.rg t ht'
theorem Rel.add {S : LS} {C : List RC} {P M : Nat} {key : Int} (h : Rel S C P) (hS : S.Ok M) (hl : S.ks.length < S.slots) : Rel (S.add key) (C.set S.ks.length ⟨true, key, 1, 0⟩) P := by
  have hsl : S.ks.length < C.length := by rw [h.len]; exact hl
  have hrl := hS.rl
  refine ⟨by rw [List.length_set]; exact h.len, fun t ht => ?_, fun t h1 h2 => ?_, ?_, fun t ht => ?_⟩
  · rw [rcb_set hsl]
    by_cases e : t = S.ks.length
    · rw [if_pos e]
      subst e
      exact ⟨rfl, by simp [LS.add], by simp [LS.add, ← hrl]⟩
    · rw [if_neg e]
      have ht' : t < S.ks.length := by simp [LS.add] at ht; omega
      refine ⟨(h.us t ht').1, ?_, ?_⟩
      · simp only [LS.add]; rw [List.getElem?_append_left ht']; exact (h.us t ht').2.1
      · simp only [LS.add]; rw [List.getElem?_append_left (by omega)]; exact (h.us t ht').2.2
  · rw [List.length_set] at h2
    have h1' : S.ks.length + 1 ≤ t := by simpa [LS.add] using h1
    rw [rcb_set hsl, if_neg (by omega)]
    exact h.fr t (by omega) h2
  · refine pw_congr h.od fun t ht => ?_
    have := hS.idle_lt ht
    rw [rcb_set hsl, if_neg (by omega)]
  · have := hS.idle_lt ht
    rw [rcb_set hsl, if_neg (by omega)]
    exact h.rg t ht
theorem Rel.swap {S : LS} {C : List RC} {P M s : Nat} {key : Int} (h : Rel S C P) (hS : S.Ok M) (hs : s ∈ S.idle) : Rel (({ S with mks := S.ks.set s key, ks := S.ks.set s key } : LS).take s) (C.set s ⟨true, key, 1, 0⟩) P := by
  have hsk := hS.idle_lt hs
  have hsl : s < C.length := by rw [h.len]; have := hS.kl; omega
  have hsr : s < S.rs.length := by rw [hS.rl]; exact hsk
  have hr0 := (hS.im s).1 hs
  refine ⟨by rw [List.length_set]; exact h.len, fun t ht => ?_, fun t h1 h2 => ?_, ?_, fun t ht => ?_⟩
  · rw [rcb_set hsl]
    have ht' : t < S.ks.length := by simpa [LS.take] using ht
    by_cases e : t = s
    · subst e
      rw [if_pos rfl]
      exact ⟨rfl, by simp only [LS.take]; rw [List.getElem?_set_self hsk], by simp only [LS.take]; rw [List.getElem?_set_self hsr, getD_of hr0]⟩
    · rw [if_neg e]
      refine ⟨(h.us t ht').1, ?_, ?_⟩
      · simp only [LS.take]; rw [List.getElem?_set_ne (fun x => e x.symm)]; exact (h.us t ht').2.1
      · simp only [LS.take]; rw [List.getElem?_set_ne (fun x => e x.symm)]; exact (h.us t ht').2.2
  · rw [List.length_set] at h2
    have h1' : S.ks.length ≤ t := by simpa [LS.take] using h1
    rw [rcb_set hsl, if_neg (by omega)]
    exact h.fr t h1' h2
  · have key' : ∀ t ∈ S.idle.erase s, rcb (C.set s ⟨true, key, 1, 0⟩) t = rcb C t := fun t ht => by
      have := (hS.id.mem_erase_iff.1 ht).1
      rw [rcb_set hsl, if_neg this]
    exact pw_congr (h.od.sublist List.erase_sublist) fun t ht => by rw [key' t ht]
  · have ht1 := hS.id.mem_erase_iff.1 ht
    rw [rcb_set hsl, if_neg ht1.1]
    exact h.rg t ht1.2
theorem Rel.put {S : LS} {C : List RC} {P M s r : Nat} (h : Rel S C P) (hS : S.Ok M) (hr : S.rs[s]? = some (r + 1)) : Rel (S.put s) (C.set s { rcb C s with refs := r, given := P + 1 }) (P + 1) := by
  have hsr : s < S.rs.length := (List.getElem?_eq_some_iff.1 hr).1
  have hsk : s < S.ks.length := by rw [← hS.rl]; exact hsr
  have hsl : s < C.length := by rw [h.len]; have := hS.kl; omega
  have hni : s ∉ S.idle := fun e => by rw [(hS.im s).1 e] at hr; simp at hr
  have old : ∀ t ∈ S.idle, rcb (C.set s { rcb C s with refs := r, given := P + 1 }) t = rcb C t := fun t ht => by
    have hts : t ≠ s := fun e => hni (e ▸ ht)
    rw [rcb_set hsl, if_neg hts]
  refine ⟨by rw [List.length_set]; exact h.len, fun t ht => ?_, fun t h1 h2 => ?_, ?_, fun t ht => ?_⟩
  · rw [rcb_set hsl]
    by_cases e : t = s
    · subst e
      rw [if_pos rfl]
      exact ⟨(h.us t hsk).1, (h.us t hsk).2.1, by simp only [LS.put]; rw [List.getElem?_set_self hsr, getD_of hr]; rfl⟩
    · rw [if_neg e]
      refine ⟨(h.us t ht).1, (h.us t ht).2.1, ?_⟩
      simp only [LS.put]; rw [List.getElem?_set_ne (fun x => e x.symm)]; exact (h.us t ht).2.2
  · rw [List.length_set] at h2
    have h1' : S.ks.length ≤ t := h1
    rw [rcb_set hsl, if_neg (by omega)]
    exact h.fr t h1' h2
  · have base := pw_congr (g := fun t => (rcb (C.set s { rcb C s with refs := r, given := P + 1 }) t).given) h.od fun t ht => by rw [old t ht]
    simp only [LS.put]
    split
    · rw [List.pairwise_append]
      refine ⟨base, by simp, fun a ha b hb => ?_⟩
      simp only [List.mem_singleton] at hb
      subst hb
      rw [old a ha, rcb_set hsl, if_pos rfl]
      have := (h.rg a ha).2
      simp only []
      omega
    · exact base
  · have hcase : t ∈ S.idle ∨ t = s := by
      simp only [LS.put] at ht
      split at ht
      · simpa using ht
      · exact .inl ht
    rcases hcase with ht | rfl
    · rw [old t ht]
      have := h.rg t ht
      omega
    · rw [rcb_set hsl, if_pos rfl]
      simp only []
      omega
end Go.Proofs.Ythkkinmegileaaa
