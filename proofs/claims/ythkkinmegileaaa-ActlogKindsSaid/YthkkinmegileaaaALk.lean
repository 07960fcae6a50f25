import Derived.Test.YthkkinmegileaaaALruA
namespace Go.Proofs.Ythkkinmegileaaa
open Go.RowKit Go.Sort
set_option linter.unusedVariables false
set_option linter.unusedSimpArgs false
set_option maxRecDepth 20000

theorem erase_order : ∀ {l : List Nat} {s : Nat} (hd : l.Nodup) {a b x y : Nat} (hab : a < b) (hx : (l.erase s)[a]? = some x) (hy : (l.erase s)[b]? = some y), ∃ c d : Nat, c < d ∧ l[c]? = some x ∧ l[d]? = some y
  | [], s, _, a, b, x, y, _, hx, _ => by simp at hx
  | z :: r, s, hd, a, b, x, y, hab, hx, hy => by
    by_cases hz : z = s
    · subst hz
      rw [List.erase_cons_head] at hx hy
      exact ⟨a + 1, b + 1, by omega, by simpa using hx, by simpa using hy⟩
    · rw [List.erase_cons_tail (by simpa using hz)] at hx hy
      obtain ⟨b', rfl⟩ : ∃ b', b = b' + 1 := ⟨b - 1, by omega⟩
      have hy' : (r.erase s)[b']? = some y := by simpa using hy
      cases a with
      | zero =>
        have e : z = x := by simpa using hx
        subst e
        have hm : y ∈ r := List.mem_of_mem_erase (List.mem_of_getElem? hy')
        obtain ⟨d, hd'⟩ := List.getElem?_of_mem hm
        exact ⟨0, d + 1, by omega, rfl, by simpa using hd'⟩
      | succ a' =>
        obtain ⟨c, d, h1, h2, h3⟩ := erase_order (List.nodup_cons.1 hd).2 (show a' < b' by omega) (by simpa using hx) hy'
        exact ⟨c + 1, d + 1, by omega, by simpa using h2, by simpa using h3⟩
theorem filter_one {α : Type} {f : α → Bool} : ∀ {l : List α} {j : Nat} {x : α} (hj : l[j]? = some x), (∀ (a : Nat) (u : α), l[a]? = some u → (f u = false ↔ a = j)) → (l.filter f).length + 1 = l.length
  | [], j, x, hj, _ => by simp at hj
  | z :: r, 0, x, hj, h => by
    have h0 := (h 0 z rfl).2 rfl
    rw [List.filter_cons_of_neg (by rw [h0]; decide)]
    have : r.filter f = r := List.filter_eq_self.2 fun u hu => by
      obtain ⟨a, ha⟩ := List.getElem?_of_mem hu
      have := h (a + 1) u (by simpa using ha)
      by_cases e : f u = true
      · exact e
      · have := this.1 (by simpa using e)
        omega
    rw [this]
    simp
  | z :: r, j + 1, x, hj, h => by
    have h0 : f z = true := by
      have := h 0 z rfl
      by_cases e : f z = true
      · exact e
      · have := this.1 (by simpa using e)
        omega
    rw [List.filter_cons_of_pos h0]
    have := filter_one (f := f) (l := r) (j := j) (x := x) (by simpa using hj) fun a u hu => by
      have := h (a + 1) u (by simpa using hu)
      rw [this]
      omega
    simp only [List.length_cons]
    omega
/-- a line of the law's book -/
structure Us where
  key : Int
  got : Nat
  back : Nat
  at_ : Nat
/-- the book says what the Lru does -/
structure Lk (S : LS) (L : List Us) (i : Nat) : Prop where
  len : L.length = S.ks.length
  kd : ∀ (a b : Nat) (u v : Us), L[a]? = some u → L[b]? = some v → u.key = v.key → a = b
  ex : ∀ (s : Nat) (k : Int), S.ks[s]? = some k → ∃ u ∈ L, u.key = k
  fr : ∀ u ∈ L, ∃ s : Nat, S.ks[s]? = some u.key ∧ S.rs[s]? = some (u.got - u.back) ∧ u.back ≤ u.got
  od : ∀ (a b s t : Nat) (u v : Us), a < b → S.idle[a]? = some s → S.idle[b]? = some t → u ∈ L → v ∈ L → S.ks[s]? = some u.key → S.ks[t]? = some v.key → u.at_ < v.at_
  tm : ∀ u ∈ L, u.got = u.back → u.at_ < i
  gb : ∀ u ∈ L, u.got ≤ i ∧ u.at_ ≤ i
theorem Lk.uniq {S : LS} {L : List Us} {i : Nat} (h : Lk S L i) {u v : Us} (hu : u ∈ L) (hv : v ∈ L) (e : u.key = v.key) : u = v := by
  obtain ⟨a, ha⟩ := List.getElem?_of_mem hu
  obtain ⟨b, hb⟩ := List.getElem?_of_mem hv
  have := h.kd a b u v ha hb e
  subst this
  rw [ha] at hb
  exact Option.some.inj hb
theorem Lk.start (slots : Nat) : Lk ⟨slots, [], [], [], []⟩ [] 0 where
  len := rfl
  kd := fun a b u v h => by simp at h
  ex := fun s k h => by simp at h
  fr := fun u h => by simp at h
  od := fun a b s t u v _ h => by simp at h
  tm := fun u h => by simp at h
  gb := fun u h => by simp at h
theorem Lk.mem {S : LS} {L : List Us} {i : Nat} (h : Lk S L i) {key : Int} : key ∈ S.ks ↔ ∃ u ∈ L, u.key = key := by
  constructor
  · intro hm
    obtain ⟨s, hs⟩ := List.getElem?_of_mem hm
    exact h.ex s key hs
  · rintro ⟨u, hu, rfl⟩
    obtain ⟨s, hs, -⟩ := h.fr u hu
    exact List.mem_of_getElem? hs
theorem Lk.next {S : LS} {L : List Us} {i : Nat} (h : Lk S L i) : Lk S L (i + 1) := ⟨h.len, h.kd, h.ex, h.fr, h.od, fun u hu e => by have := h.tm u hu e; omega, fun u hu => by have := h.gb u hu; omega⟩
theorem mem_set_cases {α : Type} {L : List α} {j : Nat} {x y : α} (h : y ∈ L.set j x) : y = x ∨ ∃ b, b ≠ j ∧ L[b]? = some y := by
  obtain ⟨b, hb⟩ := List.getElem?_of_mem h
  by_cases e : b = j
  · subst e
    have hl : b < L.length := by
      have := (List.getElem?_eq_some_iff.1 hb).1
      simpa using this
    rw [List.getElem?_set_self hl] at hb
    exact .inl (Option.some.inj hb).symm
  · rw [List.getElem?_set_ne (fun x => e x.symm)] at hb
    exact .inr ⟨b, e, hb⟩
/-- a line is changed, its key is not -/
theorem Lk.line {S S' : LS} {L : List Us} {i j s : Nat} {u u' : Us} {M : Nat} (h : Lk S L i) (hS : S.Ok M) (hj : L[j]? = some u) (hk : u'.key = u.key) (hs : S.ks[s]? = some u.key) (e1 : S'.ks = S.ks) (hr : S'.rs = S.rs.set s (u'.got - u'.back)) (hb : u'.back ≤ u'.got) (hg : u'.got ≤ i + 1 ∧ u'.at_ ≤ i + 1)
    (ht : u'.got = u'.back → u'.at_ < i + 1)
    (ho : ∀ (a b x y : Nat) (p q : Us), a < b → S'.idle[a]? = some x → S'.idle[b]? = some y → p ∈ L.set j u' → q ∈ L.set j u' → S.ks[x]? = some p.key → S.ks[y]? = some q.key → p.at_ < q.at_) : Lk S' (L.set j u') (i + 1) := by
  have hjl : j < L.length := (List.getElem?_eq_some_iff.1 hj).1
  have hsl : s < S.rs.length := by rw [hS.rl]; exact (List.getElem?_eq_some_iff.1 hs).1
  have hget : ∀ (b : Nat) (v : Us), (L.set j u')[b]? = some v → ∃ v0, L[b]? = some v0 ∧ v0.key = v.key ∧ (b ≠ j → v0 = v) := fun b v hv => by
    by_cases e : b = j
    · subst e
      rw [List.getElem?_set_self hjl] at hv
      have := Option.some.inj hv
      subst this
      exact ⟨u, hj, hk.symm, fun h => absurd rfl h⟩
    · rw [List.getElem?_set_ne (fun x => e x.symm)] at hv
      exact ⟨v, hv, rfl, fun _ => rfl⟩
  refine ⟨by rw [List.length_set, e1]; exact h.len, fun a b x y ha hb e => ?_, fun t k hk' => ?_, fun v hv => ?_, ?_, fun v hv e => ?_, fun v hv => ?_⟩
  · obtain ⟨x0, h1, h2, -⟩ := hget a x ha
    obtain ⟨y0, h3, h4, -⟩ := hget b y hb
    exact h.kd a b x0 y0 h1 h3 (h2.trans (e.trans h4.symm))
  · rw [e1] at hk'
    obtain ⟨v, hv, hvk⟩ := h.ex t k hk'
    obtain ⟨b, hb⟩ := List.getElem?_of_mem hv
    by_cases e : b = j
    · subst e
      rw [hj] at hb
      have := Option.some.inj hb
      subst this
      exact ⟨u', List.mem_of_getElem? (i := b) (by rw [List.getElem?_set_self hjl]), hk.trans hvk⟩
    · exact ⟨v, List.mem_of_getElem? (i := b) (by rw [List.getElem?_set_ne (fun x => e x.symm)]; exact hb), hvk⟩
  · rcases mem_set_cases hv with rfl | ⟨b, hbj, hb⟩
    · exact ⟨s, by rw [e1, hk]; exact hs, by rw [hr, List.getElem?_set_self hsl], hb⟩
    · obtain ⟨t, h1, h2, h3⟩ := h.fr v (List.mem_of_getElem? hb)
      have hts : t ≠ s := fun e => by
        subst e
        rw [hs] at h1
        exact hbj (h.kd b j v u hb hj (Option.some.inj h1).symm)
      exact ⟨t, by rw [e1]; exact h1, by rw [hr, List.getElem?_set_ne (fun e => hts e.symm)]; exact h2, h3⟩
  · intro a b x y p q hab hx hy hp hq h1 h2
    rw [e1] at h1 h2
    exact ho a b x y p q hab hx hy hp hq h1 h2
  · rcases mem_set_cases hv with rfl | ⟨b, hbj, hb⟩
    · exact ht e
    · have := h.tm v (List.mem_of_getElem? hb) e; omega
  · rcases mem_set_cases hv with rfl | ⟨b, hbj, hb⟩
    · exact hg
    · have := h.gb v (List.mem_of_getElem? hb); omega
/-- a reference more of a key that is there -/
theorem Lk.take {S : LS} {L : List Us} {i j s : Nat} {u : Us} {M : Nat} (h : Lk S L i) (hS : S.Ok M) (hj : L[j]? = some u) (hs : S.ks[s]? = some u.key) : Lk (S.take s) (L.set j { u with got := u.got + 1 }) (i + 1) := by
  have hu := List.mem_of_getElem? hj
  obtain ⟨t, h1, h2, h3⟩ := h.fr u hu
  have hts := nodup_inj hS.kd h1 hs
  subst hts
  have hgb := h.gb u hu
  refine h.line hS hj rfl hs rfl ?_ (by simp only []; omega) (by simp only []; omega) (fun e => by simp only [] at e; omega) ?_
  · simp only [LS.take, getD_of h2]
    congr 1
    omega
  · intro a b x y p q hab hx hy hp hq hkx hky
    have hid : ∀ (c z : Nat), (S.take t).idle[c]? = some z → z ≠ t ∧ z ∈ S.idle := fun c z hz => by
      have := List.mem_of_getElem? hz
      simp only [LS.take] at this
      exact hS.id.mem_erase_iff.1 this
    have key : ∀ (z : Nat) (r : Us), z ≠ t → S.ks[z]? = some r.key → r ∈ L.set j { u with got := u.got + 1 } → r ∈ L := fun z r hz hkz hr => by
      rcases mem_set_cases hr with rfl | ⟨c, _, hc⟩
      · exact absurd (nodup_inj hS.kd hkz h1) hz
      · exact List.mem_of_getElem? hc
    obtain ⟨a1, a2⟩ := hid a x hx
    obtain ⟨b1, b2⟩ := hid b y hy
    -- the order of the old list
    simp only [LS.take] at hx hy
    obtain ⟨c, d, hcd, hc, hd⟩ := erase_order hS.id hab hx hy
    exact h.od c d x y p q hcd hc hd (key x p a1 hkx hp) (key y q b1 hky hq) hkx hky
/-- a reference given back -/
theorem Lk.put {S : LS} {L : List Us} {i j s r : Nat} {u : Us} {M : Nat} (h : Lk S L i) (hS : S.Ok M) (hj : L[j]? = some u) (hs : S.ks[s]? = some u.key) (hr : S.rs[s]? = some (r + 1)) : Lk (S.put s) (L.set j { u with back := u.back + 1, at_ := i }) (i + 1) ∧ u.back < u.got := by
  have hu := List.mem_of_getElem? hj
  obtain ⟨t, h1, h2, h3⟩ := h.fr u hu
  have hts := nodup_inj hS.kd h1 hs
  subst hts
  have hgb := h.gb u hu
  rw [hr] at h2
  have e2 := Option.some.inj h2
  have hlt : u.back < u.got := by omega
  refine ⟨h.line hS hj rfl hs rfl ?_ (by simp only []; omega) (by simp only []; omega) (fun e => by simp only []; omega) ?_, hlt⟩
  · simp only [LS.put, getD_of hr]
    congr 1
    omega
  · intro a b x y p q hab hx hy hp hq hkx hky
    have hni : t ∉ S.idle := fun e => by rw [(hS.im t).1 e] at hr; simp at hr
    have hidle : ∀ (c z : Nat), (S.put t).idle[c]? = some z → (S.idle[c]? = some z ∧ z ≠ t) ∨ (c = S.idle.length ∧ z = t) := fun c z hz => by
      simp only [LS.put] at hz
      have keyc : S.idle[c]? = some z → (S.idle[c]? = some z ∧ z ≠ t) := fun e => ⟨e, fun e2 => hni (e2 ▸ List.mem_of_getElem? e)⟩
      split at hz
      · by_cases hc : c < S.idle.length
        · rw [List.getElem?_append_left hc] at hz
          exact .inl (keyc hz)
        · rw [List.getElem?_append_right (by omega)] at hz
          by_cases hc2 : c - S.idle.length = 0
          · rw [hc2] at hz
            have : t = z := by simpa using hz
            exact .inr ⟨by omega, this.symm⟩
          · rw [List.getElem?_eq_none (by simp; omega)] at hz
            cases hz
      · exact .inl (keyc hz)
    have old : ∀ (z : Nat) (w : Us), z ≠ t → S.ks[z]? = some w.key → w ∈ L.set j { u with back := u.back + 1, at_ := i } → w ∈ L := fun z w hz hkz hw => by
      rcases mem_set_cases hw with rfl | ⟨c, _, hc⟩
      · exact absurd (nodup_inj hS.kd hkz h1) hz
      · exact List.mem_of_getElem? hc
    rcases hidle a x hx with ⟨ax, hxt⟩ | ⟨ax, hxt⟩
    · have hp' := old x p hxt hkx hp
      rcases hidle b y hy with ⟨bx, hyt⟩ | ⟨bx, hyt⟩
      · exact h.od a b x y p q hab ax bx hp' (old y q hyt hky hq) hkx hky
      · subst hyt
        have hq' : q.at_ = i := by
          rcases mem_set_cases hq with rfl | ⟨c, hcj, hc⟩
          · rfl
          · rw [h1] at hky
            exact absurd (h.kd c j q u hc hj (Option.some.inj hky).symm) hcj
        obtain ⟨z, z1, z2, z3⟩ := h.fr p hp'
        have ez := nodup_inj hS.kd z1 hkx
        subst ez
        rw [(hS.im z).1 (List.mem_of_getElem? ax)] at z2
        have := h.tm p hp' (by have := Option.some.inj z2; omega)
        omega
    · rcases hidle b y hy with ⟨bx, hyt⟩ | ⟨bx, hyt⟩
      · have := (List.getElem?_eq_some_iff.1 bx).1; omega
      · omega
/-- a key more -/
theorem Lk.add {S : LS} {L : List Us} {i : Nat} {key : Int} {M : Nat} (h : Lk S L i) (hS : S.Ok M) (hn : key ∉ S.ks) : Lk (S.add key) (L ++ [⟨key, 1, 0, 0⟩]) (i + 1) := by
  have hrl := hS.rl
  have hget : ∀ (a : Nat) (u : Us), (L ++ [⟨key, 1, 0, 0⟩])[a]? = some u → L[a]? = some u ∨ (a = L.length ∧ u = ⟨key, 1, 0, 0⟩) := fun a u hu => by
    by_cases ha : a < L.length
    · rw [List.getElem?_append_left ha] at hu; exact .inl hu
    · rw [List.getElem?_append_right (by omega)] at hu
      by_cases hc : a - L.length = 0
      · rw [hc] at hu
        exact .inr ⟨by omega, by simpa using hu.symm⟩
      · rw [List.getElem?_eq_none (by simp; omega)] at hu; cases hu
  have hnk : ∀ u ∈ L, u.key ≠ key := fun u hu e => hn (h.mem.2 ⟨u, hu, e⟩)
  have hmem : ∀ u, u ∈ L ++ [⟨key, 1, 0, 0⟩] → u ∈ L ∨ u = ⟨key, 1, 0, 0⟩ := fun u hu => by simpa using hu
  have hks : ∀ (s : Nat) (k : Int), (S.ks ++ [key])[s]? = some k → k ≠ key → S.ks[s]? = some k := fun s k hs hk => by
    by_cases ha : s < S.ks.length
    · rw [List.getElem?_append_left ha] at hs; exact hs
    · rw [List.getElem?_append_right (by omega)] at hs
      by_cases hc : s - S.ks.length = 0
      · rw [hc] at hs
        exact absurd (by simpa using hs.symm) hk
      · rw [List.getElem?_eq_none (by simp; omega)] at hs; cases hs
  refine ⟨by simp [LS.add, h.len], fun a b u v ha hb e => ?_, fun s k hs => ?_, fun u hu => ?_, fun a b s t u v hab hs ht hu hv hks1 hks2 => ?_, fun u hu e => ?_, fun u hu => ?_⟩
  · rcases hget a u ha with ha | ⟨ha, rfl⟩
    · rcases hget b v hb with hb | ⟨hb, rfl⟩
      · exact h.kd a b u v ha hb e
      · exact absurd e (hnk u (List.mem_of_getElem? ha))
    · rcases hget b v hb with hb | ⟨hb, rfl⟩
      · exact absurd e.symm (hnk v (List.mem_of_getElem? hb))
      · omega
  · simp only [LS.add] at hs
    by_cases hk : k = key
    · exact ⟨⟨key, 1, 0, 0⟩, by simp, hk.symm⟩
    · obtain ⟨u, hu, e⟩ := h.ex s k (hks s k hs hk)
      exact ⟨u, by simp [hu], e⟩
  · rcases hmem u hu with hu | rfl
    · obtain ⟨s, h1, h2, h3⟩ := h.fr u hu
      have hsl := (List.getElem?_eq_some_iff.1 h1).1
      exact ⟨s, by simp only [LS.add]; rw [List.getElem?_append_left hsl]; exact h1, by simp only [LS.add]; rw [List.getElem?_append_left (by omega)]; exact h2, h3⟩
    · exact ⟨S.ks.length, by simp [LS.add], by simp [LS.add, ← hrl], by simp⟩
  · have old : ∀ (z : Nat) (w : Us), z ∈ S.idle → (S.ks ++ [key])[z]? = some w.key → w ∈ L ++ [⟨key, 1, 0, 0⟩] → w ∈ L ∧ S.ks[z]? = some w.key := fun z w hz hkz hw => by
      have hzl : z < S.ks.length := by rw [← hrl]; exact (List.getElem?_eq_some_iff.1 ((hS.im z).1 hz)).1
      rw [List.getElem?_append_left hzl] at hkz
      rcases hmem w hw with hw | rfl
      · exact ⟨hw, hkz⟩
      · exact absurd (List.mem_of_getElem? hkz) hn
    obtain ⟨u1, u2⟩ := old s u (List.mem_of_getElem? hs) hks1 hu
    obtain ⟨v1, v2⟩ := old t v (List.mem_of_getElem? ht) hks2 hv
    exact h.od a b s t u v hab hs ht u1 v1 u2 v2
  · rcases hmem u hu with hu | rfl
    · have := h.tm u hu e; omega
    · simp at e
  · rcases hmem u hu with hu | rfl
    · have := h.gb u hu; omega
    · simp
/-- a key goes for another -/
theorem Lk.swap {S : LS} {L : List Us} {i s : Nat} {r : List Nat} {key old : Int} {M : Nat} (h : Lk S L i) (hS : S.Ok M) (hn : key ∉ S.ks) (hid : S.idle = s :: r) (ho : S.ks[s]? = some old) :
    Lk (({ S with mks := S.ks.set s key, ks := S.ks.set s key } : LS).take s) (L.filter (fun u => decide (u.key ≠ old)) ++ [⟨key, 1, 0, 0⟩]) (i + 1) := by
  have hsl := (List.getElem?_eq_some_iff.1 ho).1
  have hsr : s < S.rs.length := by rw [hS.rl]; exact hsl
  have hr0 : S.rs[s]? = some 0 := (hS.im s).1 (by rw [hid]; simp)
  have hko : key ≠ old := fun e => hn (e ▸ List.mem_of_getElem? ho)
  have hnk : ∀ u ∈ L, u.key ≠ key := fun u hu e => hn (h.mem.2 ⟨u, hu, e⟩)
  obtain ⟨uo, huo, euo⟩ := h.ex s old ho
  obtain ⟨jo, hjo⟩ := List.getElem?_of_mem huo
  have hmem : ∀ u, u ∈ L.filter (fun u => decide (u.key ≠ old)) ++ [⟨key, 1, 0, 0⟩] ↔ (u ∈ L ∧ u.key ≠ old) ∨ u = ⟨key, 1, 0, 0⟩ := fun u => by simp
  have hlenf : (L.filter (fun u => decide (u.key ≠ old))).length + 1 = L.length := filter_one hjo fun a u hu => by
    constructor
    · intro e
      by_cases hk : u.key = old
      · exact h.kd a jo u uo hu hjo (hk.trans euo.symm)
      · simp [hk] at e
    · rintro rfl
      rw [hjo] at hu
      have := Option.some.inj hu
      subst this
      simp [euo]
  have hTk : (({ S with mks := S.ks.set s key, ks := S.ks.set s key } : LS).take s).ks = S.ks.set s key := rfl
  have hTr : (({ S with mks := S.ks.set s key, ks := S.ks.set s key } : LS).take s).rs = S.rs.set s 1 := by simp only [LS.take, getD_of hr0]
  have hTi : (({ S with mks := S.ks.set s key, ks := S.ks.set s key } : LS).take s).idle = r := by simp [LS.take, hid]
  have hsr2 : s ∉ r := by have := hS.id; rw [hid] at this; exact (List.nodup_cons.1 this).1
  refine ⟨by rw [hTk, List.length_set, List.length_append, ← h.len]; simpa using hlenf, ?_, fun t k ht => ?_, fun u hu => ?_, fun a b x y u v hab hx hy hu hv h1 h2 => ?_, fun u hu e => ?_, fun u hu => ?_⟩
  · have hnd : List.Pairwise (fun u v : Us => u.key ≠ v.key) (L.filter (fun u : Us => decide (u.key ≠ old)) ++ [(⟨key, 1, 0, 0⟩ : Us)]) := by
      rw [List.pairwise_append]
      refine ⟨List.Pairwise.filter _ (List.pairwise_iff_getElem.2 fun a b ha hb hab e => ?_), by simp, fun u hu v hv => ?_⟩
      · have := h.kd a b _ _ (List.getElem?_eq_getElem ha) (List.getElem?_eq_getElem hb) e
        omega
      · simp only [List.mem_singleton] at hv
        rw [hv]
        exact hnk u (List.mem_filter.1 hu).1
    intro a b u v ha hb e
    obtain ⟨h1, h2⟩ := List.getElem?_eq_some_iff.1 ha
    obtain ⟨h3, h4⟩ := List.getElem?_eq_some_iff.1 hb
    have hp := List.pairwise_iff_getElem.1 hnd
    rcases Nat.lt_trichotomy a b with hh | hh | hh
    · exact absurd (by rw [h2, h4]; exact e) (hp a b h1 h3 hh)
    · exact hh
    · exact absurd (by rw [h2, h4]; exact e.symm) (hp b a h3 h1 hh)
  · rw [hTk] at ht
    by_cases e : t = s
    · subst e
      rw [List.getElem?_set_self hsl] at ht
      exact ⟨⟨key, 1, 0, 0⟩, (hmem _).2 (.inr rfl), Option.some.inj ht⟩
    · rw [List.getElem?_set_ne (fun x => e x.symm)] at ht
      obtain ⟨u, hu, eu⟩ := h.ex t k ht
      refine ⟨u, (hmem u).2 (.inl ⟨hu, fun e2 => ?_⟩), eu⟩
      rw [← eu, e2] at ht
      exact e (nodup_inj hS.kd ht ho)
  · rcases (hmem u).1 hu with ⟨hu, hne⟩ | rfl
    · obtain ⟨t, h1, h2, h3⟩ := h.fr u hu
      have hts : t ≠ s := fun e => by
        subst e
        rw [ho] at h1
        exact hne (Option.some.inj h1).symm
      exact ⟨t, by rw [hTk, List.getElem?_set_ne (fun x => hts x.symm)]; exact h1, by rw [hTr, List.getElem?_set_ne (fun x => hts x.symm)]; exact h2, h3⟩
    · exact ⟨s, by rw [hTk, List.getElem?_set_self hsl], by rw [hTr, List.getElem?_set_self hsr]; rfl, by simp⟩
  · rw [hTi] at hx hy
    rw [hTk] at h1 h2
    have keyz : ∀ (c z : Nat) (w : Us), r[c]? = some z → (S.ks.set s key)[z]? = some w.key → w ∈ L.filter (fun u => decide (u.key ≠ old)) ++ [⟨key, 1, 0, 0⟩] → w ∈ L ∧ S.ks[z]? = some w.key := fun c z w hz hkz hw => by
      have hzs : z ≠ s := fun e => hsr2 (e ▸ List.mem_of_getElem? hz)
      rw [List.getElem?_set_ne (fun x => hzs x.symm)] at hkz
      rcases (hmem w).1 hw with ⟨hw, -⟩ | rfl
      · exact ⟨hw, hkz⟩
      · exact absurd (List.mem_of_getElem? hkz) hn
    obtain ⟨u1, u2⟩ := keyz a x u hx h1 hu
    obtain ⟨v1, v2⟩ := keyz b y v hy h2 hv
    exact h.od (a + 1) (b + 1) x y u v (by omega) (by rw [hid]; simpa using hx) (by rw [hid]; simpa using hy) u1 v1 u2 v2
  · rcases (hmem u).1 hu with ⟨hu, -⟩ | rfl
    · have := h.tm u hu e; omega
    · simp at e
  · rcases (hmem u).1 hu with ⟨hu, -⟩ | rfl
    · have := h.gb u hu; omega
    · simp
/-- who has been without a reference for longest -/
theorem Lk.oldest {S : LS} {L : List Us} {i s : Nat} {r : List Nat} {old : Int} {M : Nat} (h : Lk S L i) (hS : S.Ok M) (hid : S.idle = s :: r) (ho : S.ks[s]? = some old) {u : Us} (hu : u ∈ L) (he : u.got = u.back) (hm : ∀ v ∈ L, v.got = v.back → u.at_ ≤ v.at_) : u.key = old := by
  obtain ⟨uo, huo, euo⟩ := h.ex s old ho
  obtain ⟨t, h1, h2, h3⟩ := h.fr u hu
  obtain ⟨t', h1', h2', h3'⟩ := h.fr uo huo
  rw [euo] at h1'
  have := nodup_inj hS.kd h1' ho
  subst this
  rw [(hS.im t').1 (by rw [hid]; simp)] at h2'
  have hu0 : uo.got = uo.back := by have := Option.some.inj h2'; omega
  have hti : t ∈ S.idle := (hS.im t).2 (by rw [h2]; congr 1; omega)
  obtain ⟨c, hc⟩ := List.getElem?_of_mem hti
  cases c with
  | zero =>
    rw [hid] at hc
    have : t' = t := by simpa using hc
    subst this
    rw [ho] at h1
    exact (Option.some.inj h1).symm
  | succ c =>
    have h9 := h.od 0 (c + 1) t' t uo u (by omega) (by rw [hid]; rfl) hc huo hu (by rw [euo]; exact ho) h1
    have := hm uo huo hu0
    omega
theorem LS.Ok.keys_len {S : LS} {M : Nat} (hS : S.Ok M) : S.keys.length = S.ks.length := by
  have hp : (S.idle ++ (List.range S.ks.length).filter (fun s => decide (0 < S.rs.getD s 0))).Perm (List.range S.ks.length) := by
    refine (List.perm_ext_iff_of_nodup ?_ List.nodup_range).2 fun s => ?_
    · rw [List.nodup_append]
      refine ⟨hS.id, List.Pairwise.filter _ List.nodup_range, fun a ha b hb e => ?_⟩
      subst e
      have h1 := (hS.im a).1 ha
      have h2 := (List.mem_filter.1 hb).2
      rw [getD_of h1] at h2
      simp at h2
    · rw [List.mem_append, hS.im s, List.mem_filter, List.mem_range]
      constructor
      · rintro (h1 | h1)
        · rw [← hS.rl]; exact (List.getElem?_eq_some_iff.1 h1).1
        · exact h1.1
      · intro h1
        rw [← hS.rl] at h1
        have h2 := List.getElem?_eq_getElem h1
        by_cases h3 : S.rs[s] = 0
        · exact .inl (by rw [h2, h3])
        · refine .inr ⟨by rw [← hS.rl]; exact h1, ?_⟩
          rw [getD_of h2]
          simp; omega
  have := hp.length_eq
  rw [List.length_append, List.length_range] at this
  unfold LS.keys
  rw [List.length_append, List.length_map, List.length_map]
  exact this
end Go.Proofs.Ythkkinmegileaaa
