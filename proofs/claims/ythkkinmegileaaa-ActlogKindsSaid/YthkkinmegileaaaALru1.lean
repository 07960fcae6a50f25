import Derived.Test.YthkkinmegileaaaARow
import Derived.Lib.OwnBridge
namespace Go.Proofs.Ythkkinmegileaaa
open Go.RowKit
set_option linter.unusedVariables false
set_option linter.unusedSimpArgs false
set_option maxRecDepth 20000

def iV (z : Int) : Value := .int .i64 z
def nV (n : Nat) : Value := .int .i64 (n : Int)
def kL (z : Int) : Lit := .int .i64 z
def i64ok (z : Int) : Prop := -9223372036854775808 ≤ z ∧ z ≤ 9223372036854775807
theorem wf_i64 {z : Int} (h : i64ok z) : (Lit.int .i64 z).wf = true := by
  unfold i64ok at h
  simp [Lit.wf, IntKind.min, IntKind.max, IntKind.signed, IntKind.bits]
  omega
theorem kInt : Maps.Keyed Try.prog 3 := Maps.int_keyed Try.underlying3
theorem keyI {z : Int} (h : i64ok z) : keyOf Try.prog 3 (.int .i64 z) = some (kL z) := Maps.keyOf_int_mk Try.underlying3 (wf_i64 h)
theorem kL_inj {a b : Int} (h : kL a = kL b) : a = b := by simpa [kL] using h
theorem kL_ne {a b : Int} (h : a ≠ b) : kL a ≠ kL b := fun e => h (kL_inj e)
theorem ownsMap_tight {H : Type} {w : World} {P : Program} {k : TypeId} {R : Value → Option (DataW H × List MemPlace)} {b n m : Nat} {D : DataW H} (h : w.ownsMap P k R b n D) (hm : Maps.size D ≤ m) : w.ownsMap P k R b m D := by
  obtain ⟨es, clock, hb, F, hs, hD⟩ := h
  refine ⟨es, clock, hb, F, ?_, hD⟩
  have : Maps.size D = es.size := by rw [hD]; simp [Maps.size, length_sorted]
  omega
theorem nodup_inj {α : Type} {l : List α} (hd : l.Nodup) {i j : Nat} {x : α} (hi : l[i]? = some x) (hj : l[j]? = some x) : i = j := by
  obtain ⟨h1, h2⟩ := List.getElem?_eq_some_iff.1 hi
  obtain ⟨h3, h4⟩ := List.getElem?_eq_some_iff.1 hj
  have hp := List.pairwise_iff_getElem.1 hd
  rcases Nat.lt_trichotomy i j with h | h | h
  · exact absurd (h2.trans h4.symm) (hp i j h1 h3 h)
  · exact h
  · exact absurd (h4.trans h2.symm) (hp j i h3 h1 h)
/-- the map of the keys to their slots -/
def MP (w : World) (bm : Nat) (ks : List Int) : Prop :=
  ∃ D : DataW Unit, w.ownsMap Try.prog 3 (plainElem Try.prog 3) bm 16 D ∧ Maps.size D = ks.length ∧
    (∀ (i : Nat) (key : Int), ks[i]? = some key → Maps.has D (kL key) = true ∧ ∀ z, D.atKey (kL key) z = .lit (.int .i64 (i : Int))) ∧ ∀ key, key ∉ ks → Maps.has D (kL key) = false
theorem isKeyLit (z : Int) : WideAt.IsKeyLit (kL z) := by simp [WideAt.IsKeyLit, kL]
theorem MP.kept {w w' : World} {bm : Nat} {ks : List Int} (h : MP w bm ks) (hk : w'.heap[bm]? = w.heap[bm]?) : MP w' bm ks := by
  obtain ⟨D, ⟨es, clock, hb, r⟩, h2⟩ := h
  exact ⟨D, ⟨es, clock, hk.trans hb, r⟩, h2⟩
theorem MP.lt {w : World} {bm : Nat} {ks : List Int} (h : MP w bm ks) : bm < w.heap.size := by
  obtain ⟨D, h, -⟩ := h
  exact h.lt
theorem MP.neCells {w : World} {bm g : Nat} {ks : List Int} {cs : Array Value} {t : TypeId} (h : MP w bm ks) (hg : w.heap[g]? = some (.cells cs t (0, 0))) : g ≠ bm := fun e => by
  obtain ⟨D, ⟨es, clock, hb, r⟩, h2⟩ := h
  rw [e, hb] at hg
  cases hg
theorem MP.new (w : World) : MP (w.alloc (.map #[] 0)) w.heap.size [] :=
  ⟨.map [], (World.ownsMap_made w _ _ _).mono (by omega), rfl, fun i key h => by simp at h, fun key _ => rfl⟩
/-- a key more -/
theorem MP.put {w w' : World} {bm : Nat} {ks : List Int} {D : DataW Unit} {key : Int} (hs : Maps.size D = ks.length) (h1 : ∀ (i : Nat) (key : Int), ks[i]? = some key → Maps.has D (kL key) = true ∧ ∀ z, D.atKey (kL key) z = .lit (.int .i64 (i : Int))) (h2 : ∀ key, key ∉ ks → Maps.has D (kL key) = false)
    (hT : Maps.Tidy D) (hn : key ∉ ks) (hl : ks.length < 16) (ho : w'.ownsMap Try.prog 3 (plainElem Try.prog 3) bm 17 (D.put (kL key) (.lit (.int .i64 (ks.length : Int))))) : MP w' bm (ks ++ [key]) := by
  have hsz : Maps.size (D.put (kL key) (.lit (.int .i64 (ks.length : Int)))) = ks.length + 1 := by
    rw [Maps.size_put hT, h2 key hn, if_neg (by simp), hs]
  refine ⟨_, ownsMap_tight ho (by omega), by rw [hsz]; simp, fun i k hk => ?_, fun k hk => ?_⟩
  · by_cases hi : i < ks.length
    · rw [List.getElem?_append_left hi] at hk
      have hne : k ≠ key := fun e => hn (e ▸ List.mem_of_getElem? hk)
      rw [Maps.has_put_other (kL_ne hne)]
      exact ⟨(h1 i k hk).1, fun z => by rw [Maps.atKey_put_other (kL_ne hne)]; exact (h1 i k hk).2 z⟩
    · rw [List.getElem?_append_right (by omega)] at hk
      by_cases hc : i - ks.length = 0
      · rw [hc] at hk
        have e : key = k := by simpa using hk
        subst e
        have ei : i = ks.length := by omega
        subst ei
        exact ⟨Maps.has_put_same hT.isMap (isKeyLit _) _, fun z => Maps.atKey_put_same hT.isMap (isKeyLit _) _ z⟩
      · rw [List.getElem?_eq_none (by simp; omega)] at hk
        cases hk
  · rw [List.mem_append, not_or] at hk
    have hne : k ≠ key := fun e => hk.2 (by simp [e])
    rw [Maps.has_put_other (kL_ne hne)]
    exact h2 k hk.1
/-- a key for another -/
theorem MP.swap {w' : World} {bm s : Nat} {ks : List Int} {D : DataW Unit} {key old : Int} (hs : Maps.size D = ks.length) (h1 : ∀ (i : Nat) (key : Int), ks[i]? = some key → Maps.has D (kL key) = true ∧ ∀ z, D.atKey (kL key) z = .lit (.int .i64 (i : Int))) (h2 : ∀ key, key ∉ ks → Maps.has D (kL key) = false)
    (hT : Maps.Tidy D) (hd : ks.Nodup) (hn : key ∉ ks) (ho : ks[s]? = some old) (hl : ks.length ≤ 16) (hm : w'.ownsMap Try.prog 3 (plainElem Try.prog 3) bm 17 ((D.del (kL old)).put (kL key) (.lit (.int .i64 (s : Int))))) : MP w' bm (ks.set s key) := by
  have hsl : s < ks.length := (List.getElem?_eq_some_iff.1 ho).1
  have hTd := hT.del (kL old)
  have hko : key ≠ old := fun e => hn (e ▸ List.mem_of_getElem? ho)
  have hh : Maps.has (D.del (kL old)) (kL key) = false := by rw [Maps.has_del_other (kL_ne hko)]; exact h2 key hn
  have hsd := Maps.size_del (k := kL old) hT
  rw [(h1 s old ho).1, if_pos rfl] at hsd
  have hsz : Maps.size ((D.del (kL old)).put (kL key) (.lit (.int .i64 (s : Int)))) = ks.length := by
    rw [Maps.size_put hTd, hh, if_neg (by simp)]; omega
  refine ⟨_, ownsMap_tight hm (by omega), by rw [hsz]; simp, fun i k hk => ?_, fun k hk => ?_⟩
  · by_cases hi : i = s
    · subst hi
      rw [List.getElem?_set_self hsl] at hk
      have e : key = k := by simpa using hk
      subst e
      exact ⟨Maps.has_put_same hTd.isMap (isKeyLit _) _, fun z => Maps.atKey_put_same hTd.isMap (isKeyLit _) _ z⟩
    · rw [List.getElem?_set_ne (fun e => hi e.symm)] at hk
      have hne : k ≠ key := fun e => hn (e ▸ List.mem_of_getElem? hk)
      have hno : k ≠ old := fun e => by
        rw [e] at hk
        exact hi (nodup_inj hd hk ho)
      rw [Maps.has_put_other (kL_ne hne), Maps.has_del_other (kL_ne hno)]
      exact ⟨(h1 i k hk).1, fun z => by rw [Maps.atKey_put_other (kL_ne hne), Maps.atKey_del_other (kL_ne hno)]; exact (h1 i k hk).2 z⟩
  · have hne : k ≠ key := fun e => hk (by rw [e]; exact List.mem_of_getElem? (i := s) (by rw [List.getElem?_set_self hsl]))
    rw [Maps.has_put_other (kL_ne hne)]
    by_cases hno : k = old
    · rw [hno]; exact Maps.has_del_same
    · rw [Maps.has_del_other (kL_ne hno)]
      refine h2 k fun hm => hk ?_
      obtain ⟨j, hj⟩ := List.getElem?_of_mem hm
      have hjs : j ≠ s := fun e => hno (by rw [e, ho] at hj; simpa using hj.symm)
      exact List.mem_of_getElem? (i := j) (by rw [List.getElem?_set_ne (fun e => hjs e.symm)]; exact hj)
/-- the state of an Lru of ints -/
structure LS where
  slots : Nat
  mks : List Int
  ks : List Int
  rs : List Nat
  idle : List Nat
structure LS.Ok (S : LS) (M : Nat) : Prop where
  s1 : 1 ≤ S.slots
  s2 : S.slots ≤ 16
  kl : S.ks.length ≤ S.slots
  rl : S.rs.length = S.ks.length
  kd : S.ks.Nodup
  id : S.idle.Nodup
  im : ∀ s, s ∈ S.idle ↔ S.rs[s]? = some 0
  kb : ∀ k ∈ S.ks, i64ok k
  rb : ∀ r ∈ S.rs, r ≤ M
  me : S.mks = S.ks
def LS.take (S : LS) (s : Nat) : LS := { S with rs := S.rs.set s (S.rs.getD s 0 + 1), idle := S.idle.erase s }
def LS.add (S : LS) (key : Int) : LS := { S with mks := S.ks ++ [key], ks := S.ks ++ [key], rs := S.rs ++ [1] }
def LS.put (S : LS) (s : Nat) : LS := { S with rs := S.rs.set s (S.rs.getD s 0 - 1), idle := if S.rs.getD s 0 = 1 then S.idle ++ [s] else S.idle }
def LS.keys (S : LS) : List Int := S.idle.map (fun s => S.ks.getD s 0) ++ ((List.range S.ks.length).filter (fun s => decide (0 < S.rs.getD s 0))).map (fun s => S.ks.getD s 0)
theorem getD_of {l : List Nat} {s r : Nat} (h : l[s]? = some r) : l.getD s 0 = r := by simp [List.getD, h]
theorem getD_set {l : List Nat} {s t v : Nat} (hs : s < l.length) : (l.set s v)[t]? = if t = s then some v else l[t]? := by
  by_cases h : t = s
  · subst h; rw [if_pos rfl, List.getElem?_set_self hs]
  · rw [if_neg h, List.getElem?_set_ne (fun e => h e.symm)]
theorem LS.Ok.take {S : LS} {M s r : Nat} (h : S.Ok M) (hr : S.rs[s]? = some r) : (S.take s).Ok (M + 1) := by
  have hsl : s < S.rs.length := (List.getElem?_eq_some_iff.1 hr).1
  have hg := getD_of hr
  refine ⟨h.s1, h.s2, h.kl, by simp [LS.take, h.rl], h.kd, h.id.erase _, fun t => ?_, h.kb, fun x hx => ?_, h.me⟩
  · simp only [LS.take, hg]
    rw [getD_set hsl, h.id.mem_erase_iff]
    by_cases e : t = s
    · subst e; simp
    · rw [if_neg e]; simp [e, h.im t]
  · simp only [LS.take, hg] at hx
    rcases List.mem_or_eq_of_mem_set hx with hx | rfl
    · have := h.rb x hx; omega
    · have := h.rb r (List.mem_of_getElem? hr); omega
theorem LS.Ok.more {S : LS} {M N : Nat} (h : S.Ok M) (hn : M ≤ N) : S.Ok N := ⟨h.s1, h.s2, h.kl, h.rl, h.kd, h.id, h.im, h.kb, fun x hx => Nat.le_trans (h.rb x hx) hn, h.me⟩
theorem LS.Ok.add {S : LS} {M : Nat} {key : Int} (h : S.Ok M) (hk : i64ok key) (hn : key ∉ S.ks) (hl : S.ks.length < S.slots) : (S.add key).Ok (M + 1) := by
  refine ⟨h.s1, h.s2, by simp [LS.add]; omega, by simp [LS.add, h.rl], ?_, h.id, fun t => ?_, fun k hk' => ?_, fun x hx => ?_, rfl⟩
  · simp only [LS.add]
    rw [List.nodup_append]
    refine ⟨h.kd, by simp, fun a ha b hb => ?_⟩
    simp only [List.mem_singleton] at hb
    rintro rfl
    exact hn (hb ▸ ha)
  · simp only [LS.add, h.im t]
    by_cases e : t < S.rs.length
    · rw [List.getElem?_append_left e]
    · rw [List.getElem?_append_right (by omega), List.getElem?_eq_none (by omega)]
      by_cases e2 : t - S.rs.length = 0
      · rw [e2]; simp
      · rw [List.getElem?_eq_none (by simp; omega)]
  · simp only [LS.add, List.mem_append, List.mem_singleton] at hk'
    rcases hk' with hk' | rfl
    · exact h.kb k hk'
    · exact hk
  · simp only [LS.add, List.mem_append, List.mem_singleton] at hx
    rcases hx with hx | rfl
    · have := h.rb x hx; omega
    · omega
theorem nodup_set {l : List Int} {s : Nat} {key : Int} (hd : l.Nodup) (hn : key ∉ l) : (l.set s key).Nodup := by
  refine List.pairwise_iff_getElem.2 fun i j hi hj hij e => ?_
  simp only [List.length_set] at hi hj
  have e : (l.set s key)[i]? = (l.set s key)[j]? := by
    rw [List.getElem?_eq_getElem (by simpa using hi), List.getElem?_eq_getElem (by simpa using hj), e]
  by_cases h1 : i = s
  · subst h1
    rw [List.getElem?_set_self (by omega), List.getElem?_set_ne (by omega)] at e
    exact hn (List.mem_of_getElem? e.symm)
  · rw [List.getElem?_set_ne (fun e => h1 e.symm)] at e
    by_cases h2 : j = s
    · subst h2
      rw [List.getElem?_set_self (by omega)] at e
      exact hn (List.mem_of_getElem? e)
    · rw [List.getElem?_set_ne (fun e => h2 e.symm), List.getElem?_eq_getElem hi] at e
      have := nodup_inj hd (List.getElem?_eq_getElem hi) e.symm
      omega
theorem LS.Ok.setk {S : LS} {M s : Nat} {key : Int} (h : S.Ok M) (hk : i64ok key) (hn : key ∉ S.ks) : ({ S with mks := S.ks.set s key, ks := S.ks.set s key } : LS).Ok M := by
  refine ⟨h.s1, h.s2, by simpa using h.kl, by simpa using h.rl, nodup_set h.kd hn, h.id, h.im, fun k hk' => ?_, h.rb, rfl⟩
  rcases List.mem_or_eq_of_mem_set hk' with hk' | rfl
  · exact h.kb k hk'
  · exact hk
theorem LS.Ok.put {S : LS} {M s r : Nat} (h : S.Ok M) (hr : S.rs[s]? = some (r + 1)) : (S.put s).Ok M := by
  have hsl : s < S.rs.length := (List.getElem?_eq_some_iff.1 hr).1
  have hg := getD_of hr
  have hni : s ∉ S.idle := fun e => by rw [(h.im s).1 e] at hr; simp at hr
  refine ⟨h.s1, h.s2, h.kl, by simp [LS.put, h.rl], h.kd, ?_, fun t => ?_, h.kb, fun x hx => ?_, h.me⟩
  · simp only [LS.put]
    split
    · rw [List.nodup_append]
      refine ⟨h.id, by simp, fun a ha b hb => ?_⟩
      simp only [List.mem_singleton] at hb
      rintro rfl
      exact hni (hb ▸ ha)
    · exact h.id
  · simp only [LS.put, hg]
    rw [getD_set hsl]
    by_cases e : t = s
    · subst e
      rw [if_pos rfl]
      by_cases e2 : r = 0
      · subst e2; simp
      · rw [if_neg (by omega)]; simp [hni]; omega
    · rw [if_neg e]
      split
      · simp [e, h.im t]
      · exact h.im t
  · simp only [LS.put, hg] at hx
    rcases List.mem_or_eq_of_mem_set hx with hx | hx
    · exact h.rb x hx
    · have := h.rb (r + 1) (List.mem_of_getElem? hr); omega
end Go.Proofs.Ythkkinmegileaaa
