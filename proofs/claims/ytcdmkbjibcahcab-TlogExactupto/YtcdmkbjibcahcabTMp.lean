import Derived.Test.YtcdmkbjibcahcabTE2
import Derived.Lib.OwnBridge
namespace Go.Proofs.Ytcdmkbjibcahcab
open Go.RowKit
set_option linter.unusedVariables false
set_option linter.unusedSimpArgs false
set_option maxRecDepth 20000

def kL (z : Int) : Lit := .int .i64 z
def i64ok (z : Int) : Prop := -9223372036854775808 ≤ z ∧ z ≤ 9223372036854775807
theorem wf_i64 {z : Int} (h : i64ok z) : (Lit.int .i64 z).wf = true := by
  unfold i64ok at h
  simp [Lit.wf, IntKind.min, IntKind.max, IntKind.signed, IntKind.bits]
  omega
theorem kInt : Maps.Keyed Try.prog 3 := Maps.int_keyed Try.underlying3
theorem keyI {z : Int} (h : i64ok z) : keyOf Try.prog 3 (.int .i64 z) = some (kL z) := Maps.keyOf_int_mk Try.underlying3 (wf_i64 h)
theorem kL_inj {a b : Int} (h : kL a = kL b) : a = b := by simpa [kL] using h
theorem kL_ne {a b : Int} (h : a ≠ b) : kL a ≠ kL b := fun e => h (kL_inj e)
theorem isKeyLit (z : Int) : WideAt.IsKeyLit (kL z) := by simp [WideAt.IsKeyLit, kL]
theorem ownsMap_tight {H : Type} {w : World} {P : Program} {k : TypeId} {R : Value → Option (DataW H × List MemPlace)} {b n m : Nat} {D : DataW H} (h : w.ownsMap P k R b n D) (hm : Maps.size D ≤ m) : w.ownsMap P k R b m D := by
  obtain ⟨es, clock, hb, F, hs, hD⟩ := h
  refine ⟨es, clock, hb, F, ?_, hD⟩
  have : Maps.size D = es.size := by rw [hD]; simp [Maps.size, length_sorted]
  omega
/-- what the log knows of a write: its turn, whether it is acked -/
def stV (t : Int) (a : Bool) : Value := .agg #[.int .i64 t, .bool a]
def stD (t : Int) (a : Bool) : DataW Unit := .agg [.lit (.int .i64 t), .lit (.bool a)]
def stR (v : Value) : Option (DataW Unit × List MemPlace) :=
  match v with
  | .agg ⟨[.int .i64 t, .bool a]⟩ => some (stD t a, [])
  | _ => none
theorem stR_mk (t : Int) (a : Bool) : stR (stV t a) = some (stD t a, []) := rfl
theorem stR_inv {v : Value} {y : DataW Unit × List MemPlace} (h : stR v = some y) : ∃ t a, v = stV t a ∧ y = (stD t a, []) := by
  unfold stR at h
  split at h
  · rename_i t a
    exact ⟨t, a, rfl, (Option.some.inj h).symm⟩
  · cases h
theorem stD_inj {t t' : Int} {a a' : Bool} (h : stD t a = stD t' a') : t = t' ∧ a = a' := by simpa [stD] using h
/-- the writes in the log, and whether each is acked -/
abbrev Ls := List (En × Bool)
/-- the map of the stands: gone is the first write's turn -/
def MS (w : World) (bm gone : Nat) (ls : Ls) : Prop :=
  ∃ D : DataW Unit, w.ownsMap Try.prog 3 stR bm ls.length D ∧ Maps.size D = ls.length ∧
    (∀ (i : Nat) (x : En × Bool), ls[i]? = some x → Maps.has D (kL x.1.1) = true ∧ ∀ z, D.atKey (kL x.1.1) z = stD ((gone + i : Nat) : Int) x.2) ∧ ∀ key, key ∉ ls.map (fun x => x.1.1) → Maps.has D (kL key) = false
theorem MS.kept {w w' : World} {bm gone : Nat} {ls : Ls} (h : MS w bm gone ls) (hk : w'.heap[bm]? = w.heap[bm]?) : MS w' bm gone ls := by
  obtain ⟨D, ⟨es, clock, hb, r⟩, h2⟩ := h
  exact ⟨D, ⟨es, clock, hk.trans hb, r⟩, h2⟩
theorem MS.lt {w : World} {bm gone : Nat} {ls : Ls} (h : MS w bm gone ls) : bm < w.heap.size := by
  obtain ⟨D, h, -⟩ := h
  exact h.lt
theorem MS.neCells {w : World} {bm gone g : Nat} {ls : Ls} {cs : Array Value} {t : TypeId} (h : MS w bm gone ls) (hg : w.heap[g]? = some (.cells cs t (0, 0))) : g ≠ bm := fun e => by
  obtain ⟨D, ⟨es, clock, hb, r⟩, h2⟩ := h
  rw [e, hb] at hg
  cases hg
theorem MS.new (w : World) : MS (w.alloc (.map #[] 0)) w.heap.size 0 [] :=
  ⟨.map [], (World.ownsMap_made w _ _ _).mono (by omega), rfl, fun i key h => by simp at h, fun key _ => rfl⟩
theorem nodup_inj {α : Type} {l : List α} (hd : l.Nodup) {i j : Nat} {x : α} (hi : l[i]? = some x) (hj : l[j]? = some x) : i = j := by
  obtain ⟨h1, h2⟩ := List.getElem?_eq_some_iff.1 hi
  obtain ⟨h3, h4⟩ := List.getElem?_eq_some_iff.1 hj
  have hp := List.pairwise_iff_getElem.1 hd
  rcases Nat.lt_trichotomy i j with h | h | h
  · exact absurd (h2.trans h4.symm) (hp i j h1 h3 h)
  · exact h
  · exact absurd (h4.trans h2.symm) (hp j i h3 h1 h)
def ids (ls : Ls) : List Int := ls.map fun x => x.1.1
theorem ids_get {ls : Ls} {i : Nat} {x : En × Bool} (h : ls[i]? = some x) : (ids ls)[i]? = some x.1.1 := by simp [ids, h]
theorem ids_mem {ls : Ls} {i : Nat} {x : En × Bool} (h : ls[i]? = some x) : x.1.1 ∈ ids ls := List.mem_of_getElem? (ids_get h)
/-- a write more -/
theorem MS.put {w' : World} {bm gone : Nat} {ls : Ls} {D : DataW Unit} {e : En} (hs : Maps.size D = ls.length) (h1 : ∀ (i : Nat) (x : En × Bool), ls[i]? = some x → Maps.has D (kL x.1.1) = true ∧ ∀ z, D.atKey (kL x.1.1) z = stD ((gone + i : Nat) : Int) x.2) (h2 : ∀ key, key ∉ ls.map (fun x => x.1.1) → Maps.has D (kL key) = false)
    (hT : Maps.Tidy D) (hn : e.1 ∉ ids ls) (ho : w'.ownsMap Try.prog 3 stR bm (ls.length + 1) (D.put (kL e.1) (stD ((gone + ls.length : Nat) : Int) false))) : MS w' bm gone (ls ++ [(e, false)]) := by
  have hsz : Maps.size (D.put (kL e.1) (stD ((gone + ls.length : Nat) : Int) false)) = ls.length + 1 := by
    rw [Maps.size_put hT, h2 _ hn, if_neg (by simp), hs]
  refine ⟨_, by rw [List.length_append]; exact ho, by rw [hsz]; simp, fun i k hk => ?_, fun k hk => ?_⟩
  · by_cases hi : i < ls.length
    · rw [List.getElem?_append_left hi] at hk
      have hne : k.1.1 ≠ e.1 := fun e' => hn (e' ▸ ids_mem hk)
      rw [Maps.has_put_other (kL_ne hne)]
      exact ⟨(h1 i k hk).1, fun z => by rw [Maps.atKey_put_other (kL_ne hne)]; exact (h1 i k hk).2 z⟩
    · rw [List.getElem?_append_right (by omega)] at hk
      by_cases hc : i - ls.length = 0
      · rw [hc] at hk
        have e1 : (e, false) = k := by simpa using hk
        subst e1
        have ei : i = ls.length := by omega
        subst ei
        exact ⟨Maps.has_put_same hT.isMap (isKeyLit _) _, fun z => Maps.atKey_put_same hT.isMap (isKeyLit _) _ z⟩
      · rw [List.getElem?_eq_none (by simp; omega)] at hk
        cases hk
  · simp only [List.map_append, List.mem_append, not_or] at hk
    have hne : k ≠ e.1 := fun e' => hk.2 (by simp [e'])
    rw [Maps.has_put_other (kL_ne hne)]
    exact h2 k hk.1
/-- a write is acked -/
theorem MS.ack {w' : World} {bm gone i0 : Nat} {ls : Ls} {D : DataW Unit} {x : En × Bool} (hs : Maps.size D = ls.length) (h1 : ∀ (i : Nat) (x : En × Bool), ls[i]? = some x → Maps.has D (kL x.1.1) = true ∧ ∀ z, D.atKey (kL x.1.1) z = stD ((gone + i : Nat) : Int) x.2) (h2 : ∀ key, key ∉ ls.map (fun x => x.1.1) → Maps.has D (kL key) = false)
    (hT : Maps.Tidy D) (hd : (ids ls).Nodup) (hx : ls[i0]? = some x) (ho : w'.ownsMap Try.prog 3 stR bm (ls.length + 1) (D.put (kL x.1.1) (stD ((gone + i0 : Nat) : Int) true))) : MS w' bm gone (ls.set i0 (x.1, true)) := by
  have hil : i0 < ls.length := (List.getElem?_eq_some_iff.1 hx).1
  have hsz : Maps.size (D.put (kL x.1.1) (stD ((gone + i0 : Nat) : Int) true)) = ls.length := by
    rw [Maps.size_put hT, (h1 _ _ hx).1, if_pos rfl, hs]
  refine ⟨_, by rw [List.length_set]; exact ownsMap_tight ho (by omega), by rw [hsz]; simp, fun i k hk => ?_, fun k hk => ?_⟩
  · by_cases hi : i = i0
    · subst hi
      rw [List.getElem?_set_self hil] at hk
      obtain rfl := Option.some.inj hk
      exact ⟨Maps.has_put_same hT.isMap (isKeyLit _) _, fun z => Maps.atKey_put_same hT.isMap (isKeyLit _) _ z⟩
    · rw [List.getElem?_set_ne (fun e => hi e.symm)] at hk
      have hne : k.1.1 ≠ x.1.1 := fun e => hi (nodup_inj hd (ids_get hk) (by rw [e]; exact ids_get hx))
      rw [Maps.has_put_other (kL_ne hne)]
      exact ⟨(h1 i k hk).1, fun z => by rw [Maps.atKey_put_other (kL_ne hne)]; exact (h1 i k hk).2 z⟩
  · have e : (ls.set i0 (x.1, true)).map (fun x => x.1.1) = ls.map (fun x => x.1.1) := by
      rw [List.map_set]
      apply List.ext_getElem?
      intro j
      by_cases hj : j = i0
      · subst hj
        rw [List.getElem?_set_self (by simpa using hil)]
        simp [hx]
      · rw [List.getElem?_set_ne (Ne.symm hj)]
    rw [e] at hk
    have hne : k ≠ x.1.1 := fun e' => hk (e' ▸ ids_mem hx)
    rw [Maps.has_put_other (kL_ne hne)]
    exact h2 k hk
/-- the first write leaves -/
theorem MS.del {w' : World} {bm gone n : Nat} {x : En × Bool} {r : Ls} {D : DataW Unit} (hs : Maps.size D = (x :: r).length) (h1 : ∀ (i : Nat) (y : En × Bool), (x :: r)[i]? = some y → Maps.has D (kL y.1.1) = true ∧ ∀ z, D.atKey (kL y.1.1) z = stD ((gone + i : Nat) : Int) y.2) (h2 : ∀ key, key ∉ (x :: r).map (fun x => x.1.1) → Maps.has D (kL key) = false)
    (hT : Maps.Tidy D) (hd : (ids (x :: r)).Nodup) (ho : w'.ownsMap Try.prog 3 stR bm n (D.del (kL x.1.1))) : MS w' bm (gone + 1) r := by
  have hsd := Maps.size_del (k := kL x.1.1) hT
  rw [(h1 0 x rfl).1, if_pos rfl, hs] at hsd
  have hsz : Maps.size (D.del (kL x.1.1)) = r.length := by simp at hsd; omega
  have hd' : x.1.1 ∉ ids r := (List.nodup_cons.1 hd).1
  refine ⟨_, ownsMap_tight ho (by omega), hsz, fun i k hk => ?_, fun k hk => ?_⟩
  · have hne : k.1.1 ≠ x.1.1 := fun e => hd' (e ▸ ids_mem hk)
    rw [Maps.has_del_other (kL_ne hne)]
    have q := h1 (i + 1) k (by simpa using hk)
    exact ⟨q.1, fun z => by rw [Maps.atKey_del_other (kL_ne hne), q.2, show gone + (i + 1) = gone + 1 + i by omega]⟩
  · by_cases e : k = x.1.1
    · rw [e]; exact Maps.has_del_same
    · rw [Maps.has_del_other (kL_ne e)]
      refine h2 k fun hm => ?_
      simp only [List.map_cons, List.mem_cons] at hm
      rcases hm with hm | hm
      · exact e hm
      · exact hk hm
end Go.Proofs.Ytcdmkbjibcahcab
