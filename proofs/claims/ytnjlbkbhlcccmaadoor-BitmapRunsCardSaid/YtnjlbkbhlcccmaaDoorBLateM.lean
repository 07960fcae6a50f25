import Derived.Test.YtnjlbkbhlcccmaaDoorBKept
import Derived.Deep.RegionLaw
namespace Go.Proofs.YtnjlbkbhlcccmaaDoor
open Go.RowKit Go.Shelf
set_option linter.unusedVariables false
set_option linter.unusedSimpArgs false
set_option maxRecDepth 20000

/-- a whole list behind an empty one of one's own -/
theorem run_appAll {P : Program} (w : World) (t ty e : TypeId) (i : TypeInfo) (z : Value) (bytes : Nat) (ht : P.underlying t = some (.slice e)) (hi : P.info? e = some i) (hz : i.zero = some z) (hsize : i.size = 1) (hby : i.bytes = bytes) (hzs : z.cells.size = 1)
    (g : Nat) (hg : w.heap[g]? = some (.cells #[] e (0, 0))) (v : Value) (n : Nat) (xs : List Value) (hown : w.ownsRow 0 e 1 v n xs) (h1 : ∀ u ∈ xs, u.oneCell' = true) (h63 : n ≤ maxLen) (hbytes : (n + n / 4 + 192) * bytes ≤ 281474976710656) :
    ∃ ad c w', (Builtin.append_ #[t, t] ty #[.slice (some ⟨g, 0, none⟩) 0 0, v]).run P w = .ok (.slice (some ad) n c) w' ∧ w'.ownsRow 0 e 1 (.slice (some ad) n c) n xs ∧ w.grownBy w' (some g) ∧ (ad.block = g ∨ ad.block = w.heap.size) := by
  have h63' : n ≤ 9223372036854775807 := by simp only [maxLen] at h63; omega
  have own0 : w.ownsRow 0 e 1 (.slice (some ⟨g, 0, none⟩) 0 0) 0 [] := ⟨rfl, .inr ⟨g, 0, #[], rfl, Nat.zero_le _, hg, Nat.le_refl _, by unfold maxLen; omega, rfl, rfl⟩⟩
  rcases hown.2 with ⟨rfl, rfl⟩ | ⟨gv, cap, cur, rfl, hbg, hgc, hnc, hcm, hcs, htake⟩
  · have hx : xs = [] := List.eq_nil_of_length_eq_zero (by simpa using hown.1)
    subst hx
    exact ⟨⟨g, 0, none⟩, 0, w, run_append_owned_none (P := P) (w := w) 0 t ty e i 1 ht hi _ 0 [] own0, own0, ⟨rfl, rfl, rfl, Nat.le_refl _, fun _ _ _ => rfl⟩, .inl rfl⟩
  · have hnews : ∀ j u, xs[j]? = some u → w.cell? ((⟨gv, 0, none⟩ : Addr).add j) = some u := hown.cells (g := gv) rfl
    obtain ⟨v', w', hr, ho, hgr, -⟩ := run_append_own_wide (P := P) w 0 t ty e i z 1 bytes ht hi hz hsize hby hzs (by decide) _ 0 [] own0 ⟨gv, 0, none⟩ n cap xs hown.1 hnews h1 (by rw [Nat.zero_add]; exact h63) (by rw [Nat.zero_add]; exact hbytes) (Nat.zero_le _)
    rw [Nat.zero_add, List.nil_append] at ho
    by_cases h0 : n = 0
    · subst h0
      have hr2 := run_append_room (P := P) w t ty e i ht hi g 0 0 #[] hg ⟨gv, 0, none⟩ 0 cap xs (by rw [hsize]; exact hown.1) hnews h1 (Nat.le_refl _) (by have h9 := hown.1; rw [Nat.zero_mul] at h9; rw [Nat.zero_mul, Nat.zero_add, h9]; exact Nat.zero_le _)
      rw [hr] at hr2
      injection hr2 with e1 e2
      subst e1
      exact ⟨⟨g, 0, none⟩, 0, w', hr, ho, hgr, .inl rfl⟩
    · have hr2 := run_append_grow (P := P) w t ty e i z ht hi hz ⟨g, 0, none⟩ 0 0 [] (by simp) (by simp) ⟨gv, 0, none⟩ n cap xs (by rw [hsize]; exact hown.1) hnews (by omega) (by omega) (by rw [hby]; exact growslice_fits_wide (by omega) (by rw [Nat.zero_add]; exact hbytes))
      rw [hr] at hr2
      injection hr2 with e1 e2
      rw [Nat.zero_add] at e1
      subst e1
      exact ⟨⟨w.heap.size, 0, none⟩, _, w', hr, ho, hgr, .inr rfl⟩
theorem step_appAll {P : Program} (w : World) {ops : Array Oper} {o : Oper} {a : Act} {K : Act → World → Prop} {Q : Exit → Act → World → Prop} {E : Prop} (hgd : o.guard = none) (s x : Operand) (t : TypeId)
    (ho : o.op = .call { callee := .builtin .append, args := #[s, x], argTypes := #[t, t] })
    (e : TypeId) (i : TypeInfo) (z : Value) (bytes : Nat) (ht : P.underlying t = some (.slice e)) (hi : P.info? e = some i) (hz : i.zero = some z) (hsize : i.size = 1) (hby : i.bytes = bytes) (hzs : z.cells.size = 1)
    (g : Nat) (hs : a.eval s = .slice (some ⟨g, 0, none⟩) 0 0) (hg : w.heap[g]? = some (.cells #[] e (0, 0))) (v : Value) (n : Nat) (xs : List Value) (hx : a.eval x = v) (hown : w.ownsRow 0 e 1 v n xs) (h1 : ∀ u ∈ xs, u.oneCell' = true) (h63 : n ≤ maxLen) (hbytes : (n + n / 4 + 192) * bytes ≤ 281474976710656)
    (h : ∀ ad c w', w'.ownsRow 0 e 1 (.slice (some ad) n c) n xs → w.grownBy w' (some g) → (ad.block = g ∨ ad.block = w.heap.size) → K (a.put o.dst (.slice (some ad) n c)) w') :
    if Region.wanted o (yielded ops a.tmps) = true then Oper.wp P o a w K Q else E := by
  have hw : Region.wanted o (yielded ops a.tmps) = true := by simp [Region.wanted, hgd]
  rw [if_pos hw]
  obtain ⟨ad, c, w', hr, h2, h3, h4⟩ := run_appAll (P := P) w t o.type e i z bytes ht hi hz hsize hby hzs g hg v n xs hown h1 h63 hbytes
  unfold Oper.wp execOp
  simp only [ho, resolve, invoke, builtin, Sem.run_bind, Sem.run_pure, Result.andThen_ok, List.map_toArray, List.map_cons, List.map_nil, hs, hx, hr]
  exact h ad c w' h2 h3 h4
theorem step_append1 {P : Program} (w : World) {ops : Array Oper} {o : Oper} {a : Act} {K : Act → World → Prop} {Q : Exit → Act → World → Prop} {E : Prop} (hgd : o.guard = none) (s x : Operand) (t : TypeId)
    (ho : o.op = .call { callee := .builtin .append, args := #[s, x], argTypes := #[t, t] })
    (e : TypeId) (i : TypeInfo) (z : Value) (bytes : Nat) (ht : P.underlying t = some (.slice e)) (hi : P.info? e = some i) (hz : i.zero = some z) (hsize : i.size = 1) (hby : i.bytes = bytes) (hzs : z.cells.size = 1)
    (v : Value) (n : Nat) (xs : List Value) (hs : a.eval s = v) (hown : w.ownsRow 0 e 1 v n xs) (ad : Addr) (c : Nat) (y : Value) (hx : a.eval x = .slice (some ad) 1 c) (hnews : ∀ j u, [y][j]? = some u → w.cell? (ad.add j) = some u) (h1 : y.oneCell' = true) (h63 : n + 1 ≤ maxLen) (hbytes : ((n + 1) + (n + 1) / 4 + 192) * bytes ≤ 281474976710656)
    (h : ∀ v' w', w'.ownsRow 0 e 1 v' (n + 1) (xs ++ [y]) → Upon w w' v v' → K (a.put o.dst v') w') :
    if Region.wanted o (yielded ops a.tmps) = true then Oper.wp P o a w K Q else E := by
  have hw : Region.wanted o (yielded ops a.tmps) = true := by simp [Region.wanted, hgd]
  rw [if_pos hw]
  obtain ⟨v', w', hr, h2, h3⟩ := run_append1 (P := P) w t o.type e i z bytes ht hi hz hsize hby hzs v n xs hown ad c y hnews h1 h63 hbytes
  unfold Oper.wp execOp
  simp only [ho, resolve, invoke, builtin, Sem.run_bind, Sem.run_pure, Result.andThen_ok, List.map_toArray, List.map_cons, List.map_nil, hs, hx, hr]
  exact h v' w' h2 h3
theorem row_words {w : World} {v : Value} {l : List Nat} {xs : List Value} (h : w.ownsRow 0 63 1 v l.length xs) (hw : WSl w v l) : xs = l.map u64V := by
  apply List.ext_getElem?
  intro j
  have hl := h.1
  by_cases hj : j < l.length
  · obtain ⟨a, cap, e, q1, q2, q3, q4, q5⟩ := hw
    obtain ⟨b, off, e2, hc⟩ := q5 (by omega)
    have h' := h
    rcases h.2 with ⟨_, e0⟩ | ⟨g, cap', cur, e', _⟩
    · omega
    · rw [e'] at e
      simp only [Value.slice.injEq, e2, Option.some.injEq, Addr.mk.injEq] at e
      obtain ⟨⟨rfl, rfl, -⟩, -, rfl⟩ := e
      rw [e'] at h'
      rw [← h'.cellAt j (by omega), map_u64V_getD hj, ← hc j hj, Nat.zero_add]
  · rw [List.getElem?_eq_none (by omega), List.getElem?_eq_none (by simp; omega)]
end Go.Proofs.YtnjlbkbhlcccmaaDoor
