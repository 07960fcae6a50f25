import Derived.Test.YtepgiomgkgfioaaDoorDBase
import Derived.Deep.DeepAppendWide
namespace Go.Proofs.YtepgiomgkgfioaaDoor.K
open Go.RowKit
set_option linter.unusedVariables false

/-- append of one list to a row of lists that the call owns: where the new row lies, up to growslice's own bound -/
theorem push_wide {P : Program} (w : World) (t ty e : TypeId) (i : TypeInfo) (z : Value) (ht : P.underlying t = some (.slice e)) (hi : P.info? e = some i) (hz : i.zero = some z) (hsize : i.size = 1) (hby : i.bytes = 24) (hzs : z.cells.size = 1)
    (v : Value) (n : Nat) (xs : List Value) (hown : w.ownsRow 0 e 1 v n xs) (ad : Addr) (c : Nat) (x : Value) (hx : ∀ j u, [x][j]? = some u → w.cell? (ad.add j) = some u) (h1 : ∀ u ∈ [x], u.oneCell' = true) (hn : n + 1 ≤ 9382499223500) :
    ∃ v' w', (Builtin.append_ #[t, t] ty #[v, .slice (some ad) 1 c]).run P w = .ok v' w' ∧ w'.ownsRow 0 e 1 v' (n + 1) (xs ++ [x]) ∧ w.grownBy w' v.ownBlock ∧ (v'.ownBlock = v.ownBlock ∨ v'.ownBlock = some w.heap.size) := by
  have hb : ((n + 1) + (n + 1) / 4 + 192) * 24 ≤ 281474976710656 := by omega
  obtain ⟨v', w', hr, h2, h3, -⟩ := run_append_own_wide (P := P) w 0 t ty e i z 1 24 ht hi hz hsize hby hzs (by decide) v n xs hown ad 1 c [x] rfl hx h1 (by unfold maxLen; omega) hb (Nat.zero_le _)
  refine ⟨v', w', hr, h2, h3, ?_⟩
  rcases hown.2 with ⟨rfl, rfl⟩ | ⟨g, cap, cur, rfl, -, hg, hnc, hcm, hcs, ht'⟩
  · have := run_append_nil (P := P) w t ty e i z ht hi hz ad 1 c [x] (by rw [hsize]; rfl) hx (by decide) (by decide) (by rw [hby]; decide)
    rw [this] at hr
    injection hr with hr _
    exact .inr (by rw [← hr]; rfl)
  · by_cases hroom : n + 1 ≤ cap
    · have := run_append_room (P := P) w t ty e i ht hi g n cap cur hg ad 1 c [x] (by rw [hsize]; rfl) hx h1 hroom (by rw [hsize, hcs]; simp; omega)
      rw [this] at hr
      injection hr with hr _
      exact .inl (by rw [← hr]; rfl)
    · have := run_append_grow (P := P) w t ty e i z ht hi hz ⟨g, 0, none⟩ n cap xs (by rw [hsize]; exact hown.1) (hown.cells (g := g) rfl) ad 1 c [x] (by rw [hsize]; rfl) hx (by omega) (by omega) (growslice_fits_wide (by omega) (by rw [hby]; exact hb))
      rw [this] at hr
      injection hr with hr _
      exact .inr (by rw [← hr]; rfl)

theorem wpList_push_wide {P : Program} (w : World) {ops : Array Oper} {rest : List Oper} {o : Oper} {a : Act} {Q : Exit → Act → World → Prop} (hgd : o.guard = none) (s x : Operand) (t : TypeId)
    (ho : o.op = .call { callee := .builtin .append, args := #[s, x], argTypes := #[t, t] })
    (e : TypeId) (i : TypeInfo) (z : Value) (ht : P.underlying t = some (.slice e)) (hi : P.info? e = some i) (hz : i.zero = some z) (hsize : i.size = 1) (hby : i.bytes = 24) (hzs : z.cells.size = 1)
    (v : Value) (n : Nat) (xs : List Value) (hs : a.eval s = v) (hown : w.ownsRow 0 e 1 v n xs)
    (ad : Addr) (c : Nat) (y : Value) (hx : a.eval x = .slice (some ad) 1 c) (hnews : ∀ j u, [y][j]? = some u → w.cell? (ad.add j) = some u) (h1 : ∀ u ∈ [y], u.oneCell' = true) (hn : n + 1 ≤ 9382499223500)
    (h : ∀ v' w', w'.ownsRow 0 e 1 v' (n + 1) (xs ++ [y]) → w.grownBy w' v.ownBlock → (v'.ownBlock = v.ownBlock ∨ v'.ownBlock = some w.heap.size) → wpList P ops Q rest (a.put o.dst v') w') :
    wpList P ops Q (o :: rest) a w := by
  refine wpList_plain hgd fun K hK => ?_
  obtain ⟨v', w', hr, h2, h3, h4⟩ := push_wide w t o.type e i z ht hi hz hsize hby hzs v n xs hown ad c y hnews h1 hn
  unfold Oper.wp execOp
  simp only [ho, resolve, invoke, builtin, Sem.run_bind, Sem.run_pure, Result.andThen_ok, List.map_toArray, List.map_cons, List.map_nil, hs, hx, hr]
  exact hK _ _ (h v' w' h2 h3 h4)
end Go.Proofs.YtepgiomgkgfioaaDoor.K
