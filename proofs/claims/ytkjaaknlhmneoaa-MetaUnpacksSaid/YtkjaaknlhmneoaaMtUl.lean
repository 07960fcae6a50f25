import Derived.Test.YtkjaaknlhmneoaaMtPa
import Derived.Test.YtkjaaknlhmneoaaMtUo
import Derived.Deep.Slices
namespace Go.Proofs.Ytkjaaknlhmneoaa
open Go.ChangeShapes Go.WideShapes Go.ChangeAt Go.RowKit
open Num
set_option linter.unusedVariables false
set_option linter.unusedSimpArgs false
set_option maxRecDepth 20000

theorem bytesSl : Try.prog.bytesOf 45 = 24 := by kernel_rfl
theorem bytesU8 : Try.prog.bytesOf 5 = 1 := by kernel_rfl
theorem cellsBy : Try.prog.cellsOf 45 = 1 := by kernel_rfl
theorem weights_all {H : Type} {P : Program} {e : TypeId} : ∀ {l : List (DataW H)} {d : DataW H}, d ∈ l → ∀ n ∈ d.weights P e, n ∈ DataW.weightsAll P e l
  | [], _, h => by cases h
  | x :: r, d, h => fun n hn => by
    simp only [DataW.weightsAll, List.mem_append]
    rcases List.mem_cons.1 h with rfl | h
    · exact .inl hn
    · exact .inr (weights_all h n hn)
theorem again_blocks {H : Type} {enc : TypeId × Value → H} {W W' : World} {v : Value} {d : DataW H} {p : List MemPlace} (h1 : DataW.Trod enc Try.prog W 0 (fun _ => true) true 36 v d p) (bel : Below W.heap.size W W') :
    DataW.Trod enc Try.prog W' 0 (fun b => decide (b < W.heap.size)) true 36 v d p := Below.trod laidOut (by kernel_rfl) (of_decide_eq_true (by kernel_rfl)) h1 bel (place_lt h1)
theorem open_fieldB {H : Type} {enc : TypeId × Value → H} {W : World} {n : Nat} {v : Value} {y : DataW H × List MemPlace} (h : DataW.trod enc Try.prog W 0 (fun _ => true) true n 45 [v] = some y) (hw : ∀ k ∈ y.1.weights Try.prog 45, k ≤ reachBytes) : ∃ l : List Nat, BSl W v l ∧ l.length ≤ 140737488351232 := by
  rcases open_ints Try.underlying45 Try.underlying5 (by kernel_rfl) h with ⟨hcs, hy⟩ | ⟨x, len, cap, zs, hcs, _, hl, hm, hz, hx, hcell, hwz⟩
  · simp at hcs
    subst hcs
    exact ⟨[], ⟨none, 0, rfl, Nat.le_refl _, by unfold maxLen; omega, fun _ => rfl, by simp, by simp⟩, by simp⟩
  · simp at hcs
    subst hcs
    simp only [if_true] at hz
    have hlen : ((zs.take len).map Int.toNat).length = len := by simp; omega
    refine ⟨(zs.take len).map Int.toNat, ⟨some x, cap, by rw [hlen], by omega, hm, by simp, fun b hb => ?_, fun hp => ?_⟩, ?_⟩
    · obtain ⟨k, hk, rfl⟩ := List.mem_map.1 hb
      have := bounds_u8 (hwz k (List.mem_of_mem_take hk))
      omega
    · obtain ⟨b, off, rfl, hc⟩ := ints_at hcell (by omega)
      refine ⟨b, off, rfl, fun i hi => ?_⟩
      rw [hc i (by omega)]
      have hi' : i < zs.length := by omega
      have hb := bounds_u8 (hwz zs[i] (List.getElem_mem hi'))
      have hi2 : i < len := by omega
      have e2 : ((zs.take len).map Int.toNat).getD i 0 = zs[i].toNat := by
        simp [List.getD, hi', hi2]
      have e3 : zs.getD i 0 = zs[i] := by simp [List.getD, hi']
      rw [e2, e3, Int.toNat_of_nonneg hb.1]
    · subst hx
      have := hw (zs.length * 1) (by
        simp only [DataW.weights]
        rw [Try.underlying45]
        simp only [lits, List.length_map, List.length_take, List.length_drop, bytesU8]
        rw [show min len zs.length + (zs.length - len) = zs.length by omega]
        exact List.mem_cons_self)
      unfold reachBytes at this
      rw [hlen]; omega
theorem open_blocks {H : Type} {enc : TypeId × Value → H} {W : World} {base : Nat} {v : Value} {d : DataW H} {p : List MemPlace} {ts : List TypeId} {ds : List (DataW H)} (j : Nat) (hts : ts[j]? = some 36) (hds : ds[j]? = some d)
    (hsz : (DataW.weightsEach Try.prog ts ds).all (· ≤ reachBytes) = true)
    (hok : Value.okWide Try.prog W .any base 36 v) (h1 : DataW.Trod enc Try.prog W 0 (fun _ => true) true 36 v d p) : ∃ ls : List (List Nat), LL W v ls ∧ ls.length ≤ 5864062014634 := by
  obtain ⟨a1, len1, cap1, rfl⟩ := okWide_slice Try.underlying36 hok
  obtain ⟨fuel, hf⟩ := h1
  rcases Go.Deep.open_slice Try.underlying36 hf with ⟨hcs, _⟩ | ⟨a, len, cap, m, n, D, Pl, hcs, _, hl, hm, hmm, hx, hel⟩
  · simp [Value.cells] at hcs
    obtain ⟨rfl, rfl, rfl⟩ := hcs
    exact ⟨[], ⟨none, 0, rfl, Nat.le_refl _, by unfold maxLen; omega, fun _ => rfl, by simp⟩, by simp⟩
  · simp [Value.cells] at hcs
    obtain ⟨rfl, rfl, rfl⟩ := hcs
    simp only [if_true] at hmm
    subst hmm
    have hwD : ∀ i, i < len1 → ∀ k ∈ (D i).weights Try.prog 45, k ≤ reachBytes := fun i hi k hk => by
      have h0 := List.all_eq_true.1 hsz k (DataW.weights_mem_each hts hds k (by
        simp only [Prod.mk.injEq] at hx
        rw [hx.1]
        simp only [DataW.weights]
        rw [Try.underlying36]
        refine List.mem_cons_of_mem _ (List.mem_append_left _ (weights_all (d := D i) ?_ k hk))
        exact List.mem_map.2 ⟨i, List.mem_range.2 hi, rfl⟩))
      simpa using h0
    have each : ∀ i, i < len1 → ∃ s : Value × List Nat, BSl W s.1 s.2 ∧ s.2.length ≤ 140737488351232 ∧ W.cell? (a.add i) = some s.1 := by
      intro i hi
      obtain ⟨cs', h1, h2⟩ := hel i (by omega)
      rw [cellsBy] at h1
      obtain ⟨_, hlen, hcell⟩ := World.cells?_some h1
      match cs', hlen with
      | [v0], _ =>
        have e0 := hcell 0 (by omega)
        rw [Go.Deep.add_add] at e0
        obtain ⟨l, hb, hbl⟩ := open_fieldB h2 (fun k hk => hwD i hi k hk)
        exact ⟨⟨v0, l⟩, hb, hbl, by simpa using e0⟩
    haveI : Inhabited (Value × List Nat) := ⟨⟨.slice none 0 0, []⟩⟩
    obtain ⟨f, hfa⟩ := Go.Deep.choose_lt each
    have hgd : ∀ i, i < len1 → ((List.range len1).map fun i => (f i).2).getD i [] = (f i).2 := fun i hi => by simp [List.getD, hi]
    refine ⟨(List.range len1).map fun i => (f i).2, ⟨some a, m, by simp, by simpa using hl, hm, by simp, fun hpos => ?_⟩, ?_⟩
    · simp only [List.length_map, List.length_range] at hpos
      obtain ⟨b, off, spot⟩ := a
      have hspot : spot = none := by simpa [Addr.add] using World.cell?_spot (hfa 0 hpos).2.2
      subst hspot
      have hc0 : W.cell? ⟨b, off + 0, none⟩ = some (f 0).1 := by rw [← Addr.add_lit]; exact (hfa 0 hpos).2.2
      refine ⟨b, off, rfl, cell_lt hc0, fun i hi => ?_⟩
      simp only [List.length_map, List.length_range] at hi
      have h := hfa i hi
      refine ⟨(f i).1, ?_, by rw [hgd i hi]; exact h.1, by rw [hgd i hi]; exact h.2.1⟩
      rw [← Addr.add_lit]; exact h.2.2
    · simp only [Prod.mk.injEq] at hx
      have h0 := List.all_eq_true.1 hsz _ (DataW.weights_mem_each hts hds _ (by
        rw [hx.1]
        simp only [DataW.weights]
        rw [Try.underlying36]
        exact List.mem_cons_self))
      simp only [List.length_map, List.length_range, bytesSl, decide_eq_true_eq] at h0 ⊢
      unfold reachBytes at h0
      omega
/-- what is handed in, for Unpack -/
theorem AR.ub {x : World} {Og s : Nat} {Bs : List (List Nat)} (h : AR x Og Bs) (hl : ∀ k, k < Bs.length → (Bs.getD k []).length = 0 ∨ (Bs.getD k []).length = s) : UB x Og 0 Bs.length s (fun k => Bs.getD k []) := fun k hk => by
  obtain ⟨u, u1, u2, u3⟩ := h.el k hk
  obtain ⟨a, c, rfl, c1, c2, c3, c4, c5⟩ := u2
  refine ⟨a, c, by rw [Nat.zero_add]; exact u1, h.lt, c1, hl k hk, c4, fun hp => ?_⟩
  obtain ⟨b, o, e, hc⟩ := c5 hp
  subst e
  exact ⟨b, o, rfl, u3 b rfl, hc⟩
theorem AR.lb {x : World} {Og : Nat} {Bs : List (List Nat)} (h : AR x Og Bs) : LB x Og 0 Bs.length (fun k => (Bs.getD k []).length) := fun k hk => by
  obtain ⟨u, u1, u2, _⟩ := h.el k hk
  obtain ⟨a, c, rfl, c1, c2, _⟩ := u2
  exact ⟨a, c, by rw [Nat.zero_add]; exact u1, by show (Bs.getD k []).length ≤ _; unfold maxLen at c2; omega⟩
theorem LL.ub {x : World} {O off s cap : Nat} {Bs : List (List Nat)} (h : LL x (.slice (some ⟨O, off, none⟩) Bs.length cap) Bs) (hl : ∀ k, k < Bs.length → (Bs.getD k []).length = 0 ∨ (Bs.getD k []).length = s) : UB x O off Bs.length s (fun k => Bs.getD k []) := fun k hk => by
  obtain ⟨a', cap', e, _, _, _, h5⟩ := h
  obtain ⟨O', off', e2, hO, hc⟩ := h5 (by omega)
  simp only [Value.slice.injEq] at e
  obtain ⟨rfl, _, _⟩ := e
  simp only [Option.some.injEq, Addr.mk.injEq, and_true] at e2
  obtain ⟨rfl, rfl⟩ := e2
  obtain ⟨u, u1, u2, u3⟩ := hc k hk
  obtain ⟨a, c, rfl, c1, c2, c3, c4, c5⟩ := u2
  refine ⟨a, c, u1, hO, c1, hl k hk, c4, fun hp => ?_⟩
  obtain ⟨b, o, e, hcc⟩ := c5 hp
  subst e
  exact ⟨b, o, rfl, cell_lt (hcc 0 hp), hcc⟩
theorem LL.lb {x : World} {O off cap : Nat} {Bs : List (List Nat)} (h : LL x (.slice (some ⟨O, off, none⟩) Bs.length cap) Bs) : LB x O off Bs.length (fun k => (Bs.getD k []).length) := fun k hk => by
  obtain ⟨a', cap', e, _, _, _, h5⟩ := h
  obtain ⟨O', off', e2, hO, hc⟩ := h5 (by omega)
  simp only [Value.slice.injEq] at e
  obtain ⟨rfl, _, _⟩ := e
  simp only [Option.some.injEq, Addr.mk.injEq, and_true] at e2
  obtain ⟨rfl, rfl⟩ := e2
  obtain ⟨u, u1, u2, u3⟩ := hc k hk
  obtain ⟨a, c, rfl, c1, c2, _⟩ := u2
  exact ⟨a, c, u1, by show (Bs.getD k []).length ≤ _; unfold maxLen at c2; omega⟩
theorem uW_lt {B : Nat → List Nat} {s k : Nat} (hb : ∀ x ∈ B (k * 8 / s), x < 256) : uW B s k < 18446744073709551616 := by
  unfold uW
  split
  · decide
  · refine lev_lt (fun i => ?_) 8
    rw [List.getD_eq_getElem?_getD]
    cases e : ((B (k * 8 / s)).drop (k * 8 % s))[i]? with
    | none => simp
    | some z => exact hb z (List.mem_of_mem_drop (List.mem_of_getElem? e))
theorem unpacksLaw (w : World) (n s : Int) (v : Value) (Bs : List (List Nat)) (hv : LL w v Bs) (hN : Bs.length ≤ 5864062014634) : Calls Try.prog 8 #[.int .i64 n, v, .int .i64 s] w fun e w' => e = .returned (.bool true) ∧ Below w.heap.size w w' := by
  by_cases h : (decide (1 ≤ n) && decide (n ≤ 65536)) = false ∨ okSz s = false
  · have hd : (okSz s && (decide (1 ≤ n) && decide (n ≤ 65536))) = false := by rcases h with h | h <;> simp [h]
    exact unpacks_err w n s v Bs hv hN 1 (fun x Og _ => (unpack_bad x n s _ h).mono fun e w' ⟨h1, h2⟩ => ⟨h1, bel_same h2⟩) (fun x => (unpack_bad x n s _ h).mono fun e w' ⟨h1, h2⟩ => ⟨⟨_, h1⟩, bel_same h2⟩) (fun x _ => (runpack_bad x n s v hd).mono fun e w' ⟨h1, h2⟩ => ⟨h1, bel_same h2⟩)
  · rw [not_or, Bool.not_eq_false, Bool.not_eq_false, Bool.and_eq_true, decide_eq_true_eq, decide_eq_true_eq] at h
    obtain ⟨⟨h1, h2⟩, hs⟩ := h
    have hp := okSz_pos hs
    obtain ⟨n', rfl⟩ : ∃ k : Nat, n = (k : Int) := ⟨n.toNat, by omega⟩
    obtain ⟨s', rfl⟩ : ∃ k : Nat, s = (k : Int) := ⟨s.toNat, by omega⟩
    have h1 : 1 ≤ n' := by omega
    have h2 : n' ≤ 65536 := by omega
    have hz : ∀ x, Calls Try.prog 17 #[.int .i64 (n' : Int), .slice none 0 0, .int .i64 (s' : Int)] x fun e w' => (∃ z, e = .returned z) ∧ Below x.heap.size x w' := fun x => (unpack_size x n' s' 0 0 none (by omega) hs h1 h2 (fun e => absurd e.symm (Nat.succ_ne_zero _))).mono fun e w' ⟨h1, h2⟩ => ⟨⟨_, h1⟩, bel_same h2⟩
    by_cases hlen : Bs.length = (n' - 1) / (8 * s') + 1
    · obtain ⟨a, cap, rfl, q1, q2, q3, q4⟩ := id hv
      obtain ⟨O, off, rfl, hO, _⟩ := q4 (by rw [hlen]; exact Nat.succ_pos _)
      by_cases hx : ∃ k, k < Bs.length ∧ ¬ (Bs.getD k []).length = 0 ∧ ¬ (Bs.getD k []).length = s'
      · refine unpacks_err w n' s' _ Bs hv hN 3 (fun x Og har => ?_) hz (fun x hll => ?_)
        · have hlb := har.lb
          rw [hlen] at hlb hx ⊢
          exact (unpack_len x n' s' Og 0 _ _ hs h1 h2 hlb hx).mono fun e w' ⟨h1, h2⟩ => ⟨h1, bel_same h2⟩
        · have hlb := hll.lb
          rw [hlen] at hlb hx ⊢
          exact (runpack_len x n' s' O off _ _ hs h1 h2 hlb hx).mono fun e w' ⟨h1, h2⟩ => ⟨h1, bel_same h2⟩
      · have hl : ∀ k, k < Bs.length → (Bs.getD k []).length = 0 ∨ (Bs.getD k []).length = s' := fun k hk => Classical.byContradiction fun e => hx ⟨k, hk, by rw [not_or] at e; exact e⟩
        have hb : ∀ k, ∀ z ∈ Bs.getD k [], z < 256 := fun k z hz => by
          by_cases hk : k < Bs.length
          · obtain ⟨_, _, _, _, _, _, hh⟩ := hv.ub hl k hk
            exact hh.1 z hz
          · rw [List.getD_eq_getElem?_getD, List.getElem?_eq_none (by omega)] at hz; cases hz
        refine unpacks_ok w n' s' _ Bs hv hN ((n' + 63) / 64) (by omega) (tW (fun k => Bs.getD k []) s' n') (tW_len _ _ _) (lostN (fun k => Bs.getD k []) ((n' - 1) / (8 * s') + 1)) (fun x Og har => ?_) hz (fun x hll => ?_)
        · have hub := har.ub hl
          rw [hlen] at hub ⊢
          exact unpack_any x Og 0 _ n' s' _ hub hs h1 h2 (uW_lt (hb _))
        · have hub := hll.ub hl
          rw [hlen] at hub ⊢
          exact runpack_ok x O off cap n' s' _ hub hs h1 h2 (fun k _ => uW_lt (hb _))
    · have hK : Bs.length ≤ 9223372036854775807 := by omega
      obtain ⟨a, cap, rfl, q1, q2, q3, q4⟩ := id hv
      exact unpacks_err w n' s' _ Bs hv hN 3 (fun x Og _ => (unpack_size x n' s' Bs.length _ _ hK hs h1 h2 hlen).mono fun e w' ⟨h1, h2⟩ => ⟨h1, bel_same h2⟩) hz (fun x _ => (runpack_size x n' s' Bs.length cap a hK hs h1 h2 hlen).mono fun e w' ⟨h1, h2⟩ => ⟨h1, bel_same h2⟩)
end Go.Proofs.Ytkjaaknlhmneoaa
