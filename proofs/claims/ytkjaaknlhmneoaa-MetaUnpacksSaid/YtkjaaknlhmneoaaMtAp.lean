import Derived.Test.YtkjaaknlhmneoaaMtRq
import Derived.Test.YtkjaaknlhmneoaaMtSb
import Derived.Deep.DeepAppendWide
namespace Go.Proofs.Ytkjaaknlhmneoaa
open Go.RowKit
open Num
set_option linter.unusedVariables false
set_option linter.unusedSimpArgs false
set_option maxRecDepth 20000

/-- one element behind an owned row: in new memory, and all that was stays; or in place -/
theorem run_append1 {P : Program} (w : World) (t ty e : TypeId) (i : TypeInfo) (z : Value) (bytes : Nat) (ht : P.underlying t = some (.slice e)) (hi : P.info? e = some i) (hz : i.zero = some z) (hsize : i.size = 1) (hby : i.bytes = bytes) (hzs : z.cells.size = 1)
    (v : Value) (n : Nat) (xs : List Value) (hown : w.ownsRow 0 e 1 v n xs) (a : Addr) (c : Nat) (x : Value) (hnews : ∀ j u, [x][j]? = some u → w.cell? (a.add j) = some u) (h1 : x.oneCell' = true) (h63 : n + 1 ≤ maxLen) (hbytes : ((n + 1) + (n + 1) / 4 + 192) * bytes ≤ 281474976710656) :
    ∃ v' w', (Builtin.append_ #[t, t] ty #[v, .slice (some a) 1 c]).run P w = .ok v' w' ∧ w'.ownsRow 0 e 1 v' (n + 1) (xs ++ [x]) ∧
      ((v'.ownBlock = some w.heap.size ∧ w.grownBy w' none) ∨ (∃ g, v.ownBlock = some g ∧ v'.ownBlock = some g ∧ w.grownBy w' (some g))) := by
  obtain ⟨v', w', hr, ho, hg, -⟩ := run_append_own_wide (P := P) w 0 t ty e i z 1 bytes ht hi hz hsize hby hzs (by decide) v n xs hown a 1 c [x] rfl hnews (by simp [h1]) h63 hbytes (Nat.zero_le _)
  refine ⟨v', w', hr, ho, ?_⟩
  have h63' : n + 1 ≤ 9223372036854775807 := by simp only [maxLen] at h63; omega
  rcases hown.2 with ⟨rfl, rfl⟩ | ⟨g, cap, cur, rfl, hbg, hgc, hnc, hcm, hcs, htake⟩
  · have hr2 := run_append_nil (P := P) w t ty e i z ht hi hz a 1 c [x] (by rw [hsize]; rfl) hnews (by decide) (by decide) (by
      rw [hby]
      exact Nat.le_trans (Nat.mul_le_mul_right _ (by decide)) hbytes)
    rw [hr] at hr2
    injection hr2 with e1 e2
    subst e1 e2
    exact .inl ⟨rfl, ⟨rfl, rfl, rfl, by simp, fun k hk _ => Below.heap_alloc w.drew _ k (by simpa using hk)⟩⟩
  · by_cases hroom : n + 1 ≤ cap
    · have hr2 := run_append_room (P := P) w t ty e i ht hi g n cap cur hgc a 1 c [x] (by rw [hsize]; rfl) hnews (by simp [h1]) hroom (by rw [hsize]; simp; omega)
      rw [hr] at hr2
      injection hr2 with e1 e2
      exact .inr ⟨g, rfl, by rw [e1]; rfl, hg⟩
    · have holds : ∀ j u, xs[j]? = some u → w.cell? ((⟨g, 0, none⟩ : Addr).add j) = some u := hown.cells (g := g) rfl
      have hr2 := run_append_grow (P := P) w t ty e i z ht hi hz ⟨g, 0, none⟩ n cap xs (by rw [hsize]; exact hown.1) holds a 1 c [x] (by rw [hsize]; rfl) hnews (by omega) (by omega) (by rw [hby]; exact growslice_fits_wide (by omega) hbytes)
      rw [hr] at hr2
      injection hr2 with e1 e2
      subst e1 e2
      exact .inl ⟨rfl, ⟨rfl, rfl, rfl, by simp, fun k hk _ => Below.heap_alloc w.drew _ k (by simpa using hk)⟩⟩
theorem wpList_append1 {P : Program} (w : World) {ops : Array Oper} {rest : List Oper} {o : Oper} {a : Act} {Q : Exit → Act → World → Prop} (hgd : o.guard = none) (s x : Operand) (t : TypeId)
    (ho : o.op = .call { callee := .builtin .append, args := #[s, x], argTypes := #[t, t] })
    (e : TypeId) (i : TypeInfo) (z : Value) (bytes : Nat) (ht : P.underlying t = some (.slice e)) (hi : P.info? e = some i) (hz : i.zero = some z) (hsize : i.size = 1) (hby : i.bytes = bytes) (hzs : z.cells.size = 1)
    (v : Value) (n : Nat) (xs : List Value) (hs : a.eval s = v) (hown : w.ownsRow 0 e 1 v n xs) (ad : Addr) (c : Nat) (y : Value) (hx : a.eval x = .slice (some ad) 1 c) (hnews : ∀ j u, [y][j]? = some u → w.cell? (ad.add j) = some u) (h1 : y.oneCell' = true) (h63 : n + 1 ≤ maxLen) (hbytes : ((n + 1) + (n + 1) / 4 + 192) * bytes ≤ 281474976710656)
    (h : ∀ v' w', w'.ownsRow 0 e 1 v' (n + 1) (xs ++ [y]) → ((v'.ownBlock = some w.heap.size ∧ w.grownBy w' none) ∨ (∃ g, v.ownBlock = some g ∧ v'.ownBlock = some g ∧ w.grownBy w' (some g))) → wpList P ops Q rest (a.put o.dst v') w') :
    wpList P ops Q (o :: rest) a w := by
  refine wpList_plain hgd fun K hK => ?_
  obtain ⟨v', w', hr, h2, h3⟩ := run_append1 (P := P) w t o.type e i z bytes ht hi hz hsize hby hzs v n xs hown ad c y hnews h1 h63 hbytes
  unfold Oper.wp execOp
  simp only [ho, resolve, invoke, builtin, Sem.run_bind, Sem.run_pure, Result.andThen_ok, List.map_toArray, List.map_cons, List.map_nil, hs, hx, hr]
  exact hK _ _ (h v' w' h2 h3)

theorem rowKept {w w' : World} {base c : Nat} {e : TypeId} {v : Value} {n : Nat} {xs : List Value} (h : w.ownsRow base e c v n xs) (hk : ∀ g, v.ownBlock = some g → w'.heap[g]? = w.heap[g]?) : w'.ownsRow base e c v n xs := by
  refine ⟨h.1, ?_⟩
  rcases h.2 with h0 | ⟨g, cap, cur, rfl, h1, hg, r⟩
  · exact .inl h0
  · exact .inr ⟨g, cap, cur, rfl, h1, by rw [hk g rfl]; exact hg, r⟩

/-! The document's Pack, bit by bit: numbers. -/
def pby (ws : List Nat) (i j : Nat) : Nat := pb ws j % 2 ^ (i - 8 * j)
def bpL (ws : List Nat) (s i k : Nat) : List Nat := (List.range s).map fun r => pby ws i (k * s + r)
theorem bpL_len (ws : List Nat) (s i k : Nat) : (bpL ws s i k).length = s := by simp [bpL]
theorem pby_new {ws : List Nat} {i j : Nat} (h : i ≤ 8 * j) : pby ws i j = 0 := by unfold pby; rw [show i - 8 * j = 0 by omega, Nat.pow_zero, Nat.mod_one]
theorem pb_bit (ws : List Nat) (j : Nat) {m : Nat} (hm : m < 8) : (pb ws j).testBit m = wbit ws (8 * j + m) := by
  unfold pb wbit
  rw [byte_bit', show (8 * j + m) / 64 = j / 8 by omega, show (8 * j + m) % 64 = 8 * (j % 8) + m by omega]
  simp [hm]
theorem pby_other {ws : List Nat} {i j : Nat} (h : j ≠ i / 8) : pby ws (i + 1) j = pby ws i j := by
  by_cases e : j < i / 8
  · have hp := pb_lt ws j
    have h1 : (256 : Nat) ≤ 2 ^ (i - 8 * j) := Nat.pow_le_pow_right (n := 2) (i := 8) (by decide) (by omega)
    have h2 : (256 : Nat) ≤ 2 ^ (i + 1 - 8 * j) := Nat.pow_le_pow_right (n := 2) (i := 8) (by decide) (by omega)
    unfold pby
    rw [Nat.mod_eq_of_lt (by omega), Nat.mod_eq_of_lt (by omega)]
  · rw [pby_new (by omega), pby_new (by omega)]
theorem pby_bit {ws : List Nat} {i : Nat} : pby ws (i + 1) (i / 8) = pby ws i (i / 8) + (if wbit ws i then 2 ^ (i % 8) else 0) := by
  have hb := pb_bit ws (i / 8) (m := i % 8) (by omega)
  rw [show 8 * (i / 8) + i % 8 = i by omega, Nat.testBit_eq_decide_div_mod_eq] at hb
  unfold pby
  rw [show i + 1 - 8 * (i / 8) = i % 8 + 1 by omega, show i - 8 * (i / 8) = i % 8 by omega, Nat.mod_pow_succ, ← hb]
  rcases Nat.mod_two_eq_zero_or_one (pb ws (i / 8) / 2 ^ (i % 8)) with e | e
  · simp [e]
  · simp [e]
theorem pby_lt (ws : List Nat) (i j : Nat) : pby ws i j < 256 := Nat.lt_of_le_of_lt (Nat.mod_le _ _) (pb_lt ws j)
theorem pby_end {ws : List Nat} {n j : Nat} (hu : ∀ j, n ≤ j → j < 64 * ws.length → wbit ws j = false) (hj : j < ws.length * 8) : pby ws n j = pb ws j := by
  unfold pby
  refine Nat.mod_eq_of_lt (Nat.lt_pow_two_of_testBit _ fun b hb => ?_)
  by_cases e : b < 8
  · rw [pb_bit ws j e]; exact hu _ (by omega) (by omega)
  · exact Nat.testBit_lt_two_pow (Nat.lt_of_lt_of_le (pb_lt ws j) (Nat.pow_le_pow_right (n := 2) (i := 8) (by decide) (by omega)))
theorem pb_out {ws : List Nat} {j : Nat} (hj : ¬ j < ws.length * 8) : pb ws j = 0 := by
  unfold pb
  rw [List.getD_eq_getElem?_getD, List.getElem?_eq_none (by omega)]
  simp
theorem bpL_end {ws : List Nat} {n : Nat} (hu : ∀ j, n ≤ j → j < 64 * ws.length → wbit ws j = false) (s k : Nat) : bpL ws s n k = bkT ws s (ws.length * 8) k := by
  unfold bpL bkT
  refine List.map_congr_left fun r _ => ?_
  split
  · rename_i h; exact pby_end hu h
  · rename_i h; unfold pby; rw [pb_out h, Nat.zero_mod]
theorem place8 {i s : Nat} (hs : 0 < s) : i / (8 * s) * s + i % (8 * s) / 8 = i / 8 ∧ i % (8 * s) / 8 < s ∧ i % (8 * s) % 8 = i % 8 := by
  have h := Nat.div_add_mod i (8 * s)
  have hm := Nat.mod_lt i (show 0 < 8 * s by omega)
  generalize i / (8 * s) = q at *
  generalize i % (8 * s) = t at *
  have e : 8 * s * q = 8 * (q * s) := by rw [Nat.mul_assoc, Nat.mul_comm s q]
  rw [e] at h
  generalize q * s = x at *
  refine ⟨by omega, by omega, by omega⟩
theorem row_of {k s r : Nat} (hr : r < s) : (k * s + r) / s = k := by
  rw [Nat.mul_comm, Nat.mul_add_div (by omega), Nat.div_eq_of_lt hr, Nat.add_zero]
theorem bpL_other {ws : List Nat} {s i k : Nat} (hs : 0 < s) (h : k ≠ i / (8 * s)) : bpL ws s (i + 1) k = bpL ws s i k := by
  unfold bpL
  refine List.map_congr_left fun r hr => pby_other fun e => h ?_
  have hr := List.mem_range.1 hr
  obtain ⟨p1, p2, _⟩ := place8 (i := i) hs
  rw [← p1] at e
  have := congrArg (· / s) e
  simp only [row_of hr, row_of p2] at this
  exact this
theorem bpL_bit {ws : List Nat} {s i : Nat} (hs : 0 < s) : bpL ws s (i + 1) (i / (8 * s)) = (bpL ws s i (i / (8 * s))).set (i % (8 * s) / 8) (pby ws (i + 1) (i / 8)) := by
  obtain ⟨p1, p2, _⟩ := place8 (i := i) hs
  unfold bpL
  refine List.ext_getElem (by simp) fun r h1 h2 => ?_
  simp only [List.length_map, List.length_range] at h1
  rw [List.getElem_map, List.getElem_range, List.getElem_set]
  split
  · rename_i e; subst e; rw [p1]
  · rename_i e
    rw [List.getElem_map, List.getElem_range]
    refine pby_other fun e2 => e ?_
    rw [← p1] at e2
    omega
theorem bpL_skip {ws : List Nat} {s i : Nat} (hs : 0 < s) (hb : wbit ws i = false) (k : Nat) : bpL ws s (i + 1) k = bpL ws s i k := by
  unfold bpL
  refine List.map_congr_left fun r _ => ?_
  by_cases e : k * s + r = i / 8
  · rw [e, pby_bit, hb]; simp
  · exact pby_other e
theorem bpL_get {ws : List Nat} {s i : Nat} (hs : 0 < s) : (bpL ws s i (i / (8 * s))).getD (i % (8 * s) / 8) 0 = pby ws i (i / 8) := by
  obtain ⟨p1, p2, _⟩ := place8 (i := i) hs
  unfold bpL
  rw [List.getD_eq_getElem?_getD, List.getElem?_map, List.getElem?_range p2]
  simp [p1]
theorem bpL_fresh {ws : List Nat} {s i : Nat} (hs : 0 < s) (h : i % (8 * s) = 0) : bpL ws s i (i / (8 * s)) = List.replicate s 0 := by
  unfold bpL
  refine List.ext_getElem (by simp) fun r h1 h2 => ?_
  rw [List.getElem_map, List.getElem_range, List.getElem_replicate]
  refine pby_new ?_
  have := Nat.div_add_mod i (8 * s)
  rw [h, Nat.mul_assoc, Nat.mul_comm s] at this
  omega
/-- how many blocks there are ahead of bit i -/
def kb (s i : Nat) : Nat := (i + 8 * s - 1) / (8 * s)
theorem kb_zero {s : Nat} (hs : 0 < s) : kb s 0 = 0 := by unfold kb; exact Nat.div_eq_of_lt (by omega)
theorem kb_at {s i : Nat} (hs : 0 < s) (h : i % (8 * s) = 0) : kb s i = i / (8 * s) := by
  unfold kb
  have e := Nat.div_add_mod i (8 * s)
  rw [h] at e
  generalize i / (8 * s) = q at *
  rw [show i + 8 * s - 1 = 8 * s * q + (8 * s - 1) by omega, Nat.mul_add_div (by omega), Nat.div_eq_of_lt (by omega), Nat.add_zero]
theorem kb_in {s i : Nat} (hs : 0 < s) (h : ¬ i % (8 * s) = 0) : kb s i = i / (8 * s) + 1 := by
  unfold kb
  have e := Nat.div_add_mod i (8 * s)
  have hm := Nat.mod_lt i (show 0 < 8 * s by omega)
  generalize i / (8 * s) = q at *
  generalize i % (8 * s) = t at *
  rw [show i + 8 * s - 1 = 8 * s * (q + 1) + (t - 1) by rw [Nat.mul_add, Nat.mul_one]; omega, Nat.mul_add_div (by omega), Nat.div_eq_of_lt (by omega), Nat.add_zero]
theorem kb_next {s i : Nat} (hs : 0 < s) : kb s (i + 1) = i / (8 * s) + 1 := by
  unfold kb
  have e := Nat.div_add_mod i (8 * s)
  have hm := Nat.mod_lt i (show 0 < 8 * s by omega)
  generalize i / (8 * s) = q at *
  generalize i % (8 * s) = t at *
  rw [show i + 1 + 8 * s - 1 = 8 * s * (q + 1) + t by rw [Nat.mul_add, Nat.mul_one]; omega, Nat.mul_add_div (by omega), Nat.div_eq_of_lt hm, Nat.add_zero]

/-! .. and its memory -/
structure RI (w wr : World) (v : Value) (ws : List Nat) (s i K : Nat) (gs : List Nat) : Prop where
  len : gs.length = K
  own : wr.ownsRow 0 45 1 v K (gs.map fun g => Value.slice (some ⟨g, 0, none⟩) s s)
  vb : ∀ g, v.ownBlock = some g → w.heap.size ≤ g
  blk : ∀ k, k < K → wr.heap[gs.getD k 0]? = some (.cells ((bpL ws s i k).map byteV).toArray 5 (0, 0)) ∧ w.heap.size ≤ gs.getD k 0
  inc : ∀ j k, j < k → k < K → gs.getD j 0 < gs.getD k 0
  bel : Below w.heap.size w wr
theorem RI.start {w wr : World} (ws : List Nat) (s i : Nat) (hb : Below w.heap.size w wr) : RI w wr (.slice none 0 0) ws s i 0 [] :=
  ⟨rfl, ⟨rfl, .inl ⟨rfl, rfl⟩⟩, fun g hg => by simp [Value.ownBlock] at hg, fun k hk => by omega, fun j k _ hk => by omega, hb⟩
theorem RI.apart {w wr : World} {v : Value} {ws : List Nat} {s i K : Nat} {gs : List Nat} (h : RI w wr v ws s i K gs) {k g : Nat} (hk : k < K) (hg : v.ownBlock = some g) : gs.getD k 0 ≠ g := fun e => by
  obtain ⟨h1, _⟩ := h.blk k hk
  rcases h.own.2 with ⟨e0, _⟩ | ⟨g', cap, cur, rfl, _, hh, _⟩
  · rw [e0] at hg; simp [Value.ownBlock] at hg
  · simp only [Value.ownBlock, Option.some.injEq] at hg
    subst hg
    rw [e, hh] at h1
    simp at h1
theorem RI.moved {w wr x : World} {v : Value} {ws : List Nat} {s i K : Nat} {gs : List Nat} (h : RI w wr v ws s i K gs) (hb : Below wr.heap.size wr x) : RI w x v ws s i K gs :=
  ⟨h.len, rowKept h.own (fun g hg => by
    obtain ⟨cs, hcs⟩ : ∃ cs, wr.heap[g]? = some cs := by
      rcases h.own.2 with ⟨e0, _⟩ | ⟨g', cap, cur, rfl, _, hh, _⟩
      · rw [e0] at hg; simp [Value.ownBlock] at hg
      · simp only [Value.ownBlock, Option.some.injEq] at hg
        subst hg; exact ⟨_, hh⟩
    exact hb.block g (Array.getElem?_eq_some_iff.1 hcs).1), h.vb, fun k hk => ⟨(hb.block _ (Array.getElem?_eq_some_iff.1 (h.blk k hk).1).1).trans (h.blk k hk).1, (h.blk k hk).2⟩, h.inc, h.bel.trans (hb.mono h.bel.size)⟩
theorem RI.drew {w wr : World} {v : Value} {ws : List Nat} {s i K : Nat} {gs : List Nat} (h : RI w wr v ws s i K gs) (n : Nat) : RI w (wr.drewN n) v ws s i K gs := h.moved ⟨rfl, rfl, rfl, Nat.le_refl _, fun _ _ => rfl⟩
/-- a bit that is not set -/
theorem RI.skip {w wr : World} {v : Value} {ws : List Nat} {s i K : Nat} {gs : List Nat} (h : RI w wr v ws s i K gs) (hs : 0 < s) (hb : wbit ws i = false) : RI w wr v ws s (i + 1) K gs :=
  ⟨h.len, h.own, h.vb, fun k hk => by rw [bpL_skip hs hb]; exact h.blk k hk, h.inc, h.bel⟩
/-- a bit that is set -/
theorem RI.set {w wr : World} {v : Value} {ws : List Nat} {s i K : Nat} {gs : List Nat} (h : RI w wr v ws s i K gs) (hs : 0 < s) (hK : K = i / (8 * s) + 1) : RI w (wr.setCell ⟨gs.getD (i / (8 * s)) 0, i % (8 * s) / 8, none⟩ (.int .u8 (pby ws (i + 1) (i / 8) : Nat))) v ws s (i + 1) K gs := by
  have hk0 : i / (8 * s) < K := by omega
  obtain ⟨b1, b2⟩ := h.blk _ hk0
  refine ⟨h.len, rowKept h.own (fun g hg => Go.heap_setCell_other _ _ _ _ (by show g ≠ _; exact fun e => h.apart hk0 hg e.symm)), h.vb, fun k hk => ⟨?_, (h.blk k hk).2⟩, h.inc, h.bel.setCell (p := ⟨gs.getD (i / (8 * s)) 0, i % (8 * s) / 8, none⟩) b2 _⟩
  by_cases e : k = i / (8 * s)
  · subst e
    have := Go.heap_setCell_same wr (gs.getD (i / (8 * s)) 0) (i % (8 * s) / 8) _ 5 (.int .u8 (pby ws (i + 1) (i / 8) : Nat)) b1
    rw [this, bpL_bit hs, List.setIfInBounds_toArray, List.map_set]
    rfl
  · have hlt := h.inc k (i / (8 * s)) (by omega) hk0
    rw [Go.heap_setCell_other _ _ _ _ (by show gs.getD k 0 ≠ gs.getD (i / (8 * s)) 0; omega), bpL_other hs e]
    exact (h.blk k hk).1
/-- one block more -/
theorem RI.push {w wr x y : World} {v v' : Value} {ws : List Nat} {s i K : Nat} {gs : List Nat} (h : RI w wr v ws s i K gs) (hs : 0 < s) (hK : K = i / (8 * s)) (hm : i % (8 * s) = 0) (hx : Below wr.heap.size wr x) (hg : x.heap[wr.heap.size]? = some (.cells ((List.replicate s 0).map byteV).toArray 5 (0, 0)))
    (ho : y.ownsRow 0 45 1 v' (K + 1) ((gs.map fun g => Value.slice (some ⟨g, 0, none⟩) s s) ++ [.slice (some ⟨wr.heap.size, 0, none⟩) s s]))
    (hc : (v'.ownBlock = some x.heap.size ∧ x.grownBy y none) ∨ (∃ g, v.ownBlock = some g ∧ v'.ownBlock = some g ∧ x.grownBy y (some g))) : RI w y v' ws s i (K + 1) (gs ++ [wr.heap.size]) := by
  have hxr := h.moved hx
  have hw := h.bel.size
  have hbz := hx.size
  have hlt : wr.heap.size < x.heap.size := (Array.getElem?_eq_some_iff.1 hg).1
  have keep : ∀ b, b < x.heap.size → (∀ g, v.ownBlock = some g → b ≠ g) → y.heap[b]? = x.heap[b]? := fun b hb hne => by
    rcases hc with ⟨_, hgr⟩ | ⟨g, hv, _, hgr⟩
    · exact hgr.block b hb (by simp)
    · exact hgr.block b hb (by simpa using hne g hv)
  have hgv : ∀ g, v.ownBlock = some g → wr.heap.size ≠ g := fun g hgv e => by
    rcases h.own.2 with ⟨e0, _⟩ | ⟨g', cap, cur, rfl, _, hh, _⟩
    · rw [e0] at hgv; simp [Value.ownBlock] at hgv
    · simp only [Value.ownBlock, Option.some.injEq] at hgv
      have := (Array.getElem?_eq_some_iff.1 hh).1
      omega
  have hgd : ∀ k, k < K → (gs ++ [wr.heap.size]).getD k 0 = gs.getD k 0 := fun k hk => by
    rw [List.getD_eq_getElem?_getD, List.getD_eq_getElem?_getD, List.getElem?_append_left (by rw [h.len]; exact hk)]
  have hgl : (gs ++ [wr.heap.size]).getD K 0 = wr.heap.size := by
    rw [List.getD_eq_getElem?_getD, List.getElem?_append_right (by rw [h.len]; exact Nat.le_refl _), h.len]; simp
  have hsz : x.heap.size ≤ y.heap.size := by
    rcases hc with ⟨_, hgr⟩ | ⟨g, _, _, hgr⟩
    · exact hgr.size
    · exact hgr.size
  refine ⟨by simp [h.len], by rw [List.map_append]; exact ho, fun g hg' => ?_, fun k hk => ?_, fun j k hj hk => ?_, ?_⟩
  · rcases hc with ⟨e, _⟩ | ⟨g2, hv, e, _⟩
    · rw [e] at hg'; simp only [Option.some.injEq] at hg'; omega
    · rw [e] at hg'; simp only [Option.some.injEq] at hg'; subst hg'; exact h.vb _ hv
  · by_cases e : k < K
    · rw [hgd k e]
      obtain ⟨b1, b2⟩ := hxr.blk k e
      exact ⟨(keep _ (Array.getElem?_eq_some_iff.1 b1).1 (fun g hv => hxr.apart e hv)).trans b1, b2⟩
    · obtain rfl : k = K := by omega
      rw [hgl]
      refine ⟨(keep _ hlt hgv).trans ?_, hw⟩
      rw [hK, bpL_fresh hs hm]
      exact hg
  · by_cases e : k < K
    · rw [hgd k e, hgd j (by omega)]; exact h.inc j k hj e
    · obtain rfl : k = K := by omega
      rw [hgl, hgd j hj]
      exact (Array.getElem?_eq_some_iff.1 (h.blk j hj).1).1
  · have hb := hxr.bel
    rcases hc with ⟨_, hgr⟩ | ⟨g, hv, _, hgr⟩
    · exact ⟨hgr.os.trans hb.os, hgr.tape.trans hb.tape, hgr.output.trans hb.output, Nat.le_trans hb.size hsz, fun j hj => (hgr.block j (by omega) (by simp)).trans (hb.block j hj)⟩
    · exact ⟨hgr.os.trans hb.os, hgr.tape.trans hb.tape, hgr.output.trans hb.output, Nat.le_trans hb.size hsz, fun j hj => (hgr.block j (by omega) (by have := h.vb g hv; simp; omega)).trans (hb.block j hj)⟩
end Go.Proofs.Ytkjaaknlhmneoaa
