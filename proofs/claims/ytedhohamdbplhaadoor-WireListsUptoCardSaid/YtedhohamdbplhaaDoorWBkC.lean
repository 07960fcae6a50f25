import Derived.Test.YtedhohamdbplhaaDoorWBkB
import Derived.Test.YtedhohamdbplhaaDoorWRoom
namespace Go.Proofs.YtedhohamdbplhaaDoor
open Go.RowKit
open Num
set_option linter.unusedVariables false
set_option linter.unusedSimpArgs false
set_option maxRecDepth 20000

section
variable {w x : World} {lo : Nat} {fs ws ks ns pend : List Value} {v u : Value}
theorem sep_mid {fs pend : List Value} {v : Value} : (fs ++ v :: pend).Pairwise Sep ↔ (∀ u : Value, u ∈ fs ∨ u ∈ pend → Sep v u) ∧ (fs ++ pend).Pairwise Sep := by
  rw [List.pairwise_middle fun {a b} h => Sep.symm h, List.pairwise_cons]
  simp only [List.mem_append]
theorem Bd.tail (h : Bd w lo fs ws ks ns (v :: pend)) : Bd w lo fs ws ks ns pend :=
  ⟨h.fr, h.kp, fun u hu => h.ow u (hu.imp id (List.mem_cons_of_mem _)), (sep_mid.1 h.sep).2, fun u hu => h.held u (hu.imp id (List.mem_cons_of_mem _)), h.hl⟩
theorem Bd.sepV (h : Bd w lo fs ws ks ns (v :: pend)) : ∀ u : Value, u ∈ fs ∨ u ∈ pend → Sep v u := (sep_mid.1 h.sep).1
theorem Bd.heldV (h : Bd w lo fs ws ks ns (v :: pend)) : ∀ u : Value, u ∈ ws ∨ u ∈ ks ∨ u ∈ ns → Sep v u := h.held v (.inr List.mem_cons_self)
theorem Bd.cons (h : Bd w lo fs ws ks ns pend) {l : List Nat} (ho : Own w lo v l) (hl : l.length ≤ 1000000) (h1 : ∀ u : Value, u ∈ fs ∨ u ∈ pend → Sep v u) (h2 : ∀ u : Value, u ∈ ws ∨ u ∈ ks ∨ u ∈ ns → Sep v u) : Bd w lo fs ws ks ns (v :: pend) := by
  refine ⟨h.fr, h.kp, fun u hu => ?_, sep_mid.2 ⟨h1, h.sep⟩, fun u hu => ?_, h.hl⟩
  · rcases hu with hu | hu
    · exact h.ow u (.inl hu)
    · rcases List.mem_cons.1 hu with rfl | hu
      · exact ⟨l, ho, hl⟩
      · exact h.ow u (.inr hu)
  · rcases hu with hu | hu
    · exact h.held u (.inl hu)
    · rcases List.mem_cons.1 hu with rfl | hu
      · exact h2
      · exact h.held u (.inr hu)
/-- blocks of the book's lists are there -/
theorem Bd.ltP (h : Bd w lo fs ws ks ns pend) {u : Value} (hu : u ∈ fs ∨ u ∈ pend) {g : Nat} (e : u.ownBlock = some g) : g < w.heap.size := by
  obtain ⟨l, ho, -⟩ := h.ow u hu
  exact (ho.ltO e).2
theorem Bd.ltH (h : Bd w lo fs ws ks ns pend) {u : Value} (hu : u ∈ ws ∨ u ∈ ks ∨ u ∈ ns) {g : Nat} (e : u.ownBlock = some g) : g < w.heap.size := by
  obtain ⟨l, -, hc⟩ := h.hl u hu
  obtain ⟨cs, hc⟩ := hc g e
  exact (Array.getElem?_eq_some_iff.1 hc).1
/-- only the block of v, and new ones, have turned -/
theorem Bd.chgV (h : Bd w lo fs ws ks ns pend) (hc : Chg (fun g => v.ownBlock = some g) w x) (h1 : ∀ u : Value, u ∈ fs ∨ u ∈ pend → Sep v u) (h2 : ∀ u : Value, u ∈ ws ∨ u ∈ ks ∨ u ∈ ns → Sep v u) : Bd x lo fs ws ks ns pend :=
  h.keep (fun g => v.ownBlock = some g) (fun g cs hg hn => hc.keep g (Array.getElem?_eq_some_iff.1 hg).1 hn) fun g hg => ⟨fun u hu e => h1 u hu g hg e, fun u hu e => h2 u hu g hg e⟩
/-- blocks that are no bytes, and new ones -/
theorem Bd.chgN {U : Nat → Prop} (h : Bd w lo fs ws ks ns pend) (hc : Chg U w x) (hU : ∀ g, U g → ∀ cs : Array Value, w.heap[g]? ≠ some (.cells cs 5 (0, 0))) : Bd x lo fs ws ks ns pend :=
  h.keep (fun _ => False) (fun g cs hg _ => hc.keep g (Array.getElem?_eq_some_iff.1 hg).1 fun hu => hU g hu cs hg) fun g e => e.elim
theorem getElem?_snoc {l : List Value} {u y : Value} {i : Nat} (h : (l ++ [u])[i]? = some y) : l[i]? = some y ∨ (i = l.length ∧ y = u) := by
  rcases Nat.lt_or_ge i l.length with hi | hi
  · rw [List.getElem?_append_left hi] at h
    exact .inl h
  · rw [List.getElem?_append_right hi] at h
    obtain hz | hz : i - l.length = 0 ∨ 0 < i - l.length := by omega
    · rw [hz] at h
      simp at h
      exact .inr ⟨by omega, h.symm⟩
    · rw [List.getElem?_eq_none (by simp; omega)] at h
      cases h
theorem Bd.addK (h : Bd w lo fs ws ks ns pend) (hu : Held w u) (hs : ∀ v : Value, v ∈ fs ∨ v ∈ pend → Sep v u) (hn : ns.length ≤ ks.length) : Bd w lo fs ws (ks ++ [u]) ns pend := by
  refine ⟨h.fr, fun i a b ha hb => ?_, h.ow, h.sep, fun v hv y hy => ?_, fun y hy => ?_⟩
  · rcases getElem?_snoc ha with ha | ⟨rfl, -⟩
    · exact h.kp i a b ha hb
    · rw [List.getElem?_eq_none hn] at hb
      cases hb
  · rcases hy with hy | hy | hy
    · exact h.held v hv y (.inl hy)
    · rcases List.mem_append.1 hy with hy | hy
      · exact h.held v hv y (.inr (.inl hy))
      · rw [List.mem_singleton.1 hy]; exact hs v hv
    · exact h.held v hv y (.inr (.inr hy))
  · rcases hy with hy | hy | hy
    · exact h.hl y (.inl hy)
    · rcases List.mem_append.1 hy with hy | hy
      · exact h.hl y (.inr (.inl hy))
      · rw [List.mem_singleton.1 hy]; exact hu
    · exact h.hl y (.inr (.inr hy))
theorem Bd.addN (h : Bd w lo fs ws ks ns pend) (hu : Held w u) (hs : ∀ v : Value, v ∈ fs ∨ v ∈ pend → Sep v u) (ha : ∀ v, ks[ns.length]? = some v → Alike w v u) : Bd w lo fs ws ks (ns ++ [u]) pend := by
  refine ⟨h.fr, fun i a b h1 hb => ?_, h.ow, h.sep, fun v hv y hy => ?_, fun y hy => ?_⟩
  · rcases getElem?_snoc hb with hb | ⟨rfl, rfl⟩
    · exact h.kp i a b h1 hb
    · exact ha a h1
  · rcases hy with hy | hy | hy
    · exact h.held v hv y (.inl hy)
    · exact h.held v hv y (.inr (.inl hy))
    · rcases List.mem_append.1 hy with hy | hy
      · exact h.held v hv y (.inr (.inr hy))
      · rw [List.mem_singleton.1 hy]; exact hs v hv
  · rcases hy with hy | hy | hy
    · exact h.hl y (.inl hy)
    · exact h.hl y (.inr (.inl hy))
    · rcases List.mem_append.1 hy with hy | hy
      · exact h.hl y (.inr (.inr hy))
      · rw [List.mem_singleton.1 hy]; exact hu
theorem Bd.addF (h : Bd w lo fs ws ks ns (v :: pend)) (hn : ws.length ≤ fs.length) : Bd w lo (fs ++ [v]) ws ks ns pend := by
  have mem : ∀ {u : Value}, u ∈ fs ++ [v] ∨ u ∈ pend → u ∈ fs ∨ u ∈ v :: pend := fun hu => by
    rcases hu with hu | hu
    · rcases List.mem_append.1 hu with hu | hu
      · exact .inl hu
      · rw [List.mem_singleton.1 hu]; exact .inr List.mem_cons_self
    · exact .inr (List.mem_cons_of_mem _ hu)
  refine ⟨fun i a b ha hb => ?_, h.kp, fun u hu => h.ow u (mem hu), by rw [List.append_assoc]; exact h.sep, fun u hu => h.held u (mem hu), h.hl⟩
  rcases getElem?_snoc ha with ha | ⟨rfl, -⟩
  · exact h.fr i a b ha hb
  · rw [List.getElem?_eq_none hn] at hb
    cases hb
theorem Bd.addW (h : Bd w lo fs ws ks ns pend) (hu : Held w u) (hs : ∀ v : Value, v ∈ fs ∨ v ∈ pend → Sep v u) (ha : ∀ v, fs[ws.length]? = some v → Alike w v u) : Bd w lo fs (ws ++ [u]) ks ns pend := by
  refine ⟨fun i a b h1 hb => ?_, h.kp, h.ow, h.sep, fun v hv y hy => ?_, fun y hy => ?_⟩
  · rcases getElem?_snoc hb with hb | ⟨rfl, rfl⟩
    · exact h.fr i a b h1 hb
    · exact ha a h1
  · rcases hy with hy | hy
    · rcases List.mem_append.1 hy with hy | hy
      · exact h.held v hv y (.inl hy)
      · rw [List.mem_singleton.1 hy]; exact hs v hv
    · exact h.held v hv y (.inr hy)
  · rcases hy with hy | hy
    · rcases List.mem_append.1 hy with hy | hy
      · exact h.hl y (.inl hy)
      · rw [List.mem_singleton.1 hy]; exact hu
    · exact h.hl y (.inr hy)
/-- the fresh ones are handed on to be written -/
theorem Bd.freed (h : Bd w lo fs ws ks ns pend) : Bd w lo [] [] ks ns (fs ++ pend) :=
  ⟨fun i u v hu _ => by simp at hu, h.kp, fun u hu => h.ow u (by simpa using hu), by simpa using h.sep, fun u hu y hy => h.held u (by simpa using hu) y (.inr (by simpa using hy)), fun y hy => h.hl y (.inr (by simpa using hy))⟩
end
/-- a list, and what it has been grown to -/
structure Two (w1 x : World) (lo : Nat) (v g : Value) (n k : Nat) : Prop where
  bv : ∃ l, BSl x v l ∧ l.length = n
  u8v : ∀ b, v.ownBlock = some b → ∃ cs, x.heap[b]? = some (.cells cs 5 (0, 0))
  og : ∃ l, Own x lo g l ∧ l.length = n + k
  loc : ∀ b, g.ownBlock = some b → v.ownBlock = some b ∨ w1.heap.size ≤ b
  chg : Chg (fun b => v.ownBlock = some b) w1 x
  lo_ : lo ≤ w1.heap.size
  vf : (v = .slice none 0 0 ∧ n = 0) ∨ ∃ b c, v = .slice (some ⟨b, 0, none⟩) n c ∧ n ≤ c ∧ c ≤ maxLen
theorem own_form {w : World} {lo : Nat} {v : Value} {l : List Nat} {n : Nat} (h : Own w lo v l) (hn : l.length = n) : (v = .slice none 0 0 ∧ n = 0) ∨ ∃ b c, v = .slice (some ⟨b, 0, none⟩) n c ∧ n ≤ c ∧ c ≤ maxLen := by
  subst hn
  rcases h.1.2 with h0 | ⟨g, cap, cur, rfl, -, -, h1, h2, -⟩
  · exact .inl h0
  · exact .inr ⟨g, cap, rfl, h1, h2⟩
theorem Two.start {w : World} {lo : Nat} {v : Value} {l : List Nat} {n : Nat} (h : Own w lo v l) (hn : l.length = n) (hlo : lo ≤ w.heap.size) : Two w w lo v v n 0 :=
  ⟨⟨l, h.bsl, hn⟩, fun b e => h.u8 e, ⟨l, h, hn⟩, fun b e => .inl e, Chg.refl _ _, hlo, own_form h hn⟩
theorem two_bsl {x : World} {lo b c n m c' : Nat} {l : List Nat} (ho : Own x lo (.slice (some ⟨b, 0, none⟩) m c') l) (hm : l.length = m) (hn : n ≤ m) (h1 : n ≤ c) (h2 : c ≤ maxLen) : BSl x (.slice (some ⟨b, 0, none⟩) n c) (l.take n) := by
  subst hm
  have hp := ho.part n hn
  obtain ⟨a, cap, e, -, -, -, hb, hc⟩ := hp
  have hl : (l.take n).length = n := by simp; omega
  refine ⟨_, c, by rw [hl], by omega, h2, by simp, hb, fun hpos => ?_⟩
  obtain ⟨b', off, e2, hcc⟩ := hc hpos
  subst e2
  simp only [Value.slice.injEq, Option.some.injEq, Addr.mk.injEq] at e
  obtain ⟨⟨rfl, rfl, -⟩, -, -⟩ := e
  exact ⟨b, 0, rfl, hcc⟩
theorem Two.row {w1 x : World} {lo n k : Nat} {v g : Value} (h : Two w1 x lo v g n k) : ∃ l2 : List Nat, l2.length = n + k ∧ (∀ b ∈ l2, b < 256) ∧ ∀ o, (x.alloc o).ownsRow 0 5 1 g (n + k) (l2.map byteV) := by
  obtain ⟨l2, ho, hl⟩ := h.og
  refine ⟨l2, hl, ho.2, fun o => ?_⟩
  have := row0 (ho.kept ((Below.refl _ _).alloc (Nat.le_refl _) o)).1
  rw [hl] at this
  exact this
theorem Two.app {w1 x x' : World} {lo n k z : Nat} {v g g' : Value} {l2 : List Nat} {o : Obj} (h : Two w1 x lo v g n k) (hl : l2.length = n + k) (hb : ∀ b ∈ l2, b < 256) (hz : z < 256) (ho : x'.ownsRow 0 5 1 g' (n + k + 1) (l2.map byteV ++ [.int .u8 (z : Int)])) (hu : UponC (x.alloc o) x' g g') : Two w1 x' lo v g' n (k + 1) := by
  obtain ⟨l, hbv, hbl⟩ := h.bv
  obtain ⟨l3, ho3, hl3⟩ := h.og
  have hsx : (x.alloc o).heap.size = x.heap.size + 1 := by simp
  have hlo : ∀ b, g'.ownBlock = some b → lo ≤ b := fun b e => by
    rcases hu.loc b e with e2 | e2
    · exact (ho3.ltO e2).1
    · have := h.chg.size; have := h.lo_; omega
  have hO : Own x' lo g' (l2 ++ [z]) := by
    refine ⟨?_, fun y hy => ?_⟩
    · rw [List.length_append, List.length_singleton, hl, List.map_append]
      exact rowLow ho hlo
    · rcases List.mem_append.1 hy with hy | hy
      · exact hb y hy
      · rw [List.mem_singleton.1 hy]; exact hz
  have hOl : (l2 ++ [z]).length = n + (k + 1) := by simp; omega
  have kept : ∀ b, v.ownBlock = some b → g'.ownBlock ≠ some b → x'.heap[b]? = x.heap[b]? := fun b e hne => by
    obtain ⟨cs, hc⟩ := h.u8v b e
    have hlt := (Array.getElem?_eq_some_iff.1 hc).1
    have h0 : (x.alloc o).heap[b]? = x.heap[b]? := Go.heap_alloc_old x o hlt
    rw [← h0]
    rcases hu with ⟨_, hg⟩ | ⟨gg, e1, e2, hg⟩
    · exact hg.block b (by omega) (by simp)
    · exact hg.block b (by omega) (fun e3 => hne (by rw [e2, ← e3]))
  refine ⟨?_, fun b e => ?_, ⟨_, hO, hOl⟩, fun b e => ?_, ?_, h.lo_, h.vf⟩
  · rcases h.vf with ⟨rfl, rfl⟩ | ⟨b, c, rfl, h1, h2⟩
    · exact ⟨l, hbv.stay fun g e => by simp [Value.ownBlock] at e, hbl⟩
    · by_cases e : g'.ownBlock = some b
      · rcases own_form hO hOl with ⟨rfl, -⟩ | ⟨b', c', rfl, h3, h4⟩
        · simp [Value.ownBlock] at e
        · simp only [Value.ownBlock, Option.some.injEq] at e
          subst e
          exact ⟨_, two_bsl hO hOl (by omega) h1 h2, by simp; omega⟩
      · exact ⟨l, hbv.stay fun b' e' => kept b' e' (by simp only [Value.ownBlock, Option.some.injEq] at e'; subst e'; exact e), hbl⟩
  · by_cases e2 : g'.ownBlock = some b
    · exact hO.u8 e2
    · obtain ⟨cs, hc⟩ := h.u8v b e
      exact ⟨cs, (kept b e e2).trans hc⟩
  · rcases hu.loc b e with e2 | e2
    · exact h.loc b e2
    · have := h.chg.size; exact .inr (by omega)
  · refine ⟨hu.same.1.trans h.chg.os, hu.same.2.1.trans h.chg.tape, hu.same.2.2.trans h.chg.output, ?_, fun b hb' hn => ?_⟩
    · have := h.chg.size; have := hu.size; omega
    · have := h.chg.size
      rw [hu.block b (by omega) (fun e => (h.loc b e).elim hn fun e => by omega), Go.heap_alloc_old x o (by omega)]
      exact h.chg.keep b hb' hn
end Go.Proofs.YtedhohamdbplhaaDoor
