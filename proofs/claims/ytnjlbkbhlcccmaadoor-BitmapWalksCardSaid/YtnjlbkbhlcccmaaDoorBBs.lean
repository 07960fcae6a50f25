import Derived.Test.YtnjlbkbhlcccmaaDoorBBook
namespace Go.Proofs.YtnjlbkbhlcccmaaDoor
open Go.RowKit Go.Shelf
set_option linter.unusedVariables false
set_option linter.unusedSimpArgs false
set_option maxRecDepth 20000

/-- the book, and the blocks U that it lies in; of a late one each list is a row of its own, apart from the others -/
structure Bs (late : Bool) (w : World) (k : Nat) (U : Nat → Prop) (bv raw was : Value) (ys vs us : List Value) : Prop where
  s : BkS w k late bv raw was ys vs us
  ev : ys.length % 2 = 0
  uk : U k
  ub : ∀ b, bv.ownBlock = some b → U b
  ue : ∀ b, Ent raw was ys vs us b → U b
  lt : ∀ b, U b → b < w.heap.size
  rw : ∀ b, raw.ownBlock = some b → was.ownBlock ≠ some b
  br : ∀ b, bv.ownBlock = some b → raw.ownBlock ≠ some b ∧ was.ownBlock ≠ some b
  rk : ∀ b, (raw.ownBlock = some b ∨ was.ownBlock = some b) → b ≠ k
  en : ∀ x, (x ∈ ys ∨ x ∈ vs ∨ x ∈ us) → ∀ b, x.ownBlock = some b → b ≠ k ∧ bv.ownBlock ≠ some b ∧ raw.ownBlock ≠ some b ∧ was.ownBlock ≠ some b
  own : late = true → ∀ x ∈ vs, ∃ l : List Nat, w.ownsRow 0 63 1 x l.length (l.map u64V) ∧ l.length ≤ 17592186044416
  dis : late = true → ∀ (i j : Nat) (x y : Value), vs[i]? = some x → vs[j]? = some y → i ≠ j → ∀ b, x.ownBlock = some b → y.ownBlock ≠ some b
  dus : late = true → ∀ x ∈ vs, ∀ y ∈ us, ∀ b, x.ownBlock = some b → y.ownBlock ≠ some b
theorem Bs.kept {late : Bool} {w w' : World} {k : Nat} {U : Nat → Prop} {bv raw was : Value} {ys vs us : List Value} (h : Bs late w k U bv raw was ys vs us) (hs : w.heap.size ≤ w'.heap.size) (hk : ∀ b, U b → w'.heap[b]? = w.heap[b]?) : Bs late w' k U bv raw was ys vs us := by
  refine ⟨h.s.kept fun b _ hb => hk b ?_, h.ev, h.uk, h.ub, h.ue, fun b hb => Nat.lt_of_lt_of_le (h.lt b hb) hs, h.rw, h.br, h.rk, h.en, fun e x hx => ?_, h.dis, h.dus⟩
  · rcases hb with rfl | e | e
    · exact h.uk
    · exact h.ub b e
    · exact h.ue b e
  · obtain ⟨l, h1, h2⟩ := h.own e x hx
    exact ⟨l, rowKept h1 fun g hg => hk g (h.ue g (.inr (.inr ⟨x, .inr (.inl hx), hg⟩))), h2⟩
theorem Bs.chg {late : Bool} {V : Nat → Prop} {w w' : World} {k : Nat} {U : Nat → Prop} {bv raw was : Value} {ys vs us : List Value} (h : Bs late w k U bv raw was ys vs us) (hc : Chg V w w') (hV : ∀ b, U b → ¬ V b) : Bs late w' k U bv raw was ys vs us :=
  h.kept hc.size fun b hb => hc.keep b (h.lt b hb) (hV b hb)
/-- what keep has turned, and where the book lies now -/
def KpU (w w' : World) (U U' : Nat → Prop) (v : Value) : Prop := Chg (fun b => U b ∨ v.ownBlock = some b) w w' ∧ ∀ b, U' b → U b ∨ v.ownBlock = some b ∨ w.heap.size ≤ b
theorem keepB {w : World} {k n : Nat} {U : Nat → Prop} {bv raw was v : Value} {ys vs us xs : List Value} (h : Bs false w k U bv raw was ys vs us) (hv : w.ownsRow 0 63 1 v n xs) (hn : n ≤ 17592186044416) (hnl : ys.length ≤ 9000000000000) (hap : ∀ b, v.ownBlock = some b → ¬ U b) :
    Calls Tryd.prog 13 #[.pointer (some ⟨k, 0, none⟩), v] w fun e w' => e = .returned (.tuple #[]) ∧ ∃ U' bv' gv, Bs false w' k U' bv' raw was (ys ++ [v, gv]) vs us ∧ KpU w w' U U' v := by
  refine (keepS_any h.s h.ev hv hn hnl fun b he => ?_).mono ?_
  · refine ⟨?_, ?_, fun e => hap b e (h.ue b he)⟩
    · rcases he with e | e | ⟨x, hx, e⟩
      · exact h.rk b (.inl e)
      · exact h.rk b (.inr e)
      · exact (h.en x hx b e).1
    · intro e2
      rcases he with e | e | ⟨x, hx, e⟩
      · exact (h.br b e2).1 e
      · exact (h.br b e2).2 e
      · exact (h.en x hx b e).2.1 e2
  · rintro e w' ⟨rfl, bv', gv, hS, hK⟩
    have hsz := hK.chg.size
    have hnew : ∀ b, gv.ownBlock = some b ∨ bv'.ownBlock = some b → U b ∨ v.ownBlock = some b ∨ w.heap.size ≤ b := fun b hb => by
      rcases hb with e | e
      · rcases hK.gloc b e with h | h
        · exact .inr (.inl h)
        · exact .inr (.inr h)
      · rcases hK.bloc b e with h2 | h2
        · exact .inl (h.ub b h2)
        · exact .inr (.inr h2)
    have hold : ∀ b, U b → bv'.ownBlock = some b → bv.ownBlock = some b := fun b hu e => by
      rcases hK.bloc b e with h2 | h2
      · exact h2
      · have := h.lt b hu; omega
    refine ⟨rfl, fun b => U b ∨ v.ownBlock = some b ∨ gv.ownBlock = some b ∨ bv'.ownBlock = some b, bv', gv, ⟨hS, by simp [h.ev], .inl h.uk, fun b e => .inr (.inr (.inr e)), fun b e => ?_, fun b e => ?_, h.rw, fun b e => ⟨fun e2 => ?_, fun e2 => ?_⟩, h.rk, fun x hx b e => ?_, (fun e => by cases e), (fun e => by cases e), (fun e => by cases e)⟩, ?_, ?_⟩
    · rcases e with e | e | ⟨x, hx, e⟩
      · exact .inl (h.ue b (.inl e))
      · exact .inl (h.ue b (.inr (.inl e)))
      · rcases hx with hx | hx
        · rcases List.mem_append.1 hx with hx | hx
          · exact .inl (h.ue b (.inr (.inr ⟨x, .inl hx, e⟩)))
          · simp only [List.mem_cons, List.not_mem_nil, or_false] at hx
            rcases hx with rfl | rfl
            · exact .inr (.inl e)
            · exact .inr (.inr (.inl e))
        · exact .inl (h.ue b (.inr (.inr ⟨x, .inr hx, e⟩)))
    · rcases e with e | e | e | e
      · exact Nat.lt_of_lt_of_le (h.lt b e) hsz
      · exact (hK.gb b (.inl e)).2.2
      · exact (hK.gb b (.inr e)).2.2
      · exact (hK.bk.bo.lt b e).2
    · have hu := h.ue b (.inl e2)
      exact (h.br b (hold b hu e)).1 e2
    · have hu := h.ue b (.inr (.inl e2))
      exact (h.br b (hold b hu e)).2 e2
    · have hraw : ∀ b, (v.ownBlock = some b ∨ gv.ownBlock = some b) → raw.ownBlock ≠ some b ∧ was.ownBlock ≠ some b := fun b hb => by
        have key : U b → False := fun hu => by
          rcases hb with hb | hb
          · exact hap b hb hu
          · rcases hK.gloc b hb with h2 | h2
            · exact hap b h2 hu
            · have := h.lt b hu; omega
        exact ⟨fun e => key (h.ue b (.inl e)), fun e => key (h.ue b (.inr (.inl e)))⟩
      have hmem : (x ∈ ys ∨ x ∈ vs ∨ x ∈ us) ∨ x = v ∨ x = gv := by
        rcases hx with hx | hx
        · rcases List.mem_append.1 hx with hx | hx
          · exact .inl (.inl hx)
          · simp only [List.mem_cons, List.not_mem_nil, or_false] at hx
            exact .inr hx
        · exact .inl (.inr hx)
      rcases hmem with hx | rfl | rfl
      · obtain ⟨h1, h2, h3, h4⟩ := h.en x hx b e
        have hu := h.ue b (.inr (.inr ⟨x, hx, e⟩))
        exact ⟨h1, fun e2 => h2 (hold b hu e2), h3, h4⟩
      · exact ⟨(hK.gb b (.inl e)).2.1, (hK.gb b (.inl e)).1, (hraw b (.inl e)).1, (hraw b (.inl e)).2⟩
      · exact ⟨(hK.gb b (.inr e)).2.1, (hK.gb b (.inr e)).1, (hraw b (.inr e)).1, (hraw b (.inr e)).2⟩
    · exact hK.chg.mono fun b _ hb => by
        rcases hb with e | e | e
        · exact .inl (e ▸ h.uk)
        · exact .inl (h.ub b e)
        · exact .inr e
    · rintro b (e | e | e | e)
      · exact .inl e
      · exact .inr (.inl e)
      · exact hnew b (.inl e)
      · exact hnew b (.inr e)
theorem mem_snoc {x v : Value} {l : List Value} (h : x ∈ l ++ [v]) : x ∈ l ∨ x = v := by
  rcases List.mem_append.1 h with h | h
  · exact .inl h
  · exact .inr (by simpa using h)
theorem get_snoc {x v : Value} {l : List Value} {i : Nat} (h : (l ++ [v])[i]? = some x) : (i < l.length ∧ l[i]? = some x) ∨ (i = l.length ∧ x = v) := by
  by_cases hi : i < l.length
  · rw [List.getElem?_append_left hi] at h; exact .inl ⟨hi, h⟩
  · rw [List.getElem?_append_right (by omega)] at h
    by_cases hc : i - l.length = 0
    · rw [hc] at h
      exact .inr ⟨by omega, by simpa using h.symm⟩
    · rw [List.getElem?_eq_none (by simp; omega)] at h
      cases h
theorem keepLB {w : World} {k : Nat} {U : Nat → Prop} {bv raw was v : Value} {ys vs us : List Value} {l : List Nat} (h : Bs true w k U bv raw was ys vs us) (hv : w.ownsRow 0 63 1 v l.length (l.map u64V)) (hw : WSl w v l) (hl : l.length ≤ 17592186044416) (hn : vs.length ≤ 9000000000000) (hap : ∀ b, v.ownBlock = some b → ¬ U b) :
    Calls Tryd.prog 13 #[.pointer (some ⟨k, 0, none⟩), v] w fun e w' => e = .returned (.tuple #[]) ∧ ∃ U' raw' was' u, Bs true w' k U' bv raw' was' ys (vs ++ [v]) (us ++ [u]) ∧ KpU w w' U U' v := by
  have hbk : ∀ b, bv.ownBlock = some b → b ≠ k := fun b e => by
    obtain ⟨cs, hcs⟩ := rowCells h.s.bo e
    exact neType hcs h.s.row (by decide)
  refine (keepLateS_any h.s h.rw hv hw hl hn fun b he => ?_).mono ?_
  · rcases he with e | ⟨x, hx, e⟩
    · exact ⟨hbk b e, (h.br b e).1, (h.br b e).2⟩
    · exact ⟨(h.en x hx b e).1, (h.en x hx b e).2.2.1, (h.en x hx b e).2.2.2⟩
  · rintro e w' ⟨rfl, raw', was', u, hS, hL⟩
    have hsz := hL.chg.size
    have hkl := h.lt k h.uk
    have hro : ∀ b, U b → raw'.ownBlock = some b → raw.ownBlock = some b := fun b hu e => by
      rcases hL.rl b e with h2 | h2
      · exact h2
      · have := h.lt b hu; omega
    have hwo : ∀ b, U b → was'.ownBlock = some b → was.ownBlock = some b := fun b hu e => by
      rcases hL.wl b e with h2 | h2
      · exact h2
      · have := h.lt b hu; omega
    have hvl : ∀ b, v.ownBlock = some b → b < w.heap.size := fun b e => (hv.lt b e).2
    have hun : ∀ b, u.ownBlock = some b → ¬ U b := fun b e hu => by have := hL.ul b e; have := h.lt b hu; omega
    have hent : ∀ x, (x ∈ ys ∨ x ∈ vs ∨ x ∈ us) → ∀ b, x.ownBlock = some b → U b := fun x hx b e => h.ue b (.inr (.inr ⟨x, hx, e⟩))
    refine ⟨rfl, fun b => U b ∨ v.ownBlock = some b ∨ u.ownBlock = some b ∨ raw'.ownBlock = some b ∨ was'.ownBlock = some b, raw', was', u, ⟨hS, h.ev, .inl h.uk, fun b e => .inl (h.ub b e), fun b e => ?_, fun b e => ?_, hL.ne, fun b e => ⟨fun e2 => (h.br b e).1 (hro b (h.ub b e) e2), fun e2 => (h.br b e).2 (hwo b (h.ub b e) e2)⟩, fun b e => ?_, fun x hx b e => ?_, fun _ x hx => ?_, fun _ i j x y h1 h2 hij b e e2 => ?_, fun _ x hx y hy b e e2 => ?_⟩, ?_, ?_⟩
    · rcases e with e | e | ⟨x, hx, e⟩
      · exact .inr (.inr (.inr (.inl e)))
      · exact .inr (.inr (.inr (.inr e)))
      · rcases hx with hx | hx | hx
        · exact .inl (hent x (.inl hx) b e)
        · rcases mem_snoc hx with hx | rfl
          · exact .inl (hent x (.inr (.inl hx)) b e)
          · exact .inr (.inl e)
        · rcases mem_snoc hx with hx | rfl
          · exact .inl (hent x (.inr (.inr hx)) b e)
          · exact .inr (.inr (.inl e))
    · rcases e with e | e | e | e | e
      · exact Nat.lt_of_lt_of_le (h.lt b e) hsz
      · exact Nat.lt_of_lt_of_le (hvl b e) hsz
      · exact (hL.ub b e).2.2.2
      · exact (hL.ro.lt b e).2
      · exact (hL.wo.lt b e).2
    · rcases e with e | e
      · rcases hL.rl b e with h2 | h2
        · exact h.rk b (.inl h2)
        · omega
      · rcases hL.wl b e with h2 | h2
        · exact h.rk b (.inr h2)
        · omega
    · have old : (x ∈ ys ∨ x ∈ vs ∨ x ∈ us) → b ≠ k ∧ bv.ownBlock ≠ some b ∧ raw'.ownBlock ≠ some b ∧ was'.ownBlock ≠ some b := fun hx => by
        obtain ⟨h1, h2, h3, h4⟩ := h.en x hx b e
        have hu := hent x hx b e
        exact ⟨h1, h2, fun e2 => h3 (hro b hu e2), fun e2 => h4 (hwo b hu e2)⟩
      have newV : v.ownBlock = some b → b ≠ k ∧ bv.ownBlock ≠ some b ∧ raw'.ownBlock ≠ some b ∧ was'.ownBlock ≠ some b := fun ev => by
        have hnu := hap b ev
        have hlt := hvl b ev
        refine ⟨fun e2 => hnu (e2 ▸ h.uk), fun e2 => hnu (h.ub b e2), fun e2 => ?_, fun e2 => ?_⟩
        · rcases hL.rl b e2 with h2 | h2
          · exact hnu (h.ue b (.inl h2))
          · omega
        · rcases hL.wl b e2 with h2 | h2
          · exact hnu (h.ue b (.inr (.inl h2)))
          · omega
      rcases hx with hx | hx | hx
      · exact old (.inl hx)
      · rcases mem_snoc hx with hx | rfl
        · exact old (.inr (.inl hx))
        · exact newV e
      · rcases mem_snoc hx with hx | rfl
        · exact old (.inr (.inr hx))
        · obtain ⟨h1, h2, h3, h4⟩ := hL.ub b e
          exact ⟨h3, fun e2 => hun b e (h.ub b e2), h1, h2⟩
    · rcases mem_snoc hx with hx | rfl
      · obtain ⟨l', h1, h2⟩ := h.own rfl x hx
        refine ⟨l', rowKept h1 fun g hg => hL.chg.keep g (h1.lt g hg).2 ?_, h2⟩
        obtain ⟨n1, n2, n3, n4⟩ := h.en x (.inr (.inl hx)) g hg
        rintro (e | e | e)
        · exact n1 e
        · exact n3 e
        · exact n4 e
      · refine ⟨l, rowKept hv fun g hg => hL.chg.keep g (hvl g hg) ?_, hl⟩
        have hnu := hap g hg
        rintro (e | e | e)
        · exact hnu (e ▸ h.uk)
        · exact hnu (h.ue g (.inl e))
        · exact hnu (h.ue g (.inr (.inl e)))
    · rcases get_snoc h1 with ⟨i1, h3⟩ | ⟨i1, h3⟩
      · rcases get_snoc h2 with ⟨i2, h4⟩ | ⟨i2, h4⟩
        · exact h.dis rfl i j x y h3 h4 hij b e e2
        · exact hap b (h4 ▸ e2) (hent x (.inr (.inl (List.mem_of_getElem? h3))) b e)
      · rcases get_snoc h2 with ⟨i2, h4⟩ | ⟨i2, h4⟩
        · exact hap b (h3 ▸ e) (hent y (.inr (.inl (List.mem_of_getElem? h4))) b e2)
        · omega
    · rcases mem_snoc hx with hx | rfl
      · rcases mem_snoc hy with hy | rfl
        · exact h.dus rfl x hx y hy b e e2
        · exact hun b e2 (hent x (.inr (.inl hx)) b e)
      · rcases mem_snoc hy with hy | rfl
        · exact hap b e (hent y (.inr (.inr hy)) b e2)
        · have := hvl b e; have := hL.ul b e2; omega
    · exact hL.chg.mono fun b _ hb => by
        rcases hb with e | e | e
        · exact .inl (e ▸ h.uk)
        · exact .inl (h.ue b (.inl e))
        · exact .inl (h.ue b (.inr (.inl e)))
    · rintro b (e | e | e | e | e)
      · exact .inl e
      · exact .inr (.inl e)
      · exact .inr (.inr (hL.ul b e))
      · rcases hL.rl b e with h2 | h2
        · exact .inl (h.ue b (.inl h2))
        · exact .inr (.inr h2)
      · rcases hL.wl b e with h2 | h2
        · exact .inl (h.ue b (.inr (.inl h2)))
        · exact .inr (.inr h2)
end Go.Proofs.YtnjlbkbhlcccmaaDoor
