import Derived.Test.YtglajdmkbckjjabBSettle
import Derived.Test.YtglajdmkbckjjabBKeepA
namespace Go.Proofs.Ytglajdmkbckjjab
open Go.RowKit Go.Shelf
set_option linter.unusedVariables false
set_option linter.unusedSimpArgs false
set_option maxRecDepth 20000

/-- half way through settled: the first i lists are written full -/
structure SvD (w0 wr : World) (N k : Nat) (bv raw was : Value) (ys vs us : List Value) (i : Nat) : Prop where
  s : BkS wr k false bv raw was ys vs us
  len : ys.length = 2 * i
  lt : ∀ b, Ent raw was ys vs us b → b < wr.heap.size
  d1 : ∀ b, Ent raw was ys vs us b → b ≠ k ∧ bv.ownBlock ≠ some b
  own : ∀ (j : Nat) (x : Value), i ≤ j → vs[j]? = some x → ∃ l : List Nat, wr.ownsRow 0 58 1 x l.length (l.map u64V) ∧ l.length ≤ 17592186044416
  d2 : ∀ (j : Nat) (x : Value), i ≤ j → vs[j]? = some x → ∀ b, x.ownBlock = some b → raw.ownBlock ≠ some b ∧ was.ownBlock ≠ some b ∧ (∀ y, (y ∈ ys ∨ y ∈ us) → y.ownBlock ≠ some b) ∧ ∀ (j' : Nat) (y : Value), j' ≠ j → vs[j']? = some y → y.ownBlock ≠ some b
  be : Below N w0 wr
  nb : ∀ b, (b = k ∨ bv.ownBlock = some b ∨ Ent raw was ys vs us b) → N ≤ b
def Sv (w0 wr : World) (N k : Nat) (raw was : Value) (vs us : List Value) (i : Nat) : Prop := ∃ bv ys, SvD w0 wr N k bv raw was ys vs us i
theorem Sv.step {w0 wr : World} {N k i : Nat} {raw was v : Value} {vs us : List Value} (h : Sv w0 wr N k raw was vs us i) (hv : vs[i]? = some v) (hi : i ≤ 4000000000000) :
    Calls Try.prog 9 #[.pointer (some ⟨k, 0, none⟩), v] wr fun e w' => e = .returned (.tuple #[]) ∧ Sv w0 w' N k raw was vs us (i + 1) := by
  obtain ⟨bv, ys, h⟩ := h
  obtain ⟨l, hr, hl⟩ := h.own i v (Nat.le_refl _) hv
  have hlen := h.len
  have hE : ∀ b, Ent2 i raw was ys vs us b → Ent raw was ys vs us b := by
    rintro b (e | e | ⟨x, hx, e⟩ | ⟨j, x, _, hx, e⟩)
    · exact .inl e
    · exact .inr (.inl e)
    · exact .inr (.inr ⟨x, hx.imp id .inr, e⟩)
    · exact .inr (.inr ⟨x, .inr (.inl (List.mem_of_getElem? hx)), e⟩)
  refine (keepS2_any h.s (by omega) hv hr hl (by omega) fun b he => ?_).mono ?_
  · refine ⟨(h.d1 b (hE b he)).1, (h.d1 b (hE b he)).2, fun e => ?_⟩
    obtain ⟨q1, q2, q3, q4⟩ := h.d2 i v (Nat.le_refl _) hv b e
    rcases he with e | e | ⟨x, hx, e⟩ | ⟨j, x, hj, hx, e⟩
    · exact q1 e
    · exact q2 e
    · exact q3 x hx e
    · exact q4 j x hj hx e
  · rintro e w' ⟨rfl, bv', gv, hS, hK⟩
    have hsz := hK.chg.size
    have hvE : ∀ b, v.ownBlock = some b → Ent raw was ys vs us b := fun b e => .inr (.inr ⟨v, .inr (.inl (List.mem_of_getElem? hv)), e⟩)
    have hsplit : ∀ b, Ent raw was (ys ++ [v, gv]) vs us b → Ent raw was ys vs us b ∨ v.ownBlock = some b ∨ gv.ownBlock = some b := by
      rintro b (e | e | ⟨x, hx, e⟩)
      · exact .inl (.inl e)
      · exact .inl (.inr (.inl e))
      · rcases hx with hx | hx
        · rcases List.mem_append.1 hx with hx | hx
          · exact .inl (.inr (.inr ⟨x, .inl hx, e⟩))
          · simp only [List.mem_cons, List.not_mem_nil, or_false] at hx
            rcases hx with rfl | rfl
            · exact .inr (.inl e)
            · exact .inr (.inr e)
        · exact .inl (.inr (.inr ⟨x, .inr hx, e⟩))
    refine ⟨rfl, bv', ys ++ [v, gv], ⟨hS, by simp [hlen]; omega, fun b hb => ?_, fun b hb => ?_, fun j x hj hx => ?_, fun j x hj hx b e => ?_, ?_, fun b hb => ?_⟩⟩
    · rcases hsplit b hb with e | e | e
      · exact Nat.lt_of_lt_of_le (h.lt b e) hsz
      · exact (hK.gb b (.inl e)).2.2
      · exact (hK.gb b (.inr e)).2.2
    · rcases hsplit b hb with e | e | e
      · refine ⟨(h.d1 b e).1, fun e2 => ?_⟩
        rcases hK.bloc b e2 with e3 | e3
        · exact (h.d1 b e).2 e3
        · have := h.lt b e; omega
      · exact ⟨(hK.gb b (.inl e)).2.1, (hK.gb b (.inl e)).1⟩
      · exact ⟨(hK.gb b (.inr e)).2.1, (hK.gb b (.inr e)).1⟩
    · obtain ⟨l', h1, h2⟩ := h.own j x (by omega) hx
      refine ⟨l', rowKept h1 fun g hg => hK.chg.keep g (h1.lt g hg).2 ?_, h2⟩
      have hx' : Ent raw was ys vs us g := .inr (.inr ⟨x, .inr (.inl (List.mem_of_getElem? hx)), hg⟩)
      rintro (e | e | e)
      · exact (h.d1 g hx').1 e
      · exact (h.d1 g hx').2 e
      · exact (h.d2 j x (by omega) hx g hg).2.2.2 i v (by omega) hv e
    · obtain ⟨q1, q2, q3, q4⟩ := h.d2 j x (by omega) hx b e
      have hx' : Ent raw was ys vs us b := .inr (.inr ⟨x, .inr (.inl (List.mem_of_getElem? hx)), e⟩)
      refine ⟨q1, q2, fun y hy e2 => ?_, q4⟩
      rcases hy with hy | hy
      · rcases List.mem_append.1 hy with hy | hy
        · exact q3 y (.inl hy) e2
        · simp only [List.mem_cons, List.not_mem_nil, or_false] at hy
          rcases hy with rfl | rfl
          · exact q4 i _ (by omega) hv e2
          · rcases hK.gloc b e2 with e3 | e3
            · exact q4 i _ (by omega) hv e3
            · have := h.lt b hx'; omega
      · exact q3 y (.inr hy) e2
    · refine h.be.trans (hK.chg.below (Nat.le_trans ?_ (Nat.le_of_lt (Array.getElem?_eq_some_iff.1 h.s.row).1)) ?_)
      · exact h.nb k (.inl rfl)
      · rintro b (e | e | e)
        · exact h.nb b (.inl e)
        · exact h.nb b (.inr (.inl e))
        · exact h.nb b (.inr (.inr (hvE b e)))
    · have hk0 : N ≤ wr.heap.size := Nat.le_trans (h.nb k (.inl rfl)) (Nat.le_of_lt (Array.getElem?_eq_some_iff.1 h.s.row).1)
      rcases hb with e | e | e
      · exact h.nb b (.inl e)
      · rcases hK.bloc b e with e3 | e3
        · exact h.nb b (.inr (.inl e3))
        · omega
      · rcases hsplit b e with e | e | e
        · exact h.nb b (.inr (.inr e))
        · exact h.nb b (.inr (.inr (hvE b e)))
        · rcases hK.gloc b e with e3 | e3
          · exact h.nb b (.inr (.inr (hvE b e3)))
          · omega
theorem Sv.start {w w1 : World} {N k : Nat} {U : Nat → Prop} {bv raw was : Value} {vs us : List Value} (h : Bs true w k U bv raw was [] vs us) (hN : ∀ b, U b → N ≤ b) (hq : Qt w w1) : Sv w (w1.setCell ⟨k, 1, none⟩ (.bool false)) N k raw was vs us 0 := by
  have hk : ∀ b, b ≠ k → (w1.setCell ⟨k, 1, none⟩ (.bool false)).heap[b]? = w.heap[b]? := fun b hb => by
    rw [Go.heap_setCell_other _ _ _ _ (by exact hb), hq.1]
  have hsz : (w1.setCell ⟨k, 1, none⟩ (.bool false)).heap.size = w.heap.size := by rw [World.size_setCell, hq.1]
  have hrow : (w1.setCell ⟨k, 1, none⟩ (.bool false)).heap[k]? = some (.cells #[bv, .bool false, raw, was] 29 (0, 0)) := by
    have h1 : w1.heap[k]? = some (.cells #[bv, .bool true, raw, was] 29 (0, 0)) := by rw [hq.1]; exact h.s.row
    exact Go.heap_setCell_same w1 _ 1 _ 29 _ h1
  have hEU : ∀ b, Ent raw was [] vs us b → U b := h.ue
  have hd1 : ∀ b, Ent raw was [] vs us b → b ≠ k ∧ bv.ownBlock ≠ some b := by
    rintro b (e | e | ⟨x, hx, e⟩)
    · exact ⟨h.rk b (.inl e), fun e2 => (h.br b e2).1 e⟩
    · exact ⟨h.rk b (.inr e), fun e2 => (h.br b e2).2 e⟩
    · exact ⟨(h.en x hx b e).1, (h.en x hx b e).2.1⟩
  have hbk : ∀ b, bv.ownBlock = some b → b ≠ k := fun b e => by
    obtain ⟨cs, hcs⟩ := rowCells h.s.bo e
    exact neType hcs h.s.row (by decide)
  refine ⟨bv, [], ⟨⟨hrow, rowKept h.s.bo fun g e => hk g (hbk g e), rowKept h.s.ro fun g e => hk g (h.rk g (.inl e)), rowKept h.s.wo fun g e => hk g (h.rk g (.inr e)), h.s.len, fun j u v h1 h2 => ?_, fun j v h1 => by simp at h1⟩, rfl, fun b e => by rw [hsz]; exact h.lt b (hEU b e), hd1, fun j x _ hx => ?_, fun j x _ hx b e => ?_, ?_, ?_⟩⟩
  · obtain ⟨l1, l2, a, b, c⟩ := h.s.re j u v h1 h2
    exact ⟨l1, l2, a.keptIf fun g e hg => hk g (hd1 g (.inr (.inr ⟨v, .inr (.inl (List.mem_of_getElem? h1)), blockOf_own e⟩))).1, b.keptIf fun g e hg => hk g (hd1 g (.inr (.inr ⟨u, .inr (.inr (List.mem_of_getElem? h2)), blockOf_own e⟩))).1, fun e => by cases e⟩
  · obtain ⟨l, h1, h2⟩ := h.own rfl x (List.mem_of_getElem? hx)
    exact ⟨l, rowKept h1 fun g hg => hk g (hd1 g (.inr (.inr ⟨x, .inr (.inl (List.mem_of_getElem? hx)), hg⟩))).1, h2⟩
  · obtain ⟨q1, q2, q3, q4⟩ := h.en x (.inr (.inl (List.mem_of_getElem? hx))) b e
    refine ⟨q3, q4, fun y hy => ?_, fun j' y hj hy => h.dis rfl j j' x y hx hy (fun e => hj e.symm) b e⟩
    rcases hy with hy | hy
    · cases hy
    · exact h.dus rfl x (List.mem_of_getElem? hx) y hy b e
  · exact (hq.2.mono (Nat.le_of_lt (Nat.lt_of_le_of_lt (hN k h.uk) (h.lt k h.uk)))).setCell (p := ⟨k, 1, none⟩) (hN k h.uk) _
  · rintro b (e | e | e)
    · exact hN b (e ▸ h.uk)
    · exact hN b (h.ub b e)
    · exact hN b (hEU b e)
theorem Sv.kept {w0 wr : World} {N k i : Nat} {raw was : Value} {vs us : List Value} (h : Sv w0 wr N k raw was vs us i) (hi : i ≤ 4000000000000) :
    Calls Try.prog 10 #[.pointer (some ⟨k, 0, none⟩)] wr fun e w' => e = .returned (.bool true) ∧ Below N w0 w' := by
  obtain ⟨bv, ys, h⟩ := h
  have hlen := h.len
  have hk0 : N ≤ wr.heap.size := Nat.le_trans (h.nb k (.inl rfl)) (Nat.le_of_lt (Array.getElem?_eq_some_iff.1 h.s.row).1)
  exact (kept_any h.s (by omega)).mono fun e w' hp => ⟨hp.1, h.be.trans (hp.2.2.mono hk0)⟩
theorem Sv.c {w0 wr : World} {N k i : Nat} {raw was : Value} {vs us : List Value} (h : Sv w0 wr N k raw was vs us i) : wr.cell? ⟨k, 2, none⟩ = some raw := by
  obtain ⟨bv, ys, h⟩ := h
  exact h.s.c 2
theorem Sv.cv {w0 wr : World} {N k i j : Nat} {was v : Value} {g : Option Addr} {len cap : Nat} {vs us : List Value} (h : Sv w0 wr N k (.slice g len cap) was vs us i) (hv : vs[j]? = some v) : ∃ b, g = some ⟨b, 0, none⟩ ∧ wr.cell? ⟨b, j, none⟩ = some v := by
  obtain ⟨bv, ys, h⟩ := h
  obtain ⟨b, cp, e, hc⟩ := rowCell h.s.ro hv
  simp only [Value.slice.injEq] at e
  exact ⟨b, e.1, hc⟩
set_option maxHeartbeats 1000000 in
theorem settled_any {w : World} {k N : Nat} {U : Nat → Prop} {bv raw was : Value} {vs us : List Value} (h : Bs true w k U bv raw was [] vs us) (hN : ∀ b, U b → N ≤ b) (hl : vs.length ≤ 4000000000000) :
    Calls Try.prog 11 #[.pointer (some ⟨k, 0, none⟩)] w fun e w' => e = .returned (.bool true) ∧ Below N w w' := by
  obtain ⟨ar, cr, er, hr1, hr2⟩ := rowForm h.s.ro
  subst er
  unfold maxLen at hr2
  have HK := hide (kept_any h.s (by simp))
  have HST : Hid (∀ w1, Qt w w1 → Sv w (w1.setCell ⟨k, 1, none⟩ (.bool false)) N k (.slice ar vs.length cr) was vs us 0) := hide fun w1 hq => Sv.start h hN hq
  have HROW : Hid (∀ w1, Qt w w1 → w1.cell? ⟨k, 1, none⟩ = some (.bool true) ∧ w1.frozen? ⟨k, 1, none⟩ = false) := hide fun w1 hq => by
    have h1 : w1.heap[k]? = some (.cells #[bv, .bool true, .slice ar vs.length cr, was] 29 (0, 0)) := by rw [hq.1]; exact h.s.row
    exact ⟨by rw [cell_of_row _ _ _ _ _ _ h1]; rfl, frozen_of_row _ _ _ _ 29 h1⟩
  have HVG : Hid (∀ j, j < vs.length → ∃ v, vs[j]? = some v) := hide fun j hj => ⟨_, List.getElem?_eq_getElem hj⟩
  generalize hnv : vs.length = nv at *
  clear hnv h
  go_enter Try.func11, Try.ntmps11
  go_wp2_with (first
    | (go_at_call 10; refine HK.out.mono ?_; rintro e w1 ⟨rfl, hq⟩; obtain ⟨t1, f1⟩ := HROW.out _ hq; have HS0 := hide (HST.out _ hq); have t2 := HS0.out.c; clear hq))
  go_loopw [4] (fun x wr => ∃ i : Nat, i ≤ nv ∧ x = .int .i64 (i : Int) ∧ Sv w wr N k (.slice ar nv cr) was vs us i) (fun x _ => nv - (intOf x).toNat)
  case atStart => exact ⟨0, Nat.zero_le _, rfl, HS0.out⟩
  case round =>
    clear HS0 t2 HK HST HROW t1 f1
    obtain ⟨i, hin, rfl, hs⟩ := hrel
    have HS := hide hs
    clear hs
    have t2 := HS.out.c
    by_cases hlt : i < nv
    · obtain ⟨v, hv⟩ := HVG.out i hlt
      obtain ⟨g, eg, hc⟩ := HS.out.cv hv
      subst eg
      have HK := hide (HS.out.step hv (by omega))
      clear hv
      go_wp2_with (first
        | (go_at_call 9; refine HK.out.mono ?_; rintro e w2 ⟨rfl, h2⟩; have HS2 := hide h2; clear h2))
      go_roundw
      case rel => exact ⟨i + 1, by omega, by go_num, HS2.out⟩
      case measure => simp [intOf]; omega
    · have HKE := hide (HS.out.kept (by omega))
      go_wp2_with (first
        | (go_at_call 10; refine HKE.out.mono ?_; rintro e w2 ⟨rfl, h2⟩; have HB2 := hide h2; clear h2))
      go_ret
      exact ⟨rfl, HB2.out⟩
end Go.Proofs.Ytglajdmkbckjjab
