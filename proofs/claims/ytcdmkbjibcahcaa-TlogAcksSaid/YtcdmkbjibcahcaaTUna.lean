import Derived.Test.YtcdmkbjibcahcaaTUm
import Derived.Test.YtcdmkbjibcahcaaTSrt
import Derived.Maps.RangeWalk
namespace Go.Proofs.Ytcdmkbjibcahcaa
open Go.RowKit
set_option linter.unusedVariables false
set_option linter.unusedSimpArgs false
set_option maxRecDepth 20000

/-- the map is gone through: what has come lies in a list of the call's own -/
structure UI (w wr : World) (bm n : Nat) (D : DataW Unit) (gone : Nat) (ls : Ls) (left : Lit → Bool) (cnt : Nat) (T : List Int) (tv : Value) : Prop where
  rg : wr.ranges Try.prog 3 stR bm w.heap.size n D left cnt
  ti : TI gone ls left T
  row : IRow wr tv T
  own : ∀ g, tv.ownBlock = some g → w.heap.size < g
  sub : ∀ kl, left kl = true → Maps.has D kl = true
  bel : Below w.heap.size w wr
  lt : bm < w.heap.size
theorem IRow.nil (w : World) : IRow w (.slice none 0 0) [] := ⟨rfl, .inl ⟨rfl, rfl⟩⟩
theorem IRow.below {w w' : World} {v : Value} {l : List Int} (h : IRow w v l) (hb : Below w.heap.size w w') : IRow w' v l := h.kept fun g e => hb.block g (h.lt e)
theorem below_grown {w x y : World} {row : Option Nat} (h : Below w.heap.size w x) (hg : x.grownBy y row) (hr : ∀ g, row = some g → w.heap.size ≤ g) : Below w.heap.size w y :=
  ⟨hg.os.trans h.os, hg.tape.trans h.tape, hg.output.trans h.output, Nat.le_trans h.size hg.size, fun b hb => (hg.block b (Nat.lt_of_lt_of_le hb h.size) (fun e => by have := hr b e.symm; omega)).trans (h.block b hb)⟩
section
variable {w wr y : World} {bm n gone cnt cnt' : Nat} {D : DataW Unit} {ls : Ls} {left left' : Lit → Bool} {T T' : List Int} {tv tv' : Value}
theorem UI.start {w0 : World} (h1 : ∀ (i : Nat) (x : En × Bool), ls[i]? = some x → Maps.has D (kL x.1.1) = true ∧ ∀ z, D.atKey (kL x.1.1) z = stD ((gone + i : Nat) : Int) x.2) (hrg : w0.ranges Try.prog 3 stR bm w.heap.size n D (Maps.has D) (Maps.size D)) (hg : w.grownBy w0 none) (hlt : bm < w.heap.size) : UI w w0 bm n D gone ls (Maps.has D) (Maps.size D) [] (.slice none 0 0) :=
  ⟨hrg, TI.start h1, IRow.nil _, fun g e => by simp [Value.ownBlock] at e, fun _ h => h, below_grown (Below.refl _ _) hg (fun g e => by cases e), hlt⟩
theorem UI.next {w1 : World} (h : UI w wr bm n D gone ls left cnt T tv) (hd : (ids ls).Nodup) (hrg : w1.ranges Try.prog 3 stR bm w.heap.size n D left' cnt') (hg : wr.grownBy w1 (some w.heap.size)) {x : En} {a : Bool} {i : Nat} (hx : ls[i]? = some (x, a)) (hl : left (kL x.1) = true) (hle : left' = fun z => left z && !z.sameKey (kL x.1)) :
    w1.ranges Try.prog 3 stR bm w.heap.size n D left' cnt' ∧ TI gone ls left' (if a then T else T ++ [((gone + i : Nat) : Int)]) ∧ IRow w1 tv T ∧ (∀ g, tv.ownBlock = some g → w.heap.size < g) ∧ (∀ kl, left' kl = true → Maps.has D kl = true) ∧ Below w.heap.size w w1 := by
  subst hle
  refine ⟨hrg, h.ti.step hd hx hl, h.row.kept fun g e => ?_, h.own, fun kl hk => h.sub kl ?_, below_grown h.bel hg (fun g e => by simp at e; omega)⟩
  · have := h.own g e
    exact hg.block g (h.row.lt e) (fun e2 => by simp at e2; omega)
  · simp at hk; exact hk.1
/-- an allocation beside it -/
theorem UI.below (h : UI w wr bm n D gone ls left cnt T tv) (hb : Below wr.heap.size wr y) : UI w y bm n D gone ls left cnt T tv := by
  have hg : wr.grownBy y none := ⟨hb.os, hb.tape, hb.output, hb.size, fun b hlt _ => hb.block b hlt⟩
  exact ⟨h.rg.kept hg (by simp) (by simp), h.ti, h.row.kept fun g e => hb.block g (h.row.lt e), h.own, h.sub, h.bel.trans (hb.mono h.bel.size), h.lt⟩
theorem UI.more {w1 : World} {x : Int} {c : Int × Bool} {kl : Lit} {yy : DataW Unit × List MemPlace} (h : UI w wr bm n D gone ls left cnt T tv) (hd : (ids ls).Nodup) (h1 : ∀ (i : Nat) (x : En × Bool), ls[i]? = some x → Maps.has D (kL x.1.1) = true ∧ ∀ z, D.atKey (kL x.1.1) z = stD ((gone + i : Nat) : Int) x.2) (h2 : ∀ key, key ∉ ls.map (fun x => x.1.1) → Maps.has D (kL key) = false)
    (hk : keyOf Try.prog 3 (.int .i64 x) = some kl) (hlk : left kl = true) (hv : stR (stV c.1 c.2) = some yy) (hat : ∀ zd, D.atKey kl zd = yy.1) (hrg : w1.ranges Try.prog 3 stR bm w.heap.size n D (fun z => left z && !z.sameKey kl) cnt') (hg : wr.grownBy w1 (some w.heap.size)) :
    (c.2 = true → ∃ left', UI w w1 bm n D gone ls left' cnt' T tv) ∧ (c.2 = false → IRow w1 tv T ∧ ∃ left', ∀ z y tv', Below w1.heap.size w1 z → Upon z y tv tv' → IRow y tv' (T ++ [c.1]) → UI w y bm n D gone ls left' cnt' (T ++ [c.1]) tv') := by
  obtain ⟨t, a⟩ := c
  obtain ⟨x', ex, rfl, hwx⟩ := Maps.keyOf_int_inv Try.underlying3 hk
  cases ex
  rw [stR_mk] at hv
  obtain rfl := Option.some.inj hv
  obtain ⟨i, e, hx, he, rfl⟩ := TI.find h1 h2 (h.sub _ hlk) hat
  subst he
  obtain ⟨q1, q2, q3, q4, q5, q6⟩ := h.next hd hrg hg hx hlk rfl
  refine ⟨fun ea => ?_, fun ea => ⟨q3, (fun z => left z && !z.sameKey (kL e.1)), fun z y tv' hb hu hr => ?_⟩⟩
  · simp only at ea
    subst ea
    exact ⟨_, q1, q2, q3, q4, q5, q6, h.lt⟩
  · simp only at ea
    subst ea
    have hlt := q1.lt
    have hz : w.heap.size < z.heap.size := Nat.lt_of_lt_of_le hlt hb.size
    have hg1 : w1.grownBy z none := ⟨hb.os, hb.tape, hb.output, hb.size, fun b hlt _ => hb.block b hlt⟩
    have hg2 : z.grownBy y tv.ownBlock := ⟨hu.same.1, hu.same.2.1, hu.same.2.2, hu.size, fun b hb hn => hu.block b hb (fun e => hn e.symm)⟩
    refine ⟨(q1.kept hg1 (by simp) (by simp)).kept hg2 ?_ (fun e => ?_), q2, hr, fun g e => ?_, q5, below_grown (below_grown q6 hg1 (fun g e => by cases e)) hg2 (fun g e => Nat.le_of_lt (q4 g e)), h.lt⟩
    · exact fun e => by have := q4 _ e.symm; have := h.lt; omega
    · have := q4 _ e.symm; omega
    · rcases hu.loc g e with q | q
      · exact q4 g q
      · omega
end
/-- the turns in order, and what is told so far -/
structure UT (w wr : World) (gone : Nat) (ls : Ls) (tv lv : Value) (j : Nat) : Prop where
  row : IRow wr tv (tnsL gone ls)
  to : ERow wr lv ((una ls).take j)
  own : ∀ g, lv.ownBlock = some g → w.heap.size ≤ g
  ap : ∀ g, lv.ownBlock = some g → tv.ownBlock ≠ some g
  bel : Below w.heap.size w wr
theorem UT.start {w wr y : World} {bm n gone cnt : Nat} {D : DataW Unit} {ls : Ls} {left : Lit → Bool} {T : List Int} {tv : Value} (h : UI w wr bm n D gone ls left cnt T tv) (h1 : IRow y tv (tnsL gone ls)) (h2 : Chg (fun g => tv.ownBlock = some g) wr y) : UT w y gone ls tv (.slice none 0 0) 0 :=
  ⟨h1, ERow.nil _, fun g e => by simp [Value.ownBlock] at e, fun g e => by simp [Value.ownBlock] at e, h.bel.trans (h2.below h.bel.size fun g e => Nat.le_of_lt (h.own g e))⟩
theorem UT.below {w wr y : World} {gone j : Nat} {ls : Ls} {tv lv : Value} (h : UT w wr gone ls tv lv j) (hb : Below wr.heap.size wr y) : UT w y gone ls tv lv j :=
  ⟨h.row.below hb, h.to.below hb, h.own, h.ap, h.bel.trans (hb.mono h.bel.size)⟩
theorem UT.app {w wr z y : World} {gone j : Nat} {ls : Ls} {tv lv lv' : Value} (h : UT w wr gone ls tv lv j) (hb : Below wr.heap.size wr z) (ha : App z y lv lv') (he : ERow y lv' ((una ls).take (j + 1))) : UT w y gone ls tv lv' (j + 1) := by
  have h2 := h.below hb
  refine ⟨h2.row.kept fun g e => ha.chg.keep g (h2.row.lt e) fun q => h2.ap g q e, he, fun g e => ?_, fun g e q => ?_, h2.bel.trans (ha.chg.below h2.bel.size h2.own)⟩
  · rcases ha.loc g e with q | q
    · exact h2.own g q
    · exact Nat.le_trans h2.bel.size q
  · rcases ha.loc g e with q2 | q2
    · exact h2.ap g q2 q
    · have := h2.row.lt q; omega
theorem invK_int (key : Value) (kl : Lit) (h : keyOf Try.prog 3 key = some kl) : ∃ x : Int, key = .int .i64 x := by
  obtain ⟨x, rfl, -⟩ := Maps.keyOf_int_inv Try.underlying3 h
  exact ⟨x, rfl⟩
theorem invV_st (v : Value) (y : DataW Unit × List MemPlace) (h : stR v = some y) : ∃ c : Int × Bool, v = stV c.1 c.2 := by
  obtain ⟨t, a, e, -⟩ := stR_inv h
  exact ⟨(t, a), e⟩
set_option maxHeartbeats 4000000 in
theorem Unacked_any (w : World) (p bm : Nat) (v : Value) (S : LS) (h : LRep w p bm v S) (hnd : (ids S.ls).Nodup) (hl : S.es.length ≤ 2000) (hg : S.gone ≤ 16000000000000) : Calls Try.prog 27 #[.pointer (some ⟨p, 0, none⟩)] w fun e w' =>
    ∃ lv, e = .returned lv ∧ ERow w' lv (una S.ls) ∧ (∀ g, lv.ownBlock = some g → w.heap.size ≤ g) ∧ Below w.heap.size w w' := by
  have HH := hide h
  obtain ⟨D, hown, hDs, hD1, hD2⟩ := h.mp
  have c4 := h.c4
  have HD1 := hide hD1
  have HD2 := hide hD2
  have HND := hide hnd
  have HL := hide hl
  have HG := hide hg
  clear h hD1 hD2 hDs hnd hl hg
  go_enter Try.func27, Try.ntmps27
  go_wp2_with (first
    | (at_range; refine wpList_range_own _ rfl _ 66 rfl 3 70 kInt Try.underlying66 stR bm S.ls.length D rfl hown ?_; intro w0 hrg0 hg0 hs0) | go_in)
  go_frame
  have HUI := hide (UI.start HD1.out hrg0 hg0 hown.lt)
  clear hrg0 hg0 hs0 hown c4
  go_loopw [3] (fun tv wr => ∃ (left : Lit → Bool) (cnt : Nat) (T : List Int), UI w wr bm S.ls.length D S.gone S.ls left cnt T tv) (fun _ wr => wr.rangeLeft bm w.heap.size)
  case atStart => exact ⟨_, _, _, HUI.out⟩
  case round =>
    clear HUI
    obtain ⟨left, cnt, T, hU⟩ := hrel
    obtain ⟨ta, tc, e3, i1, i2⟩ := hU.row.form
    have HU := hide hU
    have hrg := hU.rg
    subst e3
    clear hU
    have hlen := HU.out.ti.len
    have HBN : Hid (T.length + 1 ≤ maxLen ∧ ((T.length + 1) + (T.length + 1) / 4 + 192) * 8 ≤ 281474976710656) := hide (by have := HL.out; rw [LS.es_len] at this; unfold maxLen; omega)
    obtain ⟨i0, hi0, hz0, hz1, hz2⟩ := infoI
    go_wp2_with (first
      | (at_next; refine wpList_next_ranges _ rfl _ rfl 3 kInt stR (Value.int .i64) (fun c : Int × Bool => stV c.1 c.2) invK_int invV_st bm w.heap.size S.ls.length D left cnt rfl hrg (fun hc0 hl0 => ?_) (fun x c kl y w1 cnt1 hk hlk hv hat hrg1 hlt hg1 hs1 hen => ?more); case' more => (have HM := hide (HU.out.more HND.out HD1.out HD2.out hk hlk hv hat hrg1 hg1); clear hk hlk hv hat hg1 hs1; obtain ⟨t, a⟩ := c; unfold stV at hen ⊢; simp only at hen HM ⊢; cases a))
      | (at_builtin; refine wpList_appendC _ rfl (.tmp 21) (.tmp 24) 44 rfl 3 i0 (.int .i64 0) 1 8 Try.underlying44 hi0 hz0 hz1 hz2 rfl (by decide) _ _ _ rfl ((HM.out.2 rfl).1.below (below_alloc2 w1 _ _)) ⟨(w1.alloc (.cells #[.int .i64 t, .bool false] 70)).heap.size, 0, none⟩ 1 1 [.int .i64 t] (by first | rfl | simp [Act.eval, Act.put]) rfl (by decide) (cells_new _ #[.int .i64 t] _ _ rfl) (by simp [Value.oneCell']) HBN.out.1 HBN.out.2 ?_; intro v6 w6 q1 q2; obtain ⟨left', hU'⟩ := (HM.out.2 rfl).2; have HUN := hide (hU' _ _ _ (below_alloc2 w1 _ _) q2 (by unfold IRow; rw [List.length_append, List.map_append]; exact q1)); clear q1 q2 hU' HM))
    case roundEnd => exact ⟨⟨_, _, _, HUN.out⟩, by rw [HUN.out.rg.left_eq, hrg.left_eq]; exact hlt⟩
    case roundEnd =>
      obtain ⟨left', h⟩ := HM.out.1 rfl
      have h2 := h.below (below_alloc w1 (.cells #[.int .i64 t, .bool true] 70))
      exact ⟨⟨_, _, _, h2⟩, by rw [h2.rg.left_eq, hrg.left_eq]; exact hlt⟩
    have HSRT := hide (sort_any wr _ T HU.out.row (by have := HL.out; rw [LS.es_len] at this; omega))
    rw [HU.out.ti.done hl0] at HSRT
    go_wp2_with (go_at_call 43; refine HSRT.out.mono ?_; rintro e w2 ⟨rfl, q1, q2⟩; have HT := hide (UT.start HU.out q1 q2); clear q1 q2 HSRT)
    clear HU hrg HD1 HD2 HND HBN hlen hl0 hc0
    have HTL := hide (tns_len S.gone S.ls)
    obtain ⟨ra, rc, er, r1, r2⟩ := HT.out.row.form
    rw [HTL.out] at er r1
    generalize hn : (una S.ls).length = n at *
    have hnl : n ≤ 2000 := by have := HL.out; rw [LS.es_len] at this; have := una_le S.ls; omega
    simp only [Value.slice.injEq] at er
    obtain ⟨rfl, hTn, rfl⟩ := er
    rw [hTn] at HT ⊢
    go_loopw [6, 30] (fun lv x wr => ∃ j : Nat, j ≤ n ∧ x = .int .i64 (j : Int) ∧ UT w wr S.gone S.ls (.slice ta n tc) lv j) (fun _ x _ => n - (intOf x).toNat)
    case atStart => exact ⟨0, Nat.zero_le _, rfl, HT.out⟩
    case round =>
      clear HT
      obtain ⟨j, hj, rfl, hT⟩ := hrel
      have HT := hide hT
      by_cases hlt : j < n
      · obtain ⟨i, hi, ht1, ht2⟩ := tns_at S.gone S.ls j (by omega)
        obtain ⟨g, cap, eg, g1, g2, hcell⟩ := hT.row.cell (j := j) (by rw [HTL.out]; omega)
        simp only [Value.slice.injEq] at eg
        obtain ⟨rfl, -, rfl⟩ := eg
        rw [ht1] at hcell
        have HAT := hide (at_any wr p bm v S (HH.out.below hT.bel) HL.out HG.out i (by rw [LS.es_len]; exact hi))
        rw [show S.es.getD i e0 = (una S.ls).getD j e0 from ht2] at HAT
        have HTK : Hid ((una S.ls).take j ++ [(una S.ls).getD j e0] = (una S.ls).take (j + 1)) := hide (by rw [List.take_add_one]; simp [List.getD, show j < (una S.ls).length by omega])
        have hto := hT.to
        obtain ⟨la, lc, el, l1, l2, -⟩ := hto.form
        rw [List.length_take, hn, Nat.min_eq_left (by omega)] at el l1
        subst el
        have HBE : Hid (((una S.ls).take j).length + 1 ≤ 4000000000000) := hide (by rw [List.length_take]; omega)
        generalize (una S.ls).getD j e0 = x at *
        obtain ⟨x0, x1, x2⟩ := x
        simp only at HAT
        unfold maxLen at r2 l2
        clear hT ht1 ht2 hto HTL hn hTn i1 i2
        have hwj : IntKind.i64.wrap (((S.gone + i : Nat) : Int)) = ((S.gone + i : Nat) : Int) := by have := HG.out; have := HL.out; rw [LS.es_len] at this; simp [IntKind.wrap, IntKind.bits, IntKind.signed]; omega
        generalize ((S.gone + i : Nat) : Int) = gi at *
        go_wp2_with (first
          | (go_at_call 35; refine HAT.out.mono ?_; rintro e w1 ⟨rfl, q1⟩; have HT1 := hide (HT.out.below q1); have HE := hide (HT1.out.to.below (below_alloc w1 (.cells #[.int .i64 x0, .int .i64 x1, .int .i64 x2] 36))); clear q1 HAT HT)
          | (at_builtin; refine wpList_appendE _ rfl (.tmp 34) (.tmp 38) rfl _ ((una S.ls).take j) rfl HE.out ⟨w1.heap.size, 0, none⟩ 1 [(x0, x1, x2)] (by simp) rfl (cells_new _ #[.int .i64 x0, .int .i64 x1, .int .i64 x2] _ _ rfl) HBE.out ?_; intro v6 w6 q1 q2; rw [HTK.out] at q1; have HTN := hide (HT1.out.app (below_alloc w1 _) q2 q1); clear q1 q2 HT1 HE))
        go_roundw
        case rel => exact ⟨j + 1, by omega, by go_num, HTN.out⟩
        case measure => simp [intOf]; omega
      · have ej : j = n := by omega
        subst ej
        have HTO := hide hT.to
        rw [List.take_of_length_le (by omega)] at HTO
        obtain ⟨la, lc, el, l1, l2, -⟩ := HTO.out.form
        rw [hn] at el
        subst el
        have HB := hide hT.bel
        have HO := hide hT.own
        clear hT HT hTn i1 hn
        go_wp2_with fail
        go_ret
        exact ⟨_, rfl, HTO.out, HO.out, HB.out⟩
end Go.Proofs.Ytcdmkbjibcahcaa
