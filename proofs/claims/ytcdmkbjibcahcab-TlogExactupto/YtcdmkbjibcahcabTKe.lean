import Derived.Test.YtcdmkbjibcahcabTKw
namespace Go.Proofs.Ytcdmkbjibcahcab
open Go.RowKit
set_option linter.unusedVariables false
set_option linter.unusedSimpArgs false
set_option maxRecDepth 20000

/-- Book.keep of the first of two lists -/
def KOne (w : World) (b : Nat) (fv wv kv tv : Value) (mk : Nat) (K T : VL) (l : Value) (L : List En) (e : Ending) (y : World) : Prop := ∃ fv' wv' t, e = .returned (.tuple #[]) ∧ KS w y b fv wv fv' wv' kv tv mk [(l, L)] [(t, L)] K T ∧ ERow y t L ∧ ∀ g, t.ownBlock = some g → w.heap.size ≤ g
set_option maxHeartbeats 2000000 in
theorem keep_one {w : World} {b : Nat} {fv wv kv tv : Value} {mk : Nat} {K T : VL} (h : B4 w b fv wv kv tv mk [] [] K T) {l : Value} {L : List En} (hL : ERow w l L) (hlen : L.length ≤ 2000) : Calls Try.prog 20 #[.pointer (some ⟨b, 0, none⟩), l] w (KOne w b fv wv kv tv mk K T l L) := by
  obtain ⟨a, c, rfl, b1, b2, hc⟩ := hL.form
  unfold maxLen at b2
  obtain ⟨fa, fc, fe⟩ := vrow_form h.f
  obtain ⟨wa, wc, we⟩ := vrow_form h.w
  rw [show ([] : VL).length = 0 from rfl] at fe
  rw [show ([] : VL).length = 0 from rfl] at we
  subst fe
  subst we
  have c0 := h.c0
  have hk1 := below_alloc w (.cells #[.slice a L.length c] 46)
  have HKS0 : Hid (KS w w b (.slice fa 0 fc) (.slice wa 0 wc) (.slice fa 0 fc) (.slice wa 0 wc) kv tv mk [] [] K T) := hide ⟨h, Ck.refl _ _, Chg.refl _ _, fun g e => .inl e, fun g e => .inl e⟩
  have HKS1 := hide (HKS0.out.calm hk1)
  have HN1 := hide (show (w.alloc (.cells #[.slice a L.length c] 46)).cell? ⟨w.heap.size, 0, none⟩ = some (.slice a L.length c) by rw [cell_of_row _ _ _ _ _ _ (Go.heap_alloc_new w _)]; rfl)
  have HL := hide hL
  clear hk1 h hL hc
  go_enter Try.func20, Try.ntmps20
  go_wp2_with (at_builtin; refine wpList_appendV _ rfl (.tmp 10) (.tmp 12) rfl _ [] rfl HKS1.out.b4.f ⟨w.heap.size, 0, none⟩ 1 (.slice a L.length c, L) rfl rfl HN1.out (by simp) ?_; intro v6 w6 q1 q2; obtain ⟨p1, p2, p3, p4⟩ := HKS1.out.pushF q1 q2; have HKS2 := hide p1; obtain ⟨a7, c7, e7⟩ := vrow_form q1; rw [show ([] ++ [((.slice a L.length c : Value), L)] : VL).length = 1 from rfl] at e7; subst e7; clear q1 q2 p1 p2)
  clear HKS0 HKS1 HN1 c0 p3 p4
  generalize w6.setCell ⟨b, 0, none⟩ _ = w7 at *
  have t3 := HKS2.out.b4.c1
  have t3a := cell_alloc (.cells #[] 56) t3
  have hb7 : Below w7.heap.size w7 (w7.drew.alloc (.cells #[] 56)) := ((Below.refl _ w7).drew).alloc (Nat.le_refl _) _
  have HX8 := hide ((HL.out.ck HKS2.out.ck (ds_false _)).below hb7)
  have HG8 : Hid ((w7.drew.alloc (.cells #[] 56)).heap[w7.heap.size]? = some (.cells #[] 56 (0, 0))) := hide (Go.heap_alloc_new w7.drew _)
  have HB8 : Hid (∀ v8 w8, App (w7.drew.alloc (.cells #[] 56)) w8 (.slice (some ⟨w7.heap.size, 0, none⟩) 0 0) v8 → Below w7.heap.size w7 w8 ∧ ∀ g, v8.ownBlock = some g → w.heap.size ≤ g) := hide fun v8 w8 q => ⟨hb7.trans (q.chg.below hb7.size fun g e => by simp only [Value.ownBlock, Option.some.injEq] at e; omega), fun g e => by
    have := HKS2.out.chg.size
    have := hb7.size
    rcases q.loc g e with e2 | e2
    · simp only [Value.ownBlock, Option.some.injEq] at e2; omega
    · omega⟩
  clear hb7
  go_region_law (first
    | (refine step_copyE rfl (.tmp 21) (.tmp 22) rfl w7.heap.size rfl HG8.out (.slice a L.length c) L rfl HX8.out (by omega) ?_; intro v8 w8 q1 q2; obtain ⟨q3, q4⟩ := HB8.out v8 w8 q2; have HT1 := hide q1; have HNW := hide q4; have HW8 := hide q3; have HKS8 := hide (HKS2.out.calm HW8.out); have t8 := HKS8.out.b4.c1; obtain ⟨a8, c8, e8, -, -, -⟩ := q1.form; subst e8; have t8a := cell_alloc (.cells #[.slice a8 L.length c8] 46) t8; have hk9 := below_alloc w8 (.cells #[.slice a8 L.length c8] 46); have HKS9 := hide (HKS8.out.calm hk9); have HT9 := hide (HT1.out.below hk9); have HN9 := hide (show (w8.alloc (.cells #[.slice a8 L.length c8] 46)).cell? ⟨w8.heap.size, 0, none⟩ = some (.slice a8 L.length c8) by rw [cell_of_row _ _ _ _ _ _ (Go.heap_alloc_new w8 _)]; rfl); clear q1 q2 q3 q4 hk9)
    | (refine step_appendV rfl (.tmp 20) (.tmp 24) rfl _ [] rfl HKS9.out.b4.w ⟨w8.heap.size, 0, none⟩ 1 (.slice a8 L.length c8, L) rfl rfl HN9.out (by simp) ?_; intro v9 w9 q1 q2; obtain ⟨p1, p2, p3, p4⟩ := HKS9.out.pushW q1 q2; have HKS10 := hide p1; have HT10 := hide (p2 _ _ HT9.out); obtain ⟨a10, c10, e10⟩ := vrow_form q1; rw [show ([] ++ [((.slice a8 L.length c8 : Value), L)] : VL).length = 1 from rfl] at e10; subst e10; clear q1 q2 p1 p2))
  all_goals
    clear HB8 HG8 HX8 t3 t3a HKS2 HT1 HW8 HKS8 t8 t8a HKS9 HT9 HN9
    try clear p3 p4
    generalize w9.setCell ⟨b, 1, none⟩ _ = w10 at *
    have k0 := HKS10.out.b4.c0
    go_wp2_with fail
    (try simp only [Exit.inBlock, Exit.then]); refine bodyPost_ret (results_none rfl _ _ _) rfl ?_
    exact ⟨_, _, _, rfl, HKS10.out.calm (below_drew0 _ 0), HT10.out, HNW.out⟩
def bo2 (f l : Value × List En) (j : Nat) : Value × List En := if j = 0 then f else l
/-- Book.keep of the second of two lists -/
def KTwo (w : World) (A : Nat → Nat → Prop) (b : Nat) (fv wv kv tv : Value) (mk : Nat) (K T : VL) (f l : Value × List En) (e : Ending) (y : World) : Prop := ∃ x kv' tv' K' T', e = .returned (.tuple #[]) ∧ Ck (fun _ _ => False) w x ∧ Chg (fun g => g = b ∨ fv.ownBlock = some g ∨ wv.ownBlock = some g) w x ∧ KWi x y A b kv tv mk K.length (bo2 f l) 2 kv' tv' K' T'
/-- what Book.keep asks of the lists -/
structure KPre (w : World) (A : Nat → Nat → Prop) (K T : VL) (f l : Value × List En) (t0 : Value) : Prop where
  ef : ERow w f.1 f.2
  el : ERow w l.1 l.2
  et : ERow w t0 f.2
  ek : ∀ u ∈ K ++ T, ERow w u.1 u.2
  kt : K.map Prod.snd = T.map Prod.snd
  hA : ∀ g i, A g i → g < w.heap.size
  fA : Ds (Rm f.1) A
  lA : Ds (Rm l.1) A
  fl : Ds (Rm f.1) (Rm l.1)
  kf : ∀ u ∈ K ++ T, Ds (Cl u.1) (Rm f.1)
  kl : ∀ u ∈ K ++ T, Ds (Cl u.1) (Rm l.1)
  kA : ∀ u ∈ K ++ T, Ds (Cl u.1) A
  nf : f.2.length ≤ 2000
  nl : l.2.length ≤ 2000
theorem KS.start {w x : World} {A : Nat → Nat → Prop} {b : Nat} {fv0 wv0 fv wv kv tv : Value} {mk : Nat} {K T : VL} {f l : Value × List En} {t0 t : Value} (hp : KPre w A K T f l t0) (h : KS w x b fv0 wv0 fv wv kv tv mk ([f] ++ [l]) ([(t0, f.2)] ++ [(t, l.2)]) K T) :
    KWi ((x.setCell ⟨b, 0, none⟩ nilV).setCell ⟨b, 1, none⟩ nilV) ((x.setCell ⟨b, 0, none⟩ nilV).setCell ⟨b, 1, none⟩ nilV) A b kv tv mk K.length (bo2 f l) 0 kv tv K T
    ∧ Ck (fun _ _ => False) w ((x.setCell ⟨b, 0, none⟩ nilV).setCell ⟨b, 1, none⟩ nilV) ∧ Chg (fun g => g = b ∨ fv0.ownBlock = some g ∨ wv0.ownBlock = some g) w ((x.setCell ⟨b, 0, none⟩ nilV).setCell ⟨b, 1, none⟩ nilV)
    ∧ ∃ g c, fv = .slice (some ⟨g, 0, none⟩) 2 c ∧ ∀ wr kv' tv' K' T' k, KWi ((x.setCell ⟨b, 0, none⟩ nilV).setCell ⟨b, 1, none⟩ nilV) wr A b kv tv mk K.length (bo2 f l) k kv' tv' K' T' → ∀ j, j < 2 → wr.cell? ⟨g, j, none⟩ = some (bo2 f l j).1 := by
  have r0 := h.b4.row
  have r1 := Go.heap_setCell_same x b 0 _ 32 nilV r0
  have r2 := Go.heap_setCell_same _ b 1 _ 32 nilV r1
  have ko : ∀ g, g ≠ b → ((x.setCell ⟨b, 0, none⟩ nilV).setCell ⟨b, 1, none⟩ nilV).heap[g]? = x.heap[g]? := fun g hg => by
    rw [Go.heap_setCell_other _ _ _ _ (by exact hg), Go.heap_setCell_other _ _ _ _ (by exact hg)]
  have hs : ((x.setCell ⟨b, 0, none⟩ nilV).setCell ⟨b, 1, none⟩ nilV).heap.size = x.heap.size := by simp [World.setCell]
  have hch : Chg (fun g => g = b) x ((x.setCell ⟨b, 0, none⟩ nilV).setCell ⟨b, 1, none⟩ nilV) := ⟨rfl, rfl, rfl, by omega, fun g _ hn => ko g hn⟩
  have hck : Ck (fun _ _ => False) x ((x.setCell ⟨b, 0, none⟩ nilV).setCell ⟨b, 1, none⟩ nilV) := Ck.ofChg hch fun g e cs hc => neType hc r0 (by decide) e
  have hk2 := h.ck.trans hck
  generalize hx2 : (x.setCell ⟨b, 0, none⟩ nilV).setCell ⟨b, 1, none⟩ nilV = x2 at *
  have kr : ∀ (v9 : Value) (n : Nat) (xs : List Value), x.ownsRow 0 46 1 v9 n xs → x2.ownsRow 0 46 1 v9 n xs := fun v9 n xs h9 => rowKept h9 fun g e => ko g (vrow_ne (cs := []) h9 r0 e)
  have kp : ∀ z m, ERow w z m → ERow x2 z m := fun z m hz => hz.ck hk2 (ds_false _)
  have hlt : w.heap.size ≤ x2.heap.size := by have := h.chg.size; omega
  refine ⟨⟨⟨r2, vrowNil _, vrowNil _, ⟨kr _ _ _ h.b4.k, fun u hu => kp _ _ (hp.ek u (List.mem_append_left _ hu))⟩, ⟨kr _ _ _ h.b4.t, fun u hu => kp _ _ (hp.ek u (List.mem_append_right _ hu))⟩, rfl, hp.kt⟩, h.b4.n3, rfl, Ck.refl _ _, Chg.refl _ _, fun g e => .inl e, fun g e => .inl e, fun j _ hj => ?_, fun u hu j _ hj => ?_, hp.kA⟩, hk2, h.chg.trans' hch fun g _ e => .inl e, ?_⟩
  · unfold bo2
    split
    · exact kp _ _ hp.ef
    · exact kp _ _ hp.el
  · unfold bo2
    split
    · exact hp.kf u hu
    · exact hp.kl u hu
  · have hf := kr _ _ _ h.b4.f
    have hf0 := h.b4.f
    rcases hf.2 with ⟨rfl, hz⟩ | ⟨g, cap, cur, rfl, _, hg, h1, h2, _⟩
    · simp at hz
    · refine ⟨g, cap, rfl, fun wr kv' tv' K' T' k hw j hj => ?_⟩
      have hne := h.b4.n1 g rfl
      have hgl := (World.ownsRow.lt hf g rfl).2
      have hb : wr.heap[g]? = x2.heap[g]? := hw.chg.keep g hgl (by
        rintro (e | e | e | ⟨i, hi, e⟩)
        · exact vrow_ne (cs := []) hf0 r0 rfl e
        · exact hne.2.1 e
        · exact hne.2.2 e
        · have he : ERow x2 (bo2 f l i).1 (bo2 f l i).2 := by
            unfold bo2
            split
            · exact kp _ _ hp.ef
            · exact kp _ _ hp.el
          obtain ⟨cs, hc⟩ := he.cells e
          exact neType hc hg (by decide) rfl)
      rw [World.cell?_of_block (a := ⟨g, j, none⟩) hb]
      have hcell := hf.cells (g := g) rfl j (bo2 f l j).1 (by
        rcases (show j = 0 ∨ j = 1 by omega) with rfl | rfl <;> rfl)
      rwa [Addr.add_lit, Nat.zero_add] at hcell
set_option maxHeartbeats 2000000 in
theorem keep_two {w : World} {A : Nat → Nat → Prop} {b : Nat} {fv wv kv tv : Value} {mk : Nat} {K T : VL} {f : Value × List En} {t0 : Value} (h : B4 w b fv wv kv tv mk [f] [(t0, f.2)] K T) {l : Value} {L : List En} (hp : KPre w A K T f (l, L) t0) (hm : mk ≤ 10000000000000) (hn : K.length ≤ 8900000000000) : Calls Try.prog 20 #[.pointer (some ⟨b, 0, none⟩), l] w (KTwo w A b fv wv kv tv mk K T f (l, L)) := by
  have hL := hp.el
  have hlen := hp.nl
  simp only at hL hlen
  have HP := hide hp
  clear hp
  obtain ⟨a, c, rfl, b1, b2, hc⟩ := hL.form
  unfold maxLen at b2
  obtain ⟨fa, fc, fe⟩ := vrow_form h.f
  obtain ⟨wa, wc, we⟩ := vrow_form h.w
  rw [show ([f] : VL).length = 1 from rfl] at fe
  rw [show ([(t0, f.2)] : VL).length = 1 from rfl] at we
  subst fe
  subst we
  have c0 := h.c0
  have hk1 := below_alloc w (.cells #[.slice a L.length c] 46)
  have HKS0 : Hid (KS w w b (.slice fa 1 fc) (.slice wa 1 wc) (.slice fa 1 fc) (.slice wa 1 wc) kv tv mk [f] [(t0, f.2)] K T) := hide ⟨h, Ck.refl _ _, Chg.refl _ _, fun g e => .inl e, fun g e => .inl e⟩
  have HKS1 := hide (HKS0.out.calm hk1)
  have HN1 := hide (show (w.alloc (.cells #[.slice a L.length c] 46)).cell? ⟨w.heap.size, 0, none⟩ = some (.slice a L.length c) by rw [cell_of_row _ _ _ _ _ _ (Go.heap_alloc_new w _)]; rfl)
  have HL := hide hL
  clear hk1 h hL hc
  go_enter Try.func20, Try.ntmps20
  go_wp2_with (at_builtin; refine wpList_appendV _ rfl (.tmp 10) (.tmp 12) rfl _ [f] rfl HKS1.out.b4.f ⟨w.heap.size, 0, none⟩ 1 (.slice a L.length c, L) rfl rfl HN1.out (by simp) ?_; intro v6 w6 q1 q2; obtain ⟨p1, p2, p3, p4⟩ := HKS1.out.pushF q1 q2; have HKS2 := hide p1; obtain ⟨a7, c7, e7⟩ := vrow_form q1; rw [show ([f] ++ [((.slice a L.length c : Value), L)] : VL).length = 2 from rfl] at e7; subst e7; clear q1 q2 p1 p2)
  clear HKS0 HKS1 HN1 c0 p3 p4
  generalize w6.setCell ⟨b, 0, none⟩ _ = w7 at *
  have t3 := HKS2.out.b4.c1
  have t3a := cell_alloc (.cells #[] 56) t3
  have hb7 : Below w7.heap.size w7 (w7.drew.alloc (.cells #[] 56)) := ((Below.refl _ w7).drew).alloc (Nat.le_refl _) _
  have HX8 := hide ((HL.out.ck HKS2.out.ck (ds_false _)).below hb7)
  have HG8 : Hid ((w7.drew.alloc (.cells #[] 56)).heap[w7.heap.size]? = some (.cells #[] 56 (0, 0))) := hide (Go.heap_alloc_new w7.drew _)
  have HB8 : Hid (∀ v8 w8, App (w7.drew.alloc (.cells #[] 56)) w8 (.slice (some ⟨w7.heap.size, 0, none⟩) 0 0) v8 → Below w7.heap.size w7 w8 ∧ ∀ g, v8.ownBlock = some g → w.heap.size ≤ g) := hide fun v8 w8 q => ⟨hb7.trans (q.chg.below hb7.size fun g e => by simp only [Value.ownBlock, Option.some.injEq] at e; omega), fun g e => by
    have := HKS2.out.chg.size
    have := hb7.size
    rcases q.loc g e with e2 | e2
    · simp only [Value.ownBlock, Option.some.injEq] at e2; omega
    · omega⟩
  clear hb7
  go_region_law (first
    | (refine step_copyE rfl (.tmp 21) (.tmp 22) rfl w7.heap.size rfl HG8.out (.slice a L.length c) L rfl HX8.out (by omega) ?_; intro v8 w8 q1 q2; obtain ⟨q3, q4⟩ := HB8.out v8 w8 q2; have HT1 := hide q1; have HNW := hide q4; have HW8 := hide q3; have HKS8 := hide (HKS2.out.calm HW8.out); have t8 := HKS8.out.b4.c1; obtain ⟨a8, c8, e8, -, -, -⟩ := q1.form; subst e8; have t8a := cell_alloc (.cells #[.slice a8 L.length c8] 46) t8; have hk9 := below_alloc w8 (.cells #[.slice a8 L.length c8] 46); have HKS9 := hide (HKS8.out.calm hk9); have HT9 := hide (HT1.out.below hk9); have HN9 := hide (show (w8.alloc (.cells #[.slice a8 L.length c8] 46)).cell? ⟨w8.heap.size, 0, none⟩ = some (.slice a8 L.length c8) by rw [cell_of_row _ _ _ _ _ _ (Go.heap_alloc_new w8 _)]; rfl); clear q1 q2 q3 q4 hk9)
    | (refine step_appendV rfl (.tmp 20) (.tmp 24) rfl _ [(t0, f.2)] rfl HKS9.out.b4.w ⟨w8.heap.size, 0, none⟩ 1 (.slice a8 L.length c8, L) rfl rfl HN9.out (by simp) ?_; intro v9 w9 q1 q2; obtain ⟨p1, p2, p3, p4⟩ := HKS9.out.pushW q1 q2; have HKS10 := hide p1; have HT10 := hide (p2 _ _ HT9.out); obtain ⟨a10, c10, e10⟩ := vrow_form q1; rw [show ([(t0, f.2)] ++ [((.slice a8 L.length c8 : Value), L)] : VL).length = 2 from rfl] at e10; subst e10; clear q1 q2 p1 p2))
  all_goals
    clear HB8 HG8 HX8 t3 t3a HKS2 HT1 HW8 HKS8 t8 t8a HKS9 HT9 HN9
    try clear p3 p4
    generalize w9.setCell ⟨b, 1, none⟩ _ = w10 at *
    have k0 := HKS10.out.b4.c0
    have HBK := hide (show Bk w10 b (.slice a7 2 c7) (.slice a10 2 c10) kv tv mk ([f] ++ [((.slice a L.length c : Value), L)]) ([(t0, f.2)] ++ [((.slice a8 L.length c8 : Value), L)]) K T from by
      have hk := HKS10.out
      have kp : ∀ z m, ERow w z m → ERow w10 z m := fun z m hz => hz.ck hk.ck (ds_false _)
      refine ⟨hk.b4.row, ⟨hk.b4.f, fun u hu => ?_⟩, ⟨hk.b4.w, fun u hu => ?_⟩, ⟨hk.b4.k, fun u hu => kp _ _ (HP.out.ek u (List.mem_append_left _ hu))⟩, ⟨hk.b4.t, fun u hu => kp _ _ (HP.out.ek u (List.mem_append_right _ hu))⟩, rfl, HP.out.kt⟩
      · simp only [List.mem_append, List.mem_singleton] at hu
        rcases hu with rfl | rfl
        · exact kp _ _ HP.out.ef
        · exact kp _ _ HP.out.el
      · simp only [List.mem_append, List.mem_singleton] at hu
        rcases hu with rfl | rfl
        · exact kp _ _ HP.out.et
        · exact HT10.out)
    go_wp2_with (go_at_call 7; refine (holds_any HBK.out (by simp) (by omega)).mono ?_; rintro e w11 ⟨rfl, q⟩; have HKS11 := hide (HKS10.out.calm q); clear q; have k11 := HKS11.out.b4.c0; have k12 := HKS11.out.b4.c1; have k13 := HKS11.out.b4.fz 0; have k14 := HKS11.out.b4.fz 1)
    obtain ⟨r1, r2, r3, g7, c8', r4, r5⟩ := KS.start HP.out HKS11.out
    simp only [Value.slice.injEq, true_and] at r4
    obtain ⟨rfl, rfl⟩ := r4
    clear k0 k11 k12 k13 k14 HBK HT10 HNW HKS10 HKS11
    generalize (w11.setCell ⟨b, 0, none⟩ (.slice none 0 0)).setCell ⟨b, 1, none⟩ (.slice none 0 0) = x at *
    have hxs : w.heap.size ≤ x.heap.size := r3.size
    have HWR : Hid (∀ wr k, k < 2 → (∃ kv' tv' K' T', KWi x wr A b kv tv mk K.length (bo2 f ((.slice a L.length c), L)) k kv' tv' K' T') → wr.cell? ⟨g7, k, none⟩ = some (bo2 f ((.slice a L.length c), L) k).1 ∧ Calls Try.prog 37 #[.pointer (some ⟨b, 0, none⟩), (bo2 f ((.slice a L.length c), L) k).1] wr fun e w' => e = .returned (.tuple #[]) ∧ ∃ kv' tv' K' T', KWi x w' A b kv tv mk K.length (bo2 f ((.slice a L.length c), L)) (k + 1) kv' tv' K' T') := hide fun wr k hk hq => by
      obtain ⟨kv', tv', K', T', q⟩ := hq
      have hp := HP.out
      refine ⟨r5 wr kv' tv' K' T' k q k hk, q.write hk (fun g i e => Nat.lt_of_lt_of_le (hp.hA g i e) hxs) (fun j g hj e => ?_) (fun j hj => ?_) (fun i j hi hj => ?_) (fun j hj => ?_) hm hn⟩
      · refine Nat.lt_of_lt_of_le ?_ hxs
        unfold bo2 at e
        split at e
        · exact hp.ef.lt e
        · exact hp.el.lt e
      · unfold bo2
        split
        · exact hp.fA
        · exact hp.lA
      · obtain ⟨rfl, rfl⟩ : i = 0 ∧ j = 1 := by omega
        exact hp.fl
      · unfold bo2
        split
        · exact hp.nf
        · exact hp.nl
    have HR1 := hide r1
    have HR2 := hide r2
    have HR3 := hide r3
    clear r1 r2 r3 r5 hxs
    go_wp2_with fail
    go_loopw [5] (fun v wr => ∃ k : Nat, k ≤ 2 ∧ v = .int .i64 (k : Int) ∧ Hid (∃ kv' tv' K' T', KWi x wr A b kv tv mk K.length (bo2 f ((.slice a L.length c), L)) k kv' tv' K' T')) (fun v _ => 2 - (intOf v).toNat)
    case atStart => exact ⟨0, Nat.zero_le _, rfl, hide ⟨_, _, _, _, HR1.out⟩⟩
    case round =>
      clear HR1
      obtain ⟨k, hk, rfl, HQ⟩ := hrel
      by_cases hlt : k < 2
      · have hli : (k : Int) < 2 := by omega
        obtain ⟨d0, hc⟩ := HWR.out _ k hlt HQ.out
        have HC := hide hc
        clear hc HQ HWR
        generalize (bo2 f ((.slice a L.length c), L) k).1 = bk at d0 HC
        go_wp2_with (go_at_call 37; refine HC.out.mono ?_; rintro e w13 ⟨rfl, q⟩; have HQ1 := hide q; clear q)
        go_roundw
        case rel => exact ⟨k + 1, by omega, by go_num, HQ1⟩
        case measure => simp [intOf]; omega
      · have hli : ¬ (k : Int) < 2 := by omega
        have ek : k = 2 := by omega
        subst ek
        clear HWR
        go_wp2_with fail
        go_end0
        obtain ⟨kv', tv', K', T', q⟩ := HQ.out
        exact ⟨x, kv', tv', K', T', rfl, HR2.out, HR3.out, q⟩
end Go.Proofs.Ytcdmkbjibcahcab
