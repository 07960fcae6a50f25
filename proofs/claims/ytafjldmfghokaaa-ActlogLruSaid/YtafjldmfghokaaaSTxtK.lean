import Derived.Test.YtafjldmfghokaaaSTxtP
namespace Go.Proofs.Ytafjldmfghokaaa.St
open Go.RowKit Go.Sort
set_option linter.unusedVariables false
set_option linter.unusedSimpArgs false
set_option maxRecDepth 20000

set_option maxHeartbeats 1000000 in
theorem texts_other {A : Nat → Prop} {p q M : Nat} {w : World} (h : Two A w p q M) (k0 k1 k2 i : Int) (hk : i64ok k2) (h0 : k0 ≠ 0) (h1 : k0 ≠ 1) (h2 : k0 ≠ 2) (h3 : k0 ≠ 3) (h4 : k0 ≠ 4) :
    Calls Try.prog 21 #[.pointer (some ⟨p, 0, none⟩), .pointer (some ⟨q, 0, none⟩), .agg #[.int .i64 k0, .int .i64 k1, .int .i64 k2], .int .i64 i] w fun e w' => e = .returned (.bool true) ∧ Two A w' p q (M + 1) ∧ Chg A w w' := by
  have HS := hide (TX.start h k0 k1 k2)
  have HNM := hide (name_any (w.alloc (.cells #[.int .i64 k0, .int .i64 k1, .int .i64 k2] 51)) k2 hk)
  have b0 : (k0 == 0) = false := by simpa using h0
  have b1 : (k0 == 1) = false := by simpa using h1
  have b2 : (k0 == 2) = false := by simpa using h2
  have b3 : (k0 == 3) = false := by simpa using h3
  have b4 : (k0 == 4) = false := by simpa using h4
  clear h hk h0 h1 h2 h3 h4
  go_enter Try.func21, Try.ntmps21
  go_wp2_with (first
    | (go_at_call 44; refine HNM.out.mono ?_; rintro e w1 ⟨rfl, hb⟩; have HX := hide (HS.out.below hb); have c0 : w1.cell? ⟨w.heap.size, 0, none⟩ = some (.int .i64 k0) := HX.out.c 0; have c2 : w1.cell? ⟨w.heap.size, 2, none⟩ = some (.int .i64 k2) := HX.out.c 2; clear hb HNM HS))
  go_ret
  exact ⟨rfl, HX.out.fin (by omega)⟩
/-- the walk over the keys -/
structure KW (w1 wr : World) (got want : Value) (K : List Int) (j : Nat) : Prop where
  be : Below w1.heap.size w1 wr
  xs : ∃ xs, wr.ownsRow 0 9 1 got K.length xs ∧ ∀ t, j ≤ t → xs[t]? = (K.map sK)[t]?
  wn : wr.ownsRow 0 3 1 want K.length (K.map iV)
  gl : ∀ b, got.ownBlock = some b → w1.heap.size ≤ b
theorem KW.below {w1 wr y : World} {got want : Value} {K : List Int} {j : Nat} (h : KW w1 wr got want K j) (hb : Below wr.heap.size wr y) : KW w1 y got want K j := by
  obtain ⟨xs, hx, hy⟩ := h.xs
  exact ⟨h.be.trans (hb.mono h.be.size), ⟨xs, rowKept hx fun g e => hb.block g (hx.lt g e).2, hy⟩, rowKept h.wn fun g e => hb.block g (h.wn.lt g e).2, h.gl⟩
theorem KW.at {w1 wr : World} {got want : Value} {K : List Int} {j : Nat} (h : KW w1 wr got want K j) (hj : j < K.length) : ∃ g cap g2 cap2, got = .slice (some ⟨g, 0, none⟩) K.length cap ∧ want = .slice (some ⟨g2, 0, none⟩) K.length cap2 ∧ wr.cell? ⟨g, j, none⟩ = some (.string (nm (K.getD j 0))) ∧ wr.cell? ⟨g2, j, none⟩ = some (.int .i64 (K.getD j 0)) ∧ wr.frozen? ⟨g, j, none⟩ = false := by
  obtain ⟨xs, hx, hy⟩ := h.xs
  have hk : K[j]? = some (K.getD j 0) := by simp [List.getD, hj]
  have hl : xs.length = K.length := by have := hx.1; omega
  rw [← hl] at hx
  obtain ⟨g, cap, e1, c1⟩ := rowCell hx (j := j) (x := .string (nm (K.getD j 0))) (by rw [hy j (Nat.le_refl _), List.getElem?_map, hk]; rfl)
  obtain ⟨g2, cap2, cs, e2, c2, -⟩ := row_atZ h.wn hk
  subst e1
  obtain ⟨cs', hc⟩ := rowCells hx rfl
  exact ⟨g, cap, g2, cap2, by rw [hl], e2, c1, c2, frozen_of_row _ _ _ _ 9 hc⟩
theorem KW.cells {w1 wr : World} {K : List Int} {j g g2 cap cap2 : Nat} (h : KW w1 wr (.slice (some ⟨g, 0, none⟩) K.length cap) (.slice (some ⟨g2, 0, none⟩) K.length cap2) K j) (hj : j < K.length) : wr.cell? ⟨g, j, none⟩ = some (.string (nm (K.getD j 0))) ∧ wr.cell? ⟨g2, j, none⟩ = some (.int .i64 (K.getD j 0)) ∧ wr.frozen? ⟨g, j, none⟩ = false := by
  obtain ⟨g', cap', g2', cap2', e1, e2, q1, q2, q3⟩ := h.at hj
  simp only [Value.slice.injEq, Option.some.injEq, Addr.mk.injEq] at e1 e2
  obtain ⟨⟨rfl, -, -⟩, -, -⟩ := e1
  obtain ⟨⟨rfl, -, -⟩, -, -⟩ := e2
  exact ⟨q1, q2, q3⟩
theorem KW.drew {w1 wr : World} {got want : Value} {K : List Int} {j : Nat} (h : KW w1 wr got want K j) : KW w1 wr.drew got want K j := h.below ((Below.refl _ _).drew)
theorem KW.spoil {w1 wr : World} {want : Value} {K : List Int} {j g cap : Nat} {x : Value} (h : KW w1 wr (.slice (some ⟨g, 0, none⟩) K.length cap) want K j) (hj : j < K.length) : KW w1 (wr.setCell ⟨g, j, none⟩ x) (.slice (some ⟨g, 0, none⟩) K.length cap) want K (j + 1) := by
  obtain ⟨xs, hx, hy⟩ := h.xs
  have hg : w1.heap.size ≤ g := h.gl g rfl
  obtain ⟨cs, hc⟩ := rowCells hx rfl
  refine ⟨⟨h.be.os, h.be.tape, h.be.output, by rw [World.size_setCell]; exact h.be.size, fun b hb => ?_⟩, ⟨_, row_set hx hj, fun t ht => ?_⟩, rowKept h.wn fun b e => Go.heap_setCell_other _ _ _ _ ?_, h.gl⟩
  · rw [Go.heap_setCell_other _ _ _ _ (show b ≠ g by omega)]; exact h.be.block b hb
  · rw [List.getElem?_set_ne (by omega)]; exact hy t (by omega)
  · obtain ⟨ds, hd⟩ := rowCells h.wn e
    exact neType hd hc (by decide)
theorem KW.form {w1 wr : World} {got want : Value} {K : List Int} {j : Nat} (h : KW w1 wr got want K j) : ∃ a cap a2 cap2, got = .slice a K.length cap ∧ want = .slice a2 K.length cap2 ∧ K.length ≤ cap ∧ cap ≤ maxLen ∧ K.length ≤ cap2 ∧ cap2 ≤ maxLen := by
  obtain ⟨xs, hx, hy⟩ := h.xs
  obtain ⟨a, c, e, q1, q2⟩ := rowForm hx
  obtain ⟨a', c', e', q1', q2'⟩ := rowForm h.wn
  exact ⟨a, c, a', c', e, e', q1, q2, q1', q2'⟩
/-- one more text behind the keys: its row, and what a write into its last place leaves -/
theorem KW.more {w1 wr w4 : World} {got want v' y : Value} {K : List Int} {j : Nat} {o : Obj} {xs : List Value} (h : KW w1 wr got want K j) (ho : w4.ownsRow 0 9 1 v' (K.length + 1) (xs ++ [y])) (hu : Upon (wr.alloc o) w4 got v') :
    ∃ g c, v' = .slice (some ⟨g, 0, none⟩) (K.length + 1) c ∧ K.length + 1 ≤ c ∧ c ≤ maxLen ∧ ∀ x, Below w4.heap.size w4 x → (∃ u, x.cell? ⟨g, K.length, none⟩ = some u) ∧ x.frozen? ⟨g, K.length, none⟩ = false ∧ ∀ v, Below w1.heap.size w1 (x.setCell ⟨g, K.length, none⟩ v) := by
  have hb4 : Below w1.heap.size w1 w4 := (hu.chg (U := fun b => w1.heap.size ≤ b) (w := w1) (Chg.ofBelow h.be) fun b e => .inl (h.gl b e)).below (Nat.le_refl _) fun b e => e
  have hl : (xs ++ [y]).length = K.length + 1 := by have := ho.1; omega
  rw [← hl] at ho
  obtain ⟨g, c, e, hc⟩ := rowCell ho (j := K.length) (x := y) (by
    have : xs.length = K.length := by simpa using hl
    rw [← this]; simp)
  subst e
  obtain ⟨a', c', e', q1, q2⟩ := rowForm ho
  simp only [Value.slice.injEq] at e'
  obtain ⟨-, -, rfl⟩ := e'
  obtain ⟨cs, hcs⟩ := rowCells ho rfl
  have hgl := (Array.getElem?_eq_some_iff.1 hcs).1
  have hg : w1.heap.size ≤ g := by
    rcases hu.loc g rfl with e | e
    · exact h.gl g e
    · rw [World.size_alloc] at e; have := h.be.size; omega
  refine ⟨g, c, by rw [hl], by rw [← hl]; exact q1, q2, fun x hx => ⟨⟨y, ?_⟩, ?_, fun v => ?_⟩⟩
  · rw [World.cell?_of_block (a := ⟨g, K.length, none⟩) (hx.block g hgl)]; exact hc
  · exact frozen_of_row _ _ _ _ 9 ((hx.block g hgl).trans hcs)
  · have hbx := hb4.trans (hx.mono hb4.size)
    refine ⟨hbx.os, hbx.tape, hbx.output, by rw [World.size_setCell]; exact hbx.size, fun b hb => ?_⟩
    rw [Go.heap_setCell_other _ _ _ _ (show b ≠ g by omega)]
    exact hbx.block b hb
set_option maxHeartbeats 2000000 in
theorem texts_keys {A : Nat → Prop} {p q M : Nat} {w : World} (h : Two A w p q M) (hM : M ≤ 4611686018427387904) (k1 k2 i : Int) (hk : i64ok k2) (hi : i64ok i) :
    Calls Try.prog 21 #[.pointer (some ⟨p, 0, none⟩), .pointer (some ⟨q, 0, none⟩), .agg #[.int .i64 4, .int .i64 k1, .int .i64 k2], .int .i64 i] w fun e w' => e = .returned (.bool true) ∧ Two A w' p q (M + 1) ∧ Chg A w w' := by
  have HS := hide (TX.start h 4 k1 k2)
  have HNM := hide (name_any (w.alloc (.cells #[.int .i64 4, .int .i64 k1, .int .i64 k2] 51)) k2 hk)
  have HI := hide hi
  have HKS : Hid (∀ x, TX A w x p q M w.heap.size 4 k1 k2 → _) := hide fun x (hx : TX A w x p q M w.heap.size 4 k1 k2) => two_keys hx.two hM
  clear h hk hi
  go_enter Try.func21, Try.ntmps21
  go_wp2_with (first
    | (go_at_call 44; refine HNM.out.mono ?_; rintro e w1 ⟨rfl, hb⟩; have HX := hide (HS.out.below hb); have c0 : w1.cell? ⟨w.heap.size, 0, none⟩ = some (.int .i64 4) := HX.out.c 0; have c2 : w1.cell? ⟨w.heap.size, 2, none⟩ = some (.int .i64 k2) := HX.out.c 2; clear hb HNM HS))
  obtain ⟨K, hK1, hK2, hKC⟩ := HKS.out w1 HX.out
  have HKL := hide (hKC w1 (Below.refl _ _)).1
  have HKR : Hid (∀ x, Below w1.heap.size w1 x → _) := hide fun x (hx : Below w1.heap.size w1 x) => (hKC x hx).2
  have HKO := hide hK2
  clear hKC hK2 HKS c0 c2
  go_wp2_with (first
    | (go_at_call 53; refine HKL.out.mono ?_; rintro e w2 ⟨got, rfl, hg1, hg2, hg3⟩; have HGOT := hide (And.intro hg1 (And.intro hg2 hg3)); obtain ⟨ga, gc, rfl, hgc1, hgc2⟩ := rowForm hg1; clear hg1 hg2 hg3 HKL)
    | (go_at_call 54; refine (HKR.out _ HGOT.out.2.1).mono ?_; rintro e w3 ⟨want, rfl, hw1, hw2, hw3⟩; have HKW : Hid (KW w1 w3 _ _ K 0) := hide ⟨HGOT.out.2.1.trans (hw2.mono HGOT.out.2.1.size), ⟨_, rowKept HGOT.out.1 fun g e => hw2.block g (HGOT.out.1.lt g e).2, fun t _ => rfl⟩, hw1, HGOT.out.2.2⟩; obtain ⟨wa, wc, rfl, hwc1, hwc2⟩ := rowForm hw1; clear hw1 hw2 hw3 HKR HGOT))
  unfold maxLen at hgc2 hwc2
  have HNA := hide name_any
  go_loopw [22] (fun x wr => ∃ j : Nat, j ≤ K.length ∧ x = .int .i64 (j : Int) ∧ KW w1 wr (.slice ga K.length gc) (.slice wa K.length wc) K j) (fun x _ => K.length - (intOf x).toNat)
  case atStart => exact ⟨0, Nat.zero_le _, rfl, HKW.out⟩
  case round =>
    clear HKW
    obtain ⟨j, hjn, rfl, hkw⟩ := hrel
    have HKW := hide hkw
    by_cases hj : j < K.length
    · obtain ⟨g, cap, g2, cap2, e1, e2, -, -, -⟩ := hkw.at hj
      simp only [Value.slice.injEq] at e1 e2
      obtain ⟨rfl, -, rfl⟩ := e1
      obtain ⟨rfl, -, rfl⟩ := e2
      obtain ⟨r1, r2, rf⟩ := hkw.cells hj
      have hok : i64ok (K.getD j 0) := HKO.out _ (List.mem_of_getElem? (i := j) (by simp [List.getD, hj]))
      have HOK := hide hok
      clear hkw hok HX HI HKO rf
      have HCE : Hid (∀ x, KW w1 x (.slice (some ⟨g, 0, none⟩) K.length gc) (.slice (some ⟨g2, 0, none⟩) K.length wc) K j → x.cell? ⟨g, j, none⟩ = some (.string (nm (K.getD j 0))) ∧ x.cell? ⟨g2, j, none⟩ = some (.int .i64 (K.getD j 0)) ∧ x.frozen? ⟨g, j, none⟩ = false ∧ ∀ v, KW w1 (x.setCell ⟨g, j, none⟩ v) (.slice (some ⟨g, 0, none⟩) K.length gc) (.slice (some ⟨g2, 0, none⟩) K.length wc) K (j + 1)) := hide fun x hx => ⟨(hx.cells hj).1, (hx.cells hj).2.1, (hx.cells hj).2.2, fun v => hx.spoil hj⟩
      generalize K.getD j 0 = kk at *
      generalize hnn : K.length = n at *
      clear hnn
      go_wp2_with fail
      go_region_held3 (fun w' => w'.cell? ⟨g, j, none⟩ = some (.string (nm kk)) ∧ w'.cell? ⟨g2, j, none⟩ = some (.int .i64 kk)) (first | exact ⟨r1, r2⟩ | exact ⟨y1, y2⟩)
        ((go_at_call 44; refine (HNA.out _ _ HOK.out).mono ?_; rintro e w4 ⟨rfl, hb⟩; have HY := hide (HKW.out.drew.below hb); obtain ⟨y1, y2, y3, y4⟩ := HCE.out _ HY.out; have HZ := hide y4; clear hb y4))
      all_goals
        clear r1 r2 HCE HKW HNA
        go_wp2_with fail
        go_roundw
        case rel => exact ⟨j + 1, by omega, by go_num, HZ.out _⟩
        case measure => simp [intOf]; omega
    · have ej : j = K.length := by omega
      subst ej
      obtain ⟨i0, hi, hz0, hz1, hz2⟩ := info_parts info_string
      obtain ⟨xs, hx, -⟩ := hkw.xs
      have o3 := hx.alloc (.cells #[.string ⟨#[109, 111, 114, 101]⟩] 9)
      have HMO : Hid (∀ v' w4, w4.ownsRow 0 9 1 v' (K.length + 1) (xs ++ [.string ⟨#[109, 111, 114, 101]⟩]) → Upon (wr.alloc (.cells #[.string ⟨#[109, 111, 114, 101]⟩] 9)) w4 (.slice ga K.length gc) v' → _) := hide fun v' w4 (y1 : w4.ownsRow 0 9 1 v' (K.length + 1) (xs ++ [.string ⟨#[109, 111, 114, 101]⟩])) (y2 : Upon (wr.alloc (.cells #[.string ⟨#[109, 111, 114, 101]⟩] 9)) w4 (.slice ga K.length gc) v') => HKW.out.more y1 y2
      clear hkw hx HKO HKW
      generalize hnn : K.length = n at *
      clear hnn
      go_wp2_with (at_builtin; refine wpList_append1 _ rfl (.tmp 139) (.tmp 140) 91 rfl 9 i0 (.string ByteArray.empty) 16 Try.underlying91 hi hz0 hz1 hz2 rfl _ _ _ rfl o3 ⟨wr.heap.size, 0, none⟩ 1 (.string ⟨#[109, 111, 114, 101]⟩) rfl (cell_one_new _ _ _) rfl (by unfold maxLen; omega) (by omega) ?_)
      intro v' w4 ho4 hup4
      obtain ⟨g, c, rfl, hc1, hc2, hw⟩ := HMO.out v' w4 ho4 (by unfold Upon; rw [World.size_alloc]; exact hup4)
      unfold maxLen at hc2
      have HW := hide hw
      clear hw ho4 hup4 HMO o3
      go_wp2_with (first
        | (go_at_call 44; refine (HNA.out _ _ HI.out).mono ?_; rintro e w5 ⟨rfl, hb⟩; obtain ⟨⟨u, y1⟩, y2, y3⟩ := HW.out _ hb; have HZ := hide y3; clear hb y3 HW))
      go_ret
      exact ⟨rfl, (HX.out.below (HZ.out _)).fin (by omega)⟩
end Go.Proofs.Ytafjldmfghokaaa.St
