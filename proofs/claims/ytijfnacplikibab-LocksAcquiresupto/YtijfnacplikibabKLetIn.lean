import Derived.Test.YtijfnacplikibabKLeave
namespace Go.Proofs.Ytijfnacplikibab
open Go.RowKit
set_option linter.unusedVariables false
set_option linter.unusedSimpArgs false
set_option maxRecDepth 20000

/-- how many of the row come in -/
def lin : List (Int × Int) → List (Int × Int) → Nat
  | _, [] => 0
  | hs, c :: r => if goesB hs c.2 then lin (hs ++ [c]) r + 1 else 0
theorem lin_le : ∀ (r hs : List (Int × Int)), lin hs r ≤ r.length
  | [], _ => Nat.zero_le _
  | c :: r, hs => by
    unfold lin
    split
    · have := lin_le r (hs ++ [c]); simp; omega
    · simp
theorem lin_lt : ∀ (r hs : List (Int × Int)) (i : Nat), i < lin hs r → goesB (hs ++ r.take i) (r.getD i (0, 0)).2 = true
  | [], _, i, h => by simp [lin] at h
  | c :: r, hs, i, h => by
    unfold lin at h
    split at h
    · rename_i hg
      cases i with
      | zero => simpa using hg
      | succ i =>
        have := lin_lt r (hs ++ [c]) i (by omega)
        simpa [List.append_assoc] using this
    · omega
theorem lin_end : ∀ (r hs : List (Int × Int)), lin hs r < r.length → goesB (hs ++ r.take (lin hs r)) (r.getD (lin hs r) (0, 0)).2 = false
  | [], _, h => by simp [lin] at h
  | c :: r, hs, h => by
    by_cases hg : goesB hs c.2 = true
    · have e : lin hs (c :: r) = lin (hs ++ [c]) r + 1 := by rw [lin, if_pos hg]
      rw [e] at h ⊢
      have := lin_end r (hs ++ [c]) (by simpa using h)
      simpa [List.append_assoc] using this
    · have e : lin hs (c :: r) = 0 := by rw [lin, if_neg hg]
      rw [e]
      simpa using hg
theorem upd_upd {α : Type} (f : Nat → α) (k : Nat) (x y : α) : upd (upd f k x) k y = upd f k y := by
  funext j
  by_cases h : j = k
  · rw [h, upd_same, upd_same]
  · rw [upd_other _ _ _ h, upd_other _ _ _ h, upd_other _ _ _ h]
section
variable {w w1 : World} {p b : Nat} {m : Int} {n : Nat} {V : Nat → Value} {L : Nat → List (Int × Int)} {ws wt : Int}
/-- a claim behind a list: x the world ahead, y behind the append -/
theorem TRep.push {x y : World} {O : Obj} {v v' : Value} {l : List (Int × Int)} {c : Int × Int} {k q : Nat} (h : TRep x p b m n (upd V k v) (upd L k l) ws wt) (hk : k < n * 2) (hq : q = l.length) (ho : y.ownsRow 0 75 2 v' (q + 1) (cvs l ++ [.int .i64 c.1, .int .i64 c.2])) (hu : Upon (x.alloc O).drew y v v') :
    TRep (y.setCell ⟨b, k, none⟩ v') p b m n (upd V k v') (upd L k (l ++ [c])) ws wt ∧ Tr (fun _ => False) x (y.setCell ⟨b, k, none⟩ v') (TU p b n (upd V k v)) (TU p b n (upd V k v')) ∧ y.cell? ⟨b, k, none⟩ = some v ∧ y.frozen? ⟨b, k, none⟩ = false := by
  have hrow : CRow y v' (l ++ [c]) := by
    unfold CRow
    rw [List.length_append, cvs_append, show cvs [c] = [.int .i64 c.1, .int .i64 c.2] from rfl]
    subst hq
    exact ho
  have hsz : (x.alloc O).drew.heap.size = x.heap.size + 1 := World.size_alloc ..
  have hkeep : ∀ g, g < x.heap.size → (upd V k v k).ownBlock ≠ some g → y.heap[g]? = x.heap[g]? := fun g hg hne => by
    rw [upd_same] at hne
    exact (hu.block g (by omega) hne).trans (Below.heap_alloc _ _ g hg)
  have hloc : ∀ g, v'.ownBlock = some g → (upd V k v k).ownBlock = some g ∨ x.heap.size ≤ g := fun g e => by
    rw [upd_same]
    rcases hu.loc g e with e | e
    · exact .inl e
    · rw [hsz] at e; exact .inr (by omega)
  have hs := hu.size
  have hc : Chg (fun g => (upd V k v k).ownBlock = some g) x y := ⟨hu.same.1, hu.same.2.1, hu.same.2.2, by omega, fun g hg hne => hkeep g hg hne⟩
  have h1 := h.list hk hrow hkeep hloc
  have h2 := h.listTr (fun _ => False) hk hc hloc
  rw [upd_upd, upd_upd] at h1
  rw [upd_upd] at h2
  have hbk := hkeep b (h.lt b (.inr (.inl rfl))) fun e => (h.gp hk e).2 rfl
  have hcb := h.lc hk
  rw [upd_same] at hcb
  exact ⟨h1, h2, (World.cell?_of_block hbk).trans hcb, (World.frozen?_of_block hbk).trans (h.lf k)⟩
/-- the row's first ones are gone: x ahead, z behind owners, y behind Delete -/
theorem TRep.tail {w0 x y z : World} {v v' : Value} {l lr' : List (Int × Int)} {e q cr : Nat} {a : Option Addr} (h : TRep x p b m n (upd V (e * 2) v) (upd L (e * 2) l) ws wt) (hk0 : e * 2 < n * 2) (hk1 : e * 2 + 1 < n * 2) (hk01 : e * 2 + 1 ≠ e * 2) (er : V (e * 2 + 1) = .slice a q cr) (htr : Tr (fun _ => False) w0 x (TU p b n V) (TU p b n (upd V (e * 2) v))) (hb : Below x.heap.size x z) (ho : CRow y v' lr') (hc : Chg (fun g => (Value.slice a q cr).ownBlock = some g) z y) (hl : v'.ownBlock = (Value.slice a q cr).ownBlock) {gv : Value} {gl : List Int} (hg1 : IRow z gv gl) (hg2 : ∀ g, gv.ownBlock = some g → x.heap.size ≤ g) :
    (y.cell? ⟨b, e * 2 + 1, none⟩ = some (.slice a q cr) ∧ y.frozen? ⟨b, e * 2 + 1, none⟩ = false) ∧ TRep (y.setCell ⟨b, e * 2 + 1, none⟩ v') p b m n (upd (upd V (e * 2) v) (e * 2 + 1) v') (upd (upd L (e * 2) l) (e * 2 + 1) lr') ws wt ∧ Tr (fun _ => False) w0 (y.setCell ⟨b, e * 2 + 1, none⟩ v') (TU p b n V) (TU p b n (upd (upd V (e * 2) v) (e * 2 + 1) v')) ∧ IRow (y.setCell ⟨b, e * 2 + 1, none⟩ v') gv gl ∧ ∀ g, gv.ownBlock = some g → w0.heap.size ≤ g := by
  have hz := h.below hb
  have ev : upd V (e * 2) v (e * 2 + 1) = .slice a q cr := by rw [upd_other _ _ _ hk01, er]
  have hbk := hc.keep b (hz.lt b (.inr (.inl rfl))) fun e' => (hz.gp hk1 (by rw [ev]; exact e')).2 rfl
  have hcb := hz.lc hk1
  rw [ev] at hcb
  have hbx := h.lt b (.inr (.inl rfl))
  refine ⟨⟨(World.cell?_of_block hbk).trans hcb, (World.frozen?_of_block hbk).trans (hz.lf _)⟩, hz.list hk1 ho (fun g hg hne => hc.keep g hg (by rw [← ev]; exact hne)) (fun g e' => .inl (by rw [ev, ← hl]; exact e')), (htr.trans (Tr.ofBelow hb)).trans (hz.listTr _ hk1 (hc.mono fun g _ e' => by rw [ev]; exact e') fun g e' => .inl (by rw [ev, ← hl]; exact e')), (hg1.kept fun g hg => hc.keep g (hg1.lt hg) fun e' => ?_).kept fun g hg => Go.heap_setCell_other _ _ _ _ (show g ≠ b from fun e' => ?_), fun g hg => Nat.le_trans htr.chg.size (hg2 g hg)⟩
  · have := hg2 g hg
    have hown := h.own _ hk1
    rw [ev] at hown
    have := hown.lt e'
    omega
  · have := hg2 g hg
    omega
end
set_option maxHeartbeats 2000000 in
theorem letIn_any (w : World) (p b : Nat) (m : Int) (n : Nat) (V : Nat → Value) (L : Nat → List (Int × Int)) (ws wt : Int) (e : Nat) (h : TRep w p b m n V L ws wt) (he : e < n) (hb0 : (L (e * 2)).length + (L (e * 2 + 1)).length ≤ 8000000000000) :
    Calls Try.prog 50 #[.pointer (some ⟨b, e * 2, none⟩)] w fun e' w' => ∃ v V', e' = .returned v ∧ IRow w' v (((L (e * 2 + 1)).take (lin (L (e * 2)) (L (e * 2 + 1)))).map Prod.fst) ∧ (∀ g, v.ownBlock = some g → w.heap.size ≤ g) ∧ TRep w' p b m n V' (upd (upd L (e * 2) (L (e * 2) ++ (L (e * 2 + 1)).take (lin (L (e * 2)) (L (e * 2 + 1))))) (e * 2 + 1) ((L (e * 2 + 1)).drop (lin (L (e * 2)) (L (e * 2 + 1))))) ws wt ∧ Tr (fun _ => False) w w' (TU p b n V) (TU p b n V') := by
  have hk0 : e * 2 < n * 2 := by omega
  have hk1 : e * 2 + 1 < n * 2 := by omega
  have hk01 : e * 2 + 1 ≠ e * 2 := by omega
  have c1 := h.lc hk1
  obtain ⟨ar, cr, er, hr1, hr2⟩ := rowForm (h.own _ hk1)
  rw [er] at c1
  unfold maxLen at hr2
  have HT : Hid (TRep w p b m n (upd V (e * 2) (V (e * 2))) (upd L (e * 2) (L (e * 2) ++ (L (e * 2 + 1)).take 0)) ws wt) := hide (by
    have e1 : upd V (e * 2) (V (e * 2)) = V := by funext j; by_cases ej : j = e * 2; rw [ej, upd_same]; rw [upd_other _ _ _ ej]
    have e2 : upd L (e * 2) (L (e * 2) ++ (L (e * 2 + 1)).take 0) = L := by funext j; by_cases ej : j = e * 2; rw [ej, upd_same]; simp; rw [upd_other _ _ _ ej]
    rw [e1, e2]; exact h)
  have HR0 : Hid (Tr (fun _ => False) w w (TU p b n V) (TU p b n (upd V (e * 2) (V (e * 2))))) := hide (by
    have e1 : upd V (e * 2) (V (e * 2)) = V := by funext j; by_cases ej : j = e * 2; rw [ej, upd_same]; rw [upd_other _ _ _ ej]
    rw [e1]; exact Tr.refl _ _ _)
  have HLE := hide (lin_le (L (e * 2 + 1)) (L (e * 2)))
  have HLT := hide (lin_lt (L (e * 2 + 1)) (L (e * 2)))
  have HEN := hide (lin_end (L (e * 2 + 1)) (L (e * 2)))
  obtain ⟨i0, hi, hz0, hz1, hz2⟩ := infoCl
  clear h
  generalize hrw : L (e * 2 + 1) = rw at *
  generalize hhs : L (e * 2) = hs at *
  generalize hkk : lin hs rw = K at *
  have HRW := hide hrw
  clear hrw hhs hkk
  /- what stands in a world of the loop -/
  have HS : Hid (∀ x v i, TRep x p b m n (upd V (e * 2) v) (upd L (e * 2) (hs ++ rw.take i)) ws wt → x.cell? ⟨b, e * 2, none⟩ = some v ∧ x.cell? ⟨b, e * 2 + 1, none⟩ = some (.slice ar rw.length cr) ∧ x.frozen? ⟨b, e * 2, none⟩ = false ∧ CRow x v (hs ++ rw.take i) ∧ CRow x (.slice ar rw.length cr) rw) := hide fun x v i hx => by
    have a0 := hx.lc hk0
    have a1 := hx.lc hk1
    have b0 := hx.own _ hk0
    have b1 := hx.own _ hk1
    rw [upd_same] at a0
    rw [upd_same, upd_same] at b0
    rw [upd_other _ _ _ hk01, er] at a1
    rw [upd_other _ _ _ hk01, upd_other _ _ _ hk01, er, HRW.out] at b1
    exact ⟨a0, a1, hx.lf _, b0, b1⟩
  have HG := hide fun x v i (hx : TRep x p b m n (upd V (e * 2) v) (upd L (e * 2) (hs ++ rw.take i)) ws wt) (md : Int) => goes_any x b (e * 2) v (hs ++ rw.take i) md (HS.out x v i hx).1 (HS.out x v i hx).2.2.2.1
  have HCC := hide fun x (hx : CRow x (.slice ar rw.length cr) rw) (i : Nat) (hi : i < rw.length) => CRow.cell hx (j := i) (c := rw.getD i (0, 0)) (by simp [List.getD, hi])
  generalize hvh : V (e * 2) = v0 at *
  clear hvh c1
  go_enter Try.func50, Try.ntmps50
  go_wp2_with fail
  go_loopw [3] (fun q wr => ∃ (i : Nat) (v : Value), i ≤ K ∧ q = .int .i64 (i : Int) ∧ TRep wr p b m n (upd V (e * 2) v) (upd L (e * 2) (hs ++ rw.take i)) ws wt ∧ Tr (fun _ => False) w wr (TU p b n V) (TU p b n (upd V (e * 2) v))) (fun q _ => K - (intOf q).toNat)
  case atStart => exact ⟨0, v0, Nat.zero_le _, rfl, HT.out, HR0.out⟩
  case round =>
    clear HT HR0
    obtain ⟨i, v, hiK, rfl, hT, hTr⟩ := hrel
    have HT := hide hT
    have HTR := hide hTr
    obtain ⟨c0, c1, f0, hcr, hcr2⟩ := HS.out _ _ _ hT
    have HCR := hide hcr
    have HCR2 := hide hcr2
    obtain ⟨av, cv, rfl, hv1, hv2⟩ := rowForm hcr
    unfold maxLen at hv2
    have hle := HLE.out
    clear hT hTr hcr hcr2
    have hlen : (hs ++ rw.take i).length = hs.length + i := by rw [List.length_append, List.length_take]; omega
    by_cases hlt : i < rw.length
    · obtain ⟨gr, cr', ee, hgr, d1, d2⟩ := HCC.out _ HCR2.out i hlt
      simp only [Value.slice.injEq] at ee
      obtain ⟨rfl, -, rfl⟩ := ee
      have HG2 := hide (HG.out _ _ _ HT.out (rw.getD i (0, 0)).2)
      by_cases hik : i < K
      · have hgo := HLT.out i hik
        rw [hgo] at HG2
        have HTK : Hid (hs ++ rw.take (i + 1) = (hs ++ rw.take i) ++ [rw.getD i (0, 0)]) := hide (by
          rw [List.take_add_one, ← List.append_assoc]
          congr 1
          simp [List.getD, hlt])
        have hll : (hs ++ rw.take i).length ≤ 8000000000000 - 1 := by omega
        have HQ := hide (rfl : (hs ++ rw.take i).length = (hs ++ rw.take i).length)
        have hw1 : IntKind.i64.wrap ((i : Int) + 1) = (i : Int) + 1 := by simp [IntKind.wrap, IntKind.bits, IntKind.signed]; omega
        clear hlen
        generalize rw.getD i (0, 0) = c at *
        obtain ⟨x, y⟩ := c
        dsimp only at d1 d2 HG2
        have ho : (wr.alloc (.cells #[.int .i64 x, .int .i64 y] 75)).drew.ownsRow 0 75 2 (.slice av (hs ++ rw.take i).length cv) (hs ++ rw.take i).length (cvs (hs ++ rw.take i)) := rowKept (World.ownsRow.alloc HCR.out (.cells #[.int .i64 x, .int .i64 y] 75)) fun _ _ => rfl
        have k0 : (wr.alloc (.cells #[.int .i64 x, .int .i64 y] 75)).cell? ⟨b, e * 2, none⟩ = some (.slice av (hs ++ rw.take i).length cv) := Lib.cell?_alloc_some _ c0
        have HO := hide ho
        have HPU := hide fun z v' (h1 : z.ownsRow 0 75 2 v' ((hs ++ rw.take i).length + 1) (cvs (hs ++ rw.take i) ++ [.int .i64 x, .int .i64 y])) h2 => HT.out.push (y := z) (O := .cells #[.int .i64 x, .int .i64 y] 75) (v' := v') (c := (x, y)) hk0 rfl h1 h2
        rw [← HTK.out] at HPU
        generalize hql : (hs ++ rw.take i).length = q at *
        generalize cvs (hs ++ rw.take i) = xs at *
        have HQL := hide hql
        clear hql ho HG HS HCC HT HCR HCR2 HRW hgo HQ HLT HEN HLE HTK
        have hii : 0 ≤ (i : Int) ∧ (i : Int) < (rw.length : Int) := ⟨by omega, by omega⟩
        go_wp2_with (go_at_call 48; refine HG2.out.mono ?_; rintro e' w2 ⟨rfl, rfl⟩; clear HG2)
        go_region_law (refine step_appendC rfl (.tmp 28) (.tmp 36) 87 rfl 75 i0 (.agg #[.int .i64 0, .int .i64 0]) 2 16 Try.underlying87 hi hz0 hz1 hz2 rfl (by decide) (.slice av q cv) q xs rfl HO.out ⟨w2.heap.size, 0, none⟩ 1 1 [.int .i64 x, .int .i64 y] rfl rfl (by decide) (cells_new _ _ _ _ rfl) (by simp [Value.oneCell']) (by unfold maxLen; omega) (by omega) ?_; intro v' w6 ho6 hu6; have HX := hide (HPU.out _ _ ho6 hu6); obtain ⟨k6, g6⟩ := HX.out.2.2; obtain ⟨a6, c6, rfl, -, -⟩ := rowForm ho6; clear ho6 hu6)
        all_goals
          go_wp2_with fail
          go_roundw
          case rel => exact ⟨i + 1, _, by omega, by go_num, HX.out.1, HTR.out.trans HX.out.2.1⟩
          case measure => simp [intOf]; omega
      · have ek : i = K := by omega
        subst ek
        have hgo := HEN.out hlt
        rw [hgo] at HG2
        have HOW := hide (owners_any _ _ _ (HCR2.out.cut (i := i) (by omega)) (by rw [List.length_take]; omega))
        have HDE := hide fun z (hz : CRow z (.slice (some ⟨gr, 0, none⟩) rw.length cr) rw) => delete_front z _ rw i hz (by omega)
        have HTA := hide fun z y v' hb h1 h2 h3 gv hg1 hg2 => HT.out.tail (w0 := w) (z := z) (y := y) (v' := v') (lr' := rw.drop i) hk0 hk1 hk01 er HTR.out hb h1 h2 h3 (gv := gv) (gl := (rw.take i).map Prod.fst) hg1 hg2
        have HZ := hide fun z (hb : Below wr.heap.size wr z) => (⟨(below_cell hb (HT.out.lt b (.inr (.inl rfl))) _).trans c1, HCR2.out.kept fun g hg => hb.block g (HCR2.out.lt hg)⟩ : z.cell? ⟨b, e * 2 + 1, none⟩ = some _ ∧ CRow z _ rw)
        have hii : 0 ≤ (i : Int) ∧ (i : Int) < (rw.length : Int) := ⟨by omega, by omega⟩
        have hic : i ≤ cr := by omega
        generalize rw.getD i (0, 0) = c at *
        obtain ⟨x, y⟩ := c
        dsimp only at d1 d2 HG2
        clear hlen HG HS HCC HT HCR HCR2 HRW hgo HLT HEN HLE
        go_wp2_with (first
          | (go_at_call 48; refine HG2.out.mono ?_; rintro e' w2 ⟨rfl, rfl⟩; clear HG2)
          | (go_at_call 51; refine HOW.out.mono ?_; rintro e' w3 ⟨gv, rfl, hg1, hb3, hg2⟩; have HG1 := hide hg1; have HB3 := hide hb3; have HG2' := hide hg2; obtain ⟨z1, z2⟩ := HZ.out _ hb3; have HZ2 := hide z2; clear hg1 hb3 hg2 HOW z2)
          | (go_at_call 56; refine (HDE.out _ HZ2.out).mono ?_; rintro e' w4 ⟨v', rfl, hr4, hc4, hl4⟩; have HX := hide (HTA.out _ _ _ HB3.out hr4 hc4 hl4 gv HG1.out HG2'.out); obtain ⟨k4, f4⟩ := HX.out.1; obtain ⟨a4, n4, e4, -, -⟩ := rowForm hr4; generalize List.length _ = q4 at e4; subst e4; clear hr4 hc4 hl4 HDE HTA))
        go_ret
        exact ⟨_, _, rfl, HX.out.2.2.2.1, HX.out.2.2.2.2, HX.out.2.1, HX.out.2.2.1⟩
    · have ek : i = K := by omega
      subst ek
      have ei : i = rw.length := by omega
      have HOW := hide (owners_any _ _ _ (HCR2.out.cut (i := i) (by omega)) (by rw [List.length_take]; omega))
      have HDE := hide fun z (hz : CRow z (.slice ar rw.length cr) rw) => delete_front z _ rw i hz (by omega)
      have HTA := hide fun z y v' hb h1 h2 h3 gv hg1 hg2 => HT.out.tail (w0 := w) (z := z) (y := y) (v' := v') (lr' := rw.drop i) hk0 hk1 hk01 er HTR.out hb h1 h2 h3 (gv := gv) (gl := (rw.take i).map Prod.fst) hg1 hg2
      have HZ := hide fun z (hb : Below wr.heap.size wr z) => (⟨(below_cell hb (HT.out.lt b (.inr (.inl rfl))) _).trans c1, HCR2.out.kept fun g hg => hb.block g (HCR2.out.lt hg)⟩ : z.cell? ⟨b, e * 2 + 1, none⟩ = some _ ∧ CRow z _ rw)
      have hic : i ≤ cr := by omega
      have hor : (ar = none ∧ rw.length = 0 ∧ cr = 0) ∨ ∃ g, ar = some ⟨g, 0, none⟩ := by
        have h' : wr.ownsRow 0 75 2 (.slice ar rw.length cr) rw.length (cvs rw) := HCR2.out
        rcases h'.2 with ⟨e', e0⟩ | ⟨g, cap', cur, e', _⟩
        · simp only [Value.slice.injEq] at e'
          exact .inl ⟨e'.1, e0, e'.2.2⟩
        · simp only [Value.slice.injEq] at e'
          exact .inr ⟨g, e'.1⟩
      have hnl : ¬ (i : Int) < (rw.length : Int) := by omega
      clear hlen HG HS HCC HT HCR HCR2 HRW HLT HEN HLE
      rcases hor with ⟨rfl, e1, rfl⟩ | ⟨gr, rfl⟩
      · have e2 : rw = [] := List.length_eq_zero_iff.1 e1
        subst e2
        have e3 : i = 0 := by omega
        subst e3
        clear e1 ei
        simp only [List.length_nil] at *
        go_wp2_with (first
          | (go_at_call 51; refine HOW.out.mono ?_; rintro e' w3 ⟨gv, rfl, hg1, hb3, hg2⟩; have HG1 := hide hg1; have HB3 := hide hb3; have HG2' := hide hg2; obtain ⟨z1, z2⟩ := HZ.out _ hb3; have HZ2 := hide z2; clear hg1 hb3 hg2 HOW z2)
          | (go_at_call 56; refine (HDE.out _ HZ2.out).mono ?_; rintro e' w4 ⟨v', rfl, hr4, hc4, hl4⟩; have HX := hide (HTA.out _ _ _ HB3.out hr4 hc4 hl4 gv HG1.out HG2'.out); obtain ⟨k4, f4⟩ := HX.out.1; obtain ⟨a4, n4, e4, -, -⟩ := rowForm hr4; generalize List.length _ = q4 at e4; subst e4; clear hr4 hc4 hl4 HDE HTA))
        go_ret
        exact ⟨_, _, rfl, HX.out.2.2.2.1, HX.out.2.2.2.2, HX.out.2.1, HX.out.2.2.1⟩
      · generalize rw.length = N at *
        subst ei
        go_wp2_with (first
          | (go_at_call 51; refine HOW.out.mono ?_; rintro e' w3 ⟨gv, rfl, hg1, hb3, hg2⟩; have HG1 := hide hg1; have HB3 := hide hb3; have HG2' := hide hg2; obtain ⟨z1, z2⟩ := HZ.out _ hb3; have HZ2 := hide z2; clear hg1 hb3 hg2 HOW z2)
          | (go_at_call 56; refine (HDE.out _ HZ2.out).mono ?_; rintro e' w4 ⟨v', rfl, hr4, hc4, hl4⟩; have HX := hide (HTA.out _ _ _ HB3.out hr4 hc4 hl4 gv HG1.out HG2'.out); obtain ⟨k4, f4⟩ := HX.out.1; obtain ⟨a4, n4, e4, -, -⟩ := rowForm hr4; generalize List.length _ = q4 at e4; subst e4; clear hr4 hc4 hl4 HDE HTA))
        go_ret
        exact ⟨_, _, rfl, HX.out.2.2.2.1, HX.out.2.2.2.2, HX.out.2.1, HX.out.2.2.1⟩
end Go.Proofs.Ytijfnacplikibab
