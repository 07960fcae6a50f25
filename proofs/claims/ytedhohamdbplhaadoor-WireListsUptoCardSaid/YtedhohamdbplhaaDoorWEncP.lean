import Derived.Test.YtedhohamdbplhaaDoorWAf2
namespace Go.Proofs.YtedhohamdbplhaaDoor
open Go.RowKit
set_option linter.unusedVariables false
set_option linter.unusedSimpArgs false
set_option maxRecDepth 20000

theorem Own.lone {w : World} (x : Nat) (hx : x < 256) : Own (w.alloc (.cells #[.int .u8 (x : Int)] 5)) w.heap.size (.slice (some ⟨w.heap.size, 0, none⟩) 1 1) [x] :=
  ⟨World.ownsRow_lit w #[.int .u8 (x : Int)] 1 (Nat.le_refl _) (by unfold maxLen; omega) rfl, by simpa using hx⟩
theorem fit_dat {p : PV} {lo hi : Nat} {t : Bool} (h : fitF p (.dat lo hi t) = true) (hh : hi < 65536) : p.dl.length < 65536 := by
  have h : meets (dmayL lo hi t p.e) p.dl.length p.dl.length = true := h
  unfold meets dmayL at h
  split at h <;> simp only [List.any_cons, List.any_nil, Bool.or_false, Bool.and_eq_true, decide_eq_true_eq] at h <;> omega
theorem encF_len {p : PV} {f : Fd} (hs : p.s.length = 32) (ho : f.Ok) (h : fitF p f = true) : (encF p f).length ≤ 70000 := by
  cases f with
  | num n => simp [encF, be_len]
  | ids => simp [encF, be_len]
  | sum t => simp [encF, hs]
  | dat lo hi t => have := fit_dat h ho.2; simp [encF, be_len]; omega
def encT (p : PV) (fs : List Fd) (k : Nat) : List Nat := (fs.take k).flatMap (encF p)
theorem encT_succ {p : PV} {fs : List Fd} {k : Nat} {f : Fd} (hk : fs[k]? = some f) : encT p fs (k + 1) = encT p fs k ++ encF p f := by
  unfold encT
  rw [List.take_add_one, hk]
  simp
theorem encT_len {p : PV} {fs : List Fd} (hs : p.s.length = 32) (ho : ∀ f ∈ fs, f.Ok) (h : fitAll p fs = true) (k : Nat) : (encT p fs k).length ≤ 70000 * k := by
  induction k with
  | zero => simp [encT]
  | succ k ih =>
    cases hk : fs[k]? with
    | none =>
      have : encT p fs (k + 1) = encT p fs k := by unfold encT; rw [List.take_add_one, hk]; simp
      rw [this]; omega
    | some f =>
      have hm := List.mem_of_getElem? hk
      have hf : fitF p f = true := by
        unfold fitAll at h
        rw [Bool.and_eq_true, List.all_eq_true] at h
        exact h.1 f hm
      have := encF_len hs (ho f hm) hf
      rw [encT_succ hk, List.length_append]; omega
theorem fit_of {p : PV} {fs : List Fd} {k : Nat} {f : Fd} (h : fitAll p fs = true) (hk : fs[k]? = some f) : fitF p f = true := by
  unfold fitAll at h
  rw [Bool.and_eq_true, List.all_eq_true] at h
  exact h.1 f (List.mem_of_getElem? hk)

/-- one more field -/
theorem af_any (w : World) (base : Nat) (ov : Value) (l : List Nat) (pb : Nat) (p : PV) (v : Value) (f : Fd) (ho : Own w base ov l) (hbase : base ≤ w.heap.size) (hl : l.length + 100000 ≤ 140737488355328) (h : PM w pb p v) (hT : BTab w) (hpb : pb < base) (hTb : 0 < base) (hv : ∀ g, v.ownBlock = some g → g < base) (hok : f.Ok) (hf : fitF p f = true) :
    Calls Tryd.prog 24 #[ov, f.val, .pointer (some ⟨pb, 0, none⟩)] w fun e' w' => AF w base (l ++ encF p f) e' w' := by
  cases f with
  | num n => exact af_num w base ov l pb n p v ho hbase (by omega) h hT hok hpb hTb
  | ids => exact af_ids w base ov l pb p v ho hbase (by omega) h
  | sum t => exact af_sum w base ov l pb t p v ho hbase (by omega) h
  | dat lo hi t => exact af_dat w base ov l pb lo hi t p v ho hbase hl (fit_dat hf hok.2) h hpb hv

theorem FL.below {w x : World} {v : Value} {vs : List Value} (h : FL w v vs) (hb : Below w.heap.size w x) : FL x v vs := by
  rcases h with h | ⟨b, h1, h2⟩
  · exact .inl h
  · exact .inr ⟨b, h1, (hb.block b (Array.getElem?_eq_some_iff.1 h2).1).trans h2⟩
theorem perr_yes {c : Nat} {p : PV} (h1 : 1 ≤ c) (h2 : c ≤ 25) (h : fitAll p (fdL c) = true) : perr c p = 0 ∧ pbytes c p = c :: encAll p (fdL c) := by
  have e : perr c p = 0 := by unfold perr; rw [if_neg (by omega), Int.toNat_natCast, h]; rfl
  refine ⟨e, ?_⟩
  unfold pbytes
  rw [if_pos e, Int.toNat_natCast]
theorem perr_no {c : Nat} {p : PV} (h1 : 1 ≤ c) (h2 : c ≤ 25) (h : fitAll p (fdL c) = false) : perr c p = 75 ∧ pbytes c p = [] := by
  have e : perr c p = 75 := by unfold perr; rw [if_neg (by omega), Int.toNat_natCast, h]; rfl
  refine ⟨e, ?_⟩
  unfold pbytes
  rw [if_neg (by omega)]
theorem fdL_ne (c : Nat) (h1 : 1 ≤ c) (h2 : c ≤ 25) : fdL c ≠ [] := by
  rcases (show c = 1 ∨ c = 2 ∨ c = 3 ∨ c = 4 ∨ c = 5 ∨ c = 6 ∨ c = 7 ∨ c = 8 ∨ c = 9 ∨ c = 10 ∨ c = 11 ∨ c = 12 ∨ c = 13 ∨ c = 14 ∨ c = 15 ∨ c = 16 ∨ c = 17 ∨ c = 18 ∨ c = 19 ∨ c = 20 ∨ c = 21 ∨ c = 22 ∨ c = 23 ∨ c = 24 ∨ c = 25 by omega) with rfl | rfl | rfl | rfl | rfl | rfl | rfl | rfl | rfl | rfl | rfl | rfl | rfl | rfl | rfl | rfl | rfl | rfl | rfl | rfl | rfl | rfl | rfl | rfl | rfl <;> simp [fdL]
theorem own_nil (w : World) (base : Nat) : Own w base (.slice none 0 0) [] := ⟨World.ownsRow_nil _ _ _ _, by simp⟩
/-- behind carried and partsOf -/
structure EM (w x : World) (c : Nat) (p : PV) (v fv : Value) (pb : Nat) : Prop where
  fl : FL x fv (fldL c)
  pm : PM x pb p v
  bel : Below w.heap.size w x
def EncPost (w : World) (c : Int) (p : PV) (e : Ending) (w' : World) : Prop := ∃ v', e = .returned (.tuple #[v', .int .i64 (perr c p : Nat)]) ∧ Own w' w.heap.size v' (pbytes c p) ∧ Below w.heap.size w w'

set_option maxHeartbeats 2000000 in
theorem encP_yes (w : World) (c : Nat) (p : PV) (da : Option Addr) (dn dc : Nat) (hp : p.Ok) (hd : BSl w (.slice da dn dc) p.dl) (hlt : ∀ g, (Value.slice da dn dc).ownBlock = some g → g < w.heap.size) (hT : BTab w) (h1 : 1 ≤ c) (h2 : c ≤ 25) :
    Calls Tryd.prog 6 #[pkV c p (.slice da dn dc)] w fun e' w' => EncPost w c p e' w' := by
  have HK : Hid (KM (w.alloc (.cells (.int .i64 c :: p.row (.slice da dn dc)).toArray 36)) w.heap.size c p (.slice da dn dc)) := hide ⟨Go.heap_alloc_new w _, hp⟩
  have hb := (Below.refl w.heap.size w).alloc (Nat.le_refl _) (.cells (.int .i64 c :: p.row (.slice da dn dc)).toArray 36)
  have HB := hide hb
  have HPO : Hid (∀ y, Below (w.alloc (.cells (.int .i64 c :: p.row (.slice da dn dc)).toArray 36)).heap.size (w.alloc (.cells (.int .i64 c :: p.row (.slice da dn dc)).toArray 36)) y → Calls Tryd.prog 22 #[.agg (.int .i64 (c : Int) :: p.row (.slice da dn dc)).toArray] y fun e' w' => ∃ pb, e' = .returned (.pointer (some ⟨pb, 0, none⟩)) ∧ PM w' pb p (.slice da dn dc) ∧ y.heap.size ≤ pb ∧ Below y.heap.size y w') := hide fun y hy =>
    partsOf_any y c p da dn dc hp (hd.below (hb.trans (hy.mono hb.size))) (fun g hg => Nat.lt_of_lt_of_le (hlt g hg) (Nat.le_trans hb.size hy.size))
  have HCA := hide fun y => carried_any y c h2
  have HIC := hide fun y => isCommand_any y (c : Int)
  have k0 := HK.out.cells.1
  have HALL := hide HK.out.all
  have HI : Hid ((Tryd.prog.info? 36).map (·.size) = some (.int .i64 (c : Int) :: p.row (.slice da dn dc)).length) := hide (by rw [List.length_cons, row_len hp.n]; exact infoK)
  unfold pkV
  generalize hls : (.int .i64 (c : Int) :: p.row (.slice da dn dc)) = LS at *
  have hic : (decide (1 ≤ (c : Int)) && decide ((c : Int) ≤ 25)) = true := by simp; omega
  rw [hic] at HIC
  clear hic hls
  generalize hw1 : w.alloc (.cells LS.toArray 36) = w1 at *
  have HSZ : Hid (w1.heap.size = w.heap.size + 1) := hide (by rw [← hw1]; simp)
  go_enter Tryd.func6, Tryd.ntmps6
  go_wp2_with (go_at_call 20; refine (HIC.out _).mono ?_; rintro e' w2 ⟨rfl, hw2⟩; subst hw2; clear HIC)
  have HSS : Hid (∀ y, Below w2.heap.size w2 y → y.rangeAt w.heap.size 0 LS ∧ y.cell? ⟨w.heap.size, 0, none⟩ = some (.int .i64 (c : Int)) ∧ Below w2.heap.size w2 y) := hide fun y hy => by
    have hl : w.heap.size < w2.heap.size := by rw [HSZ.out]; omega
    exact ⟨fun j x hx => (World.cell?_of_block (hy.block _ hl)).trans (HALL.out j x hx), (World.cell?_of_block (hy.block _ hl)).trans k0, hy⟩
  refine wp_region_held_drew (S := fun y => y.rangeAt w.heap.size 0 LS ∧ y.cell? ⟨w.heap.size, 0, none⟩ = some (.int .i64 (c : Int)) ∧ Below w2.heap.size w2 y) (by kernel_rfl) ⟨HALL.out, k0, ⟨rfl, rfl, rfl, Nat.le_refl _, fun _ _ => rfl⟩⟩ (fun hHeld => ?_)
  refine wpAnyH_take (i := 0) (v := ?v1) rfl (by kernel_rfl) (by kernel_rfl) (by kernel_rfl) (fun _ _ _ h => h) (Or.inl ⟨by rfl, ?h1⟩) hHeld ?r1
  case h1 => intro w' hSw; go_simp; (try with_reducible rfl)
  (try simp only [Act.put, List.setIfInBounds_toArray, List.set_cons_zero, List.set_cons_succ])
  refine wpAnyH_take (i := 1) (v := .int .i64 (c : Int)) rfl (by kernel_rfl) (by kernel_rfl) (by kernel_rfl) (fun _ _ _ h => h) (Or.inl ⟨by rfl, ?h2⟩) hHeld ?r2
  case h2 => intro w' hSw; obtain ⟨_, hSw2, _⟩ := hSw; go_simp; (try with_reducible rfl)
  (try simp only [Act.put, List.setIfInBounds_toArray, List.set_cons_zero, List.set_cons_succ])
  refine wpAnyH_take (i := 3) (v := .agg LS.toArray) rfl (by kernel_rfl) (by kernel_rfl) (by kernel_rfl) (fun _ _ _ h => h) (yieldsIf_load_mid (by rfl) 36 (.tmp 1) rfl w.heap.size 0 rfl LS _ (fun w' h => h.1) Tryd.underlying36 rfl HI.out) hHeld ?_
  (try simp only [Act.put, List.setIfInBounds_toArray, List.set_cons_zero, List.set_cons_succ])
  refine wpAnyH_ready (rs := [2]) (by kernel_rfl) (by simp) ?_
  refine AllReadyH.cons rfl (fun K hK => ?_) AllReadyH.nil
  go_simp
  refine (HCA.out _).mono ?_
  rintro e y1 ⟨fv, rfl, hfl, hb1⟩
  have HY1 : Hid (Below w2.heap.size w2 y1) := hide ((show Below w2.heap.size w2 w2.drew from ⟨rfl, rfl, rfl, Nat.le_refl _, fun _ _ => rfl⟩).trans hb1)
  refine hK.out _ _ (HSS.out _ HY1.out) (fun hHeld => ?_)
  clear hK K
  (try simp only [Act.put, List.setIfInBounds_toArray, List.set_cons_zero, List.set_cons_succ])
  refine wpAnyH_ready (rs := [4]) (by kernel_rfl) (by simp) ?_
  refine AllReadyH.cons rfl (fun K hK => ?_) AllReadyH.nil
  go_simp
  refine (HPO.out _ HY1.out).mono ?_
  rintro e y2 ⟨pb, rfl, hpm, hpb, hb2⟩
  have HY2 : Hid (Below w2.heap.size w2 y2) := hide (HY1.out.trans (hb2.mono HY1.out.size))
  refine hK.out _ _ (HSS.out _ HY2.out) (fun hHeld => ?_)
  clear hK K
  (try simp only [Act.put, List.setIfInBounds_toArray, List.set_cons_zero, List.set_cons_succ])
  refine wpAnyH_take (i := 5) (v := ?v5) rfl (by kernel_rfl) (by kernel_rfl) (by kernel_rfl) (fun _ _ _ h => h) (Or.inl ⟨by rfl, ?h5⟩) hHeld ?r5
  case h5 => intro w' hSw; go_simp; (try with_reducible rfl)
  (try simp only [Act.put, List.setIfInBounds_toArray, List.set_cons_zero, List.set_cons_succ])
  refine wpAnyH_take (i := 6) (v := ?v6) rfl (by kernel_rfl) (by kernel_rfl) (by kernel_rfl) (fun _ _ _ h => h) (Or.inl ⟨by rfl, ?h6⟩) hHeld ?r6
  case h6 => intro w' hSw; go_simp; (try with_reducible rfl)
  (try simp only [Act.put, List.setIfInBounds_toArray, List.set_cons_zero, List.set_cons_succ])
  refine wpAnyH_done (by kernel_rfl) ?_ _
  have HFL := hide (hfl.below hb2)
  have HPM := hide hpm
  have HPB := hide (Nat.le_trans HY1.out.size hpb)
  clear hHeld hfl hb1 hpm hpb hb2 HSS HPO HCA HALL HK HI
  have HBW2 := hide (hb.trans (HY2.out.mono hb.size))
  have HT2 := hide (hT.below HBW2.out)
  have HVL : Hid (∀ g, (Value.slice da dn dc).ownBlock = some g → g < y2.heap.size) := hide fun g hg => Nat.lt_of_lt_of_le (hlt g hg) HBW2.out.size
  have HFL2 : Hid (FL y2 fv ((fdL c).map Fd.val)) := hide (by rw [← fldL_fdL c h2]; exact HFL.out)
  have HFIT := hide (fit_any y2 pb p _ fv (fdL c) HPM.out HT2.out HVL.out HFL2.out (fdL_ok c) (fdL_len c))
  have k2 : y2.cell? ⟨w.heap.size, 0, none⟩ = some (.int .i64 (c : Int)) := (World.cell?_of_block (HY2.out.block _ (show w.heap.size < w2.heap.size by rw [HSZ.out]; omega))).trans k0
  have HLEN := hide (fdL_len c)
  have HNW : Hid (w.heap.size < y2.heap.size) := hide (World.block_lt_of_cell? y2 _ k2)
  have HTB : Hid (0 < w.heap.size) := hide (by have := World.block_lt_of_cell? w _ (hT 0 (by decide)).1; simpa using this)
  rcases FL.at HFL2.out with ⟨e, _⟩ | ⟨b, rfl, hcc⟩
  · exact absurd e (fdL_ne c h1 h2)
  have HCC := hide hcc
  clear hcc HFL HFL2 k0 hw1 HB hb hd hT
  cases hfa : fitAll p (fdL c) with
  | false =>
    rw [hfa] at HFIT
    obtain ⟨e1, e2⟩ := perr_no h1 h2 hfa
    have HE := hide e1
    have HE2 := hide e2
    clear hfa e1 e2
    generalize fdL c = fs at *
    go_wp2_with (go_at_call 23; refine HFIT.out.mono ?_; rintro e' y3 ⟨rfl, hb3⟩; have HB3 := hide (HBW2.out.trans (hb3.mono HBW2.out.size)); clear hb3 HFIT)
    go_ret2
    exact ⟨_, by rw [HE.out]; rfl, by rw [HE2.out]; exact own_nil _ _, HB3.out⟩
  | true =>
    rw [hfa] at HFIT
    obtain ⟨e1, e2⟩ := perr_yes h1 h2 hfa
    have HE := hide e1
    have HE2 := hide e2
    have HOK := hide (fdL_ok c)
    have HFA := hide hfa
    have HEL := hide (encT_len hp.n (fdL_ok c) hfa)
    have hwc : IntKind.u8.wrap (c : Int) = (c : Int) := by simp [IntKind.wrap, IntKind.bits, IntKind.signed]; omega
    clear hfa e1 e2
    generalize hfs : fdL c = fs at *
    clear hfs
    go_wp2_with (go_at_call 23; refine HFIT.out.mono ?_; rintro e' y3 ⟨rfl, hb3⟩; have HB3 := hide hb3; have k3 : y3.cell? ⟨w.heap.size, 0, none⟩ = some (.int .i64 (c : Int)) := (World.cell?_of_block (hb3.block _ HNW.out)).trans k2; clear hb3 HFIT)
    have HB4 := hide ((Below.refl y3.heap.size y3).alloc (Nat.le_refl _) (.cells #[.int .u8 (c : Int)] 5))
    have HOW : Hid (Own (y3.alloc (.cells #[.int .u8 (c : Int)] 5)) y3.heap.size (.slice (some ⟨y3.heap.size, 0, none⟩) 1 1) [c]) := hide (Own.lone c (by omega))
    have HSZ4 : Hid (y3.heap.size ≤ (y3.alloc (.cells #[.int .u8 (c : Int)] 5)).heap.size) := hide (by simp)
    have HPM3 := hide (HPM.out.below HB3.out)
    have HT3 := hide (HT2.out.below HB3.out)
    have HV3 : Hid (∀ g, (Value.slice da dn dc).ownBlock = some g → g < y3.heap.size) := hide fun g hg => Nat.lt_of_lt_of_le (HVL.out g hg) HB3.out.size
    have HC3 : Hid (∀ (k : Nat) (f : Fd), fs[k]? = some f → y3.cell? ⟨b, k, none⟩ = some f.val) := hide fun k f hk => by
      have := HCC.out k f hk
      exact (World.cell?_of_block (HB3.out.block b (World.block_lt_of_cell? y2 _ this))).trans this
    have HBW3 := hide (HBW2.out.trans (HB3.out.mono HBW2.out.size))
    have HTB3 : Hid (0 < y3.heap.size) := hide (Nat.lt_of_lt_of_le HTB.out HBW3.out.size)
    clear HCC HT2 HPM HVL HTB k2 hHeld
    generalize y3.alloc (.cells #[.int .u8 (c : Int)] 5) = y4 at *
    go_loopw [6, 28] (fun ov i wr => ∃ (k : Nat), k ≤ fs.length ∧ i = .int .i64 k ∧ Own wr y3.heap.size ov (c :: encT p fs k) ∧ Below y3.heap.size y3 wr ∧ y3.heap.size ≤ wr.heap.size) (fun _ i _ => fs.length - (intOf i).toNat)
    case atStart => exact ⟨0, Nat.zero_le _, rfl, HOW.out, HB4.out, HSZ4.out⟩
    case round =>
      obtain ⟨k, hk, rfl, how, hbe, hsz⟩ := hrel
      have HOO := hide how
      have HBE := hide hbe
      have HLL := HLEN.out
      clear how hbe
      by_cases hlt2 : k < fs.length
      · obtain ⟨f, hf⟩ : ∃ f, fs[k]? = some f := ⟨_, List.getElem?_eq_getElem hlt2⟩
        have hcell : wr.cell? ⟨b, k, none⟩ = some f.val := by
          have := HC3.out k f hf
          exact (World.cell?_of_block (HBE.out.block b (World.block_lt_of_cell? y3 _ this))).trans this
        have HA := hide (af_any wr y3.heap.size _ _ pb p _ f HOO.out hsz (by have := HEL.out k; rw [List.length_cons]; omega) (HPM3.out.below HBE.out) (HT3.out.below HBE.out) HPM3.out.lt HTB3.out HV3.out (HOK.out f (List.mem_of_getElem? hf)) (fit_of HFA.out hf))
        have HS := hide (encT_succ (p := p) hf)
        unfold AF at HA
        clear hf
        generalize f.val = fvv at *
        go_wp2_with (go_at_call 24; refine HA.out.mono ?_; rintro e' y5 ⟨v', rfl, ho', hb', hs'⟩; have HO2 := hide ho'; have HB2 := hide (HBE.out.trans hb'); have HS2 := hide hs'; clear ho' hb' hs' HA)
        go_roundw
        case rel => exact ⟨k + 1, by omega, by go_num, by rw [HS.out, ← List.cons_append]; exact HO2.out, HB2.out, HS2.out⟩
        case measure => simp [intOf]; omega
      · obtain rfl : k = fs.length := by omega
        have HEQ : Hid (encT p fs fs.length = encAll p fs) := hide (by unfold encT encAll; rw [List.take_length])
        go_wp2_with fail
        go_ret2
        exact ⟨_, by rw [HE.out]; rfl, by rw [HE2.out, ← HEQ.out]; exact HOO.out.low HBW3.out.size, HBW3.out.trans (HBE.out.mono HBW3.out.size)⟩

set_option maxHeartbeats 1000000 in
theorem encP_no (w : World) (c : Int) (p : PV) (da : Option Addr) (dn dc : Nat) (hc : c < 1 ∨ 25 < c) (hp : p.Ok) :
    Calls Tryd.prog 6 #[pkV c p (.slice da dn dc)] w fun e' w' => EncPost w c p e' w' := by
  have HK : Hid (KM (w.alloc (.cells (.int .i64 c :: p.row (.slice da dn dc)).toArray 36)) w.heap.size c p (.slice da dn dc)) := hide ⟨Go.heap_alloc_new w _, hp⟩
  have HB := hide ((Below.refl w.heap.size w).alloc (Nat.le_refl _) (.cells (.int .i64 c :: p.row (.slice da dn dc)).toArray 36))
  have HIC := hide fun y => isCommand_any y c
  have k0 := HK.out.cells.1
  have HE : Hid (perr c p = 74) := hide (by unfold perr; rw [if_pos hc])
  have HE2 : Hid (pbytes c p = []) := hide (by unfold pbytes; rw [if_neg (by rw [HE.out]; decide)])
  unfold pkV
  have hic : (decide (1 ≤ c) && decide (c ≤ 25)) = false := by rcases hc with h | h <;> simp <;> omega
  rw [hic] at HIC
  generalize (.int .i64 c :: p.row (.slice da dn dc)) = LS at *
  clear hic HK
  generalize hw1 : w.alloc (.cells LS.toArray 36) = w1 at *
  go_enter Tryd.func6, Tryd.ntmps6
  go_wp2_with (go_at_call 20; refine (HIC.out _).mono ?_; rintro e' w2 ⟨rfl, hw2⟩; subst hw2; clear HIC)
  go_ret2
  exact ⟨_, by rw [HE.out]; rfl, by rw [HE2.out]; exact own_nil _ _, HB.out⟩
/-- EncodePacket, of any packet -/
theorem encodePacket_any (w : World) (c : Int) (p : PV) (v : Value) (hp : p.Ok) (hd : BSl w v p.dl) (hlt : ∀ g, v.ownBlock = some g → g < w.heap.size) (hT : BTab w) :
    Calls Tryd.prog 6 #[pkV c p v] w fun e' w' => EncPost w c p e' w' := by
  obtain ⟨da, dc, rfl, _⟩ := id hd
  by_cases h : c < 1 ∨ 25 < c
  · exact encP_no w c p _ _ _ h hp
  · obtain ⟨n, rfl⟩ : ∃ n : Nat, c = (n : Int) := ⟨c.toNat, by omega⟩
    exact encP_yes w n p _ _ _ hp hd hlt hT (by omega) (by omega)
end Go.Proofs.YtedhohamdbplhaaDoor
