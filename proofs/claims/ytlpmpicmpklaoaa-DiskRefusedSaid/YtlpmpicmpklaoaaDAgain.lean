import Derived.Test.YtlpmpicmpklaoaaDSame
import Derived.Test.YtlpmpicmpklaoaaDLaw5
namespace Go.Proofs.Ytlpmpicmpklaoaa
open Go.RowKit Go.Maps Go.Sort
set_option linter.unusedVariables false
set_option linter.unusedSimpArgs false
set_option maxRecDepth 20000

/-- an empty cache -/
def St.dry (S : St) : Prop := ∀ k, S.cache k = []
theorem dry_crash (S : St) (p : List Nat) : (S.crash p).dry := fun k => rfl
theorem crash_calm (S : St) (p : List Nat) : (S.crash p).calm := ⟨rfl, rfl⟩
theorem geo_crash (S : St) (p : List Nat) : S.geo (S.crash p) := ⟨rfl, rfl⟩
theorem med_crash_dry {S : St} (h : S.dry) (p : List Nat) : (S.crash p).med = S.med := by
  funext k
  show (if 0 < keptN p k (S.cache k).length then _ else S.med k) = S.med k
  have : keptN p k (S.cache k).length = 0 := by
    have := keptN_le p k (S.cache k).length
    rw [h k] at this ⊢
    simp at this
    exact this
  rw [if_neg (by omega)]
theorem like_reads {S T : St} (h : S.like T) : T.rdV = S.rdV ∧ T.rdE = S.rdE := by
  obtain ⟨h1, h2, h3, h4, h5, h6⟩ := h
  constructor
  · funext k; simp only [St.rdV, St.val, h3, h4, h5]
  · funext k
    have hv : ∀ j, T.val j = S.val j := fun j => by simp only [St.val, h3, h4]
    simp only [St.rdE, St.readErr, h1, h5, hv]
theorem like_img {S T : St} (h : S.like T) : ∀ n, T.img n = S.img n := by
  obtain ⟨h1, h2, h3, h4, h5, h6⟩ := h
  intro n
  induction n with
  | zero => rfl
  | succ n ih => simp only [St.img, ih, St.dur, h2, h3]
theorem like_trans {S T V : St} (h : S.like T) (k : T.like V) : S.like V := ⟨k.1.trans h.1, k.2.1.trans h.2.1, k.2.2.1.trans h.2.2.1, k.2.2.2.1.trans h.2.2.2.1, k.2.2.2.2.1.trans h.2.2.2.2.1, k.2.2.2.2.2.trans h.2.2.2.2.2⟩
/-- a second crash changes nothing -/
theorem like_crash {S : St} (hd : S.dry) (hc : S.calm) (p : List Nat) : S.like (S.crash p) :=
  ⟨rfl, rfl, med_crash_dry hd p, funext fun k => (hd k).symm, hc.1.symm, hc.2.symm⟩

theorem Cached_dry {w : World} {L : Lay} {S : St} (hR : Rep w L S) (hd : S.dry) :
    Calls Try.prog 28 #[PD L] w fun e w' => e = .returned (.slice none 0 0) ∧ Below w.heap.size w w' := by
  obtain ⟨A, D, ho, hc⟩ := hR
  refine (Cached_raw ho hc).mono ?_
  rintro e w' ⟨v, ss, rfl, hp, _, hnil, hb⟩
  have hD : D = .map [] := by
    obtain ⟨es, rfl, _, hkey⟩ := ho.entries kInt
    cases es with
    | nil => rfl
    | cons x r =>
      have hx : has (.map (x :: r)) x.1 = true := List.any_eq_true.2 ⟨x, .head _, WideAt.sameKey_self (hkey x (.head _))⟩
      obtain ⟨k, hk, e⟩ := hc.keys _ hx
      rw [e] at hx
      exact absurd (hd k) ((hc.hasK k hk).1 hx)
  have hs : ss = [] := by
    rw [hD] at hp
    exact List.Perm.eq_nil hp
  exact ⟨by rw [hnil.2 hs], hb⟩

theorem freshSt_calm (nb sz : Nat) (os : List OpV) : (freshSt nb sz os).calm ∧ (freshSt nb sz os).dry ∧ (freshSt nb sz os).nb = nb ∧ (freshSt nb sz os).sz = sz := by
  refine ⟨crash_calm _ _, dry_crash _ _, ?_, ?_⟩
  · exact (geo_calls (St.fresh nb sz fun _ => zeros sz) os).1
  · exact (geo_calls (St.fresh nb sz fun _ => zeros sz) os).2

/-- a list that 'seen' gave, behind a name -/
structure SeenIn (w : World) (U : Nat → Prop) (g : Nat) (bv ev : Value) (xs : List (Option (List Nat))) (es : List Int) : Prop where
  at_ : w.heap[g]? = some (.cells #[bv, ev] 53 (0, 0))
  nu : ¬ U g
  sa : SeenAt w U bv ev xs es
theorem SeenIn.grow {w w' : World} {U U' : Nat → Prop} {g : Nat} {bv ev : Value} {xs : List (Option (List Nat))} {es : List Int} (h : SeenIn w U g bv ev xs es) (hg : Grow w w' U U') : SeenIn w' U' g bv ev xs es := by
  have hlt := (Array.getElem?_eq_some_iff.1 h.at_).1
  exact ⟨(hg.keep g hlt h.nu).trans h.at_, fun hu => h.nu (hg.new g hlt hu), h.sa.grow hg⟩
theorem SeenIn.mk' {w : World} {L : Lay} {S : St} (hR : Rep w L S) {bv ev : Value} {xs : List (Option (List Nat))} {es : List Int} (h : SeenAt w L.U bv ev xs es) : SeenIn (w.alloc (.cells #[bv, ev] 53)) L.U w.heap.size bv ev xs es :=
  ⟨Go.heap_alloc_new w _, fun hu => by have := hR.uLt _ hu; omega, h.below ((Below.refl _ _).alloc (Nat.le_refl _) _)⟩
theorem PieceAt.grow {w w' : World} {U U' : Nat → Prop} {g : Nat} {l : List Nat} (h : PieceAt w g l) (hu : ¬ U g) (hg : Grow w w' U U') : PieceAt w' g l ∧ ¬ U' g := ⟨h.kept (hg.keep g h.lt hu), fun h' => hu (hg.new g h.lt h')⟩

theorem SeenAt.form {w : World} {U : Nat → Prop} {bv ev : Value} {xs : List (Option (List Nat))} {es : List Int} (h : SeenAt w U bv ev xs es) : ∃ a1 n1 c1 a2 n2 c2, bv = .slice a1 n1 c1 ∧ ev = .slice a2 n2 c2 := by
  obtain ⟨vs, o, _⟩ := h.vals
  have i := h.ints
  rcases o.2 with ⟨e, _⟩ | ⟨g, cap, cur, e, _⟩ <;> rcases i.2 with ⟨e', _⟩ | ⟨g', cap', cur', e', _⟩ <;> exact ⟨_, _, _, _, _, _, e, e'⟩

set_option maxHeartbeats 4000000 in
theorem again_any (w : World) (n s : Int) (v1 v2 v3 v4 : Value) (os : List OpV) (ps : List PutV) (p q : List Nat) (h1 : OSl w v1 os) (h2 : PSl w v2 ps) (h3 : BSl w v3 p) (h4 : BSl w v4 q) (ho : os.length ≤ 5864062014800) (hp : ps.length ≤ 5864062014800) :
    Calls Try.prog 6 #[.int .i64 n, .int .i64 s, v1, v2, v3, v4] w fun e w' => e = .returned (.bool true) ∧ Below w.heap.size w w' := by
  have q0 := ptrEqNil
  cases hgg : goodGeo n s with
  | false =>
    go_enter Try.func6, Try.ntmps6
    go_wp2_with (go_at_call 9; refine (usable_any _ _ _).mono ?_; rintro e w' ⟨rfl, rfl⟩; rw [hgg])
    go_ret
    exact ⟨rfl, Below.refl _ _⟩
  | true =>
    have hgg' := of_decide_eq_true hgg
    obtain ⟨nb, rfl⟩ : ∃ nb : Nat, n = (nb : Int) := ⟨n.toNat, by omega⟩
    obtain ⟨sz, rfl⟩ : ∃ sz : Nat, s = (sz : Int) := ⟨s.toNat, by omega⟩
    have hn1 : 1 ≤ nb := by omega
    have hn2 : nb ≤ 8192 := by omega
    have hs : sz = 128 ∨ sz = 256 ∨ sz = 512 ∨ sz = 1024 := by omega
    obtain ⟨fc, fd, fn, fs⟩ := freshSt_calm nb sz os
    have HF := hide (fresh_any w nb sz hn1 hn2 hs v1 os h1 ho)
    have HS := hide hs
    have H2 := hide h2
    have H3 := hide h3
    have H4 := hide h4
    have HFC := hide fc
    have HFD := hide fd
    have HFN := hide fn
    have HFS := hide fs
    clear h1 h2 h3 h4 fc fd fn fs hs hgg'
    go_enter Try.func6, Try.ntmps6
    go_wp2_with (first
      | (go_at_call 9; refine (usable_any _ _ _).mono ?_; rintro e w' ⟨rfl, hw'⟩; cases hw'; rw [hgg])
      | (go_at_call 10; refine HF.out.mono ?_; rintro e w1 ⟨L, rfl, hD1⟩; have HD1 := hide hD1; clear hD1; unfold PD))
    have HP := hide (puts_any HD1.out HFC.out v2 ps H2.out hp HFD.out)
    rw [HFN.out, HFS.out] at HP
    unfold PD at HP
    refine HP.out.mono ?_
    rintro e w2 ⟨rfl, U, hD2⟩
    have HD2 := hide hD2
    clear hD2 HP
    obtain ⟨pg, pc, pk⟩ := puts_all (freshSt nb sz os) ps
    have HPG := hide pg
    have HPC := hide (pc HFC.out (by rw [HFN.out]; exact hn1))
    have HPK : Hid (∀ k, (((freshSt nb sz os).puts ps).cache k).length < 9223372036854775807) := hide fun k => by
      have := pk k
      rw [HFD.out k] at this
      simp only [List.length_nil] at this
      omega
    clear pg pc pk
    generalize hT : (freshSt nb sz os).puts ps = T at *
    have HTN : Hid (T.nb = nb) := hide (by rw [HPG.out.1, HFN.out])
    have HTS : Hid (T.sz = sz) := hide (by rw [HPG.out.2, HFS.out])
    clear hT HFC HFD HFN HFS HPG
    generalize hL : ({ L with U := U } : Lay) = M at *
    have eP : L.p = M.p := by rw [← hL]
    rw [eP]
    clear hL eP HD1
    -- the first crash
    go_wp2_with fail
    have HC1 := hide (Crash_any HD2.out.rep (HD2.out.bsl H3.out) (fun hpos g hg hu => by have := H3.out.old hpos g hg; have := HD2.out.up g hu; omega) HPK.out)
    unfold PD at HC1
    refine HC1.out.mono ?_
    rintro e w3 ⟨rfl, hR3, hG3⟩
    have HD3 := hide (HD2.out.growS hR3 hG3)
    clear hR3 hG3 HC1
    -- Cached, On
    go_wp2_with fail
    have HCC := hide (Cached_dry HD3.out.rep (dry_crash T p))
    unfold PD at HCC
    refine HCC.out.mono ?_
    rintro e w4 ⟨rfl, hb4⟩
    have HD4 := hide (HD3.out.below hb4)
    clear hb4 HCC
    go_wp2_with fail
    have HON := hide (On_any HD4.out.rep)
    unfold PD at HON
    refine HON.out.mono ?_
    rintro e w5 ⟨rfl, hw5⟩
    cases hw5
    clear HON
    have hon : (T.crash p).off = false := rfl
    rw [hon]
    -- seen
    go_wp2_with fail
    have HSE := hide (seen_any HD4.out)
    have hnbT : (T.crash p).nb = nb := HTN.out
    rw [hnbT] at HSE
    unfold PD at HSE
    refine HSE.out.mono ?_
    rintro e w6 ⟨b1, e1, rfl, hD6, hS6, hG6⟩
    rw [hnbT] at hD6 hS6
    have HD6 := hide hD6
    have HS6 := hide hS6
    clear hD6 hS6 hG6 HSE
    obtain ⟨x1, x2, x3, x4, x5, x6, ef1, ef2⟩ := HS6.out.form
    subst ef1 ef2
    -- behind a name; Image
    have HI7 := hide (SeenIn.mk' HD6.out.rep HS6.out)
    have HD7 := hide (HD6.out.below ((Below.refl _ _).alloc (Nat.le_refl _) (.cells #[.slice x1 x2 x3, .slice x4 x5 x6] 53)))
    clear HS6
    go_wp2_with fail
    have HIM := hide (Image_any HD7.out.rep)
    unfold PD at HIM
    generalize hW7 : w6.alloc (.cells #[.slice x1 x2 x3, .slice x4 x5 x6] 53) = w7 at *
    clear hW7
    refine HIM.out.mono ?_
    rintro e w8 ⟨rfl, hP8, hb8⟩
    have HN8 : Hid (¬ M.U w7.heap.size) := hide (fun hu => by have := HD7.out.rep.uLt _ hu; omega)
    have HD8 := hide (HD7.out.below hb8)
    have HI8 := hide (HI7.out.grow (Grow.ofBelow M.U hb8))
    have HP8 := hide hP8
    clear hb8 hP8 HIM HI7
    -- the second crash
    go_wp2_with fail
    have lk0 : ((T.crash p).reads nb).dry := fun k => by rw [(reads_same (T.crash p) nb).2.2.2.1]; rfl
    have lk1 : ((T.crash p).reads nb).calm := ⟨(reads_same (T.crash p) nb).2.2.2.2.1, (reads_same (T.crash p) nb).2.2.2.2.2⟩
    have HLK := hide (like_trans (reads_same (T.crash p) nb) (like_crash lk0 lk1 q))
    have HC2 := hide (Crash_any HD8.out.rep (HD8.out.bsl H4.out) (fun hpos g hg hu => by have := H4.out.old hpos g hg; have := HD8.out.up g hu; omega) (fun k => by rw [lk0 k]; simp))
    unfold PD at HC2
    clear lk0 lk1
    refine HC2.out.mono ?_
    rintro e w9 ⟨rfl, hR9, hG9⟩
    have HD9 := hide (HD8.out.growS hR9 hG9)
    have HI9 := hide (HI8.out.grow hG9)
    have HP9 := hide (HP8.out.grow HN8.out hG9)
    clear hR9 hG9 HC2 HI8 HP8
    obtain ⟨ev1, ev2⟩ := like_reads HLK.out
    have ei := like_img HLK.out
    generalize hV : ((T.crash p).reads nb).crash q = V at *
    have HVN : Hid (V.nb = nb) := hide (by rw [HLK.out.1]; exact hnbT)
    clear hV
    -- seen again
    go_wp2_with fail
    have HSE2 := hide (seen_any HD9.out)
    rw [HVN.out] at HSE2
    unfold PD at HSE2
    refine HSE2.out.mono ?_
    rintro e w10 ⟨b2, e2, rfl, hD10, hS10, hG10⟩
    rw [HVN.out] at hD10 hS10
    rw [ev1, ev2] at hS10
    have HD10 := hide hD10
    have HS10 := hide hS10
    have HI10 := hide (HI9.out.grow hG10)
    have HP10 := hide (HP9.out.1.grow HP9.out.2 hG10)
    clear hD10 hS10 hG10 HSE2 HI9 HP9 ev1 ev2
    obtain ⟨y1, y2, y3, y4, y5, y6, ef1, ef2⟩ := HS10.out.form
    subst ef1 ef2
    have HJ11 := hide (SeenIn.mk' HD10.out.rep HS10.out)
    have hb11 := (Below.refl w10.heap.size w10).alloc (Nat.le_refl _) (.cells #[.slice y1 y2 y3, .slice y4 y5 y6] 53)
    have HD11 := hide (HD10.out.below hb11)
    have HI11 := hide (HI10.out.grow (Grow.ofBelow M.U hb11))
    have HP11 := hide (HP10.out.1.grow HP10.out.2 (Grow.ofBelow M.U hb11))
    clear HS10 HI10 HP10 hb11
    go_wp2_with fail
    have HIM2 := hide (Image_any HD11.out.rep)
    unfold PD at HIM2
    generalize hW11 : w10.alloc (.cells #[.slice y1 y2 y3, .slice y4 y5 y6] 53) = w11 at *
    clear hW11
    refine HIM2.out.mono ?_
    rintro e w12 ⟨rfl, hP12, hb12⟩
    have HD12 := hide (HD11.out.below hb12)
    have HI12 := hide (HI11.out.grow (Grow.ofBelow M.U hb12))
    have HJ12 := hide (HJ11.out.grow (Grow.ofBelow M.U hb12))
    have HQ12 := hide (HP11.out.1.grow HP11.out.2 (Grow.ofBelow M.U hb12))
    have HP12 := hide hP12
    clear hb12 hP12 HIM2 HI11 HJ11 HP11
    have z1 : w12.cell? ⟨w6.heap.size, 0, none⟩ = some (.slice x1 x2 x3) := by rw [cell_of_row _ _ _ _ _ _ HI12.out.at_]; rfl
    have z2 : w12.cell? ⟨w6.heap.size, 1, none⟩ = some (.slice x4 x5 x6) := by rw [cell_of_row _ _ _ _ _ _ HI12.out.at_]; rfl
    have z3 : w12.cell? ⟨w10.heap.size, 0, none⟩ = some (.slice y1 y2 y3) := by rw [cell_of_row _ _ _ _ _ _ HJ12.out.at_]; rfl
    have z4 : w12.cell? ⟨w10.heap.size, 1, none⟩ = some (.slice y4 y5 y6) := by rw [cell_of_row _ _ _ _ _ _ HJ12.out.at_]; rfl
    go_wp2_with fail
    refine (sameSeen_eq (by simp; omega) HI12.out.sa HJ12.out.sa).mono ?_
    rintro e w13 ⟨rfl, hb13⟩
    have HD13 := hide (HD12.out.below hb13)
    have hr1 := reads_same (T.crash p) nb
    have hr2 := reads_same V nb
    have li : (V.reads nb).img (V.reads nb).nb = ((T.crash p).reads nb).img ((T.crash p).reads nb).nb := by
      rw [like_img hr2, ei, like_img hr1, hr1.1, hr2.1, HVN.out, hnbT]
    have g1 := HQ12.out.1.bsl.below hb13
    have g2 := HP12.out.bsl.below hb13
    rw [(HD7.out.rep.imgLen _ (Nat.le_refl _)).1] at g1
    rw [(HD11.out.rep.imgLen _ (Nat.le_refl _)).1, li] at g2
    have HSB := hide (same_any _ _ _ _ w13 g1 g2)
    clear hb13 g1 g2 hr1 hr2 li
    go_wp2_with fail
    refine HSB.out.mono ?_
    rintro e w14 ⟨rfl, k14, rfl⟩
    have HD14 : Hid (Dk w (w13.drewN k14) M (V.reads nb)) := hide (HD13.out.below (below_drewN (Below.refl _ _) k14))
    simp only [decide_true]
    clear HSB
    go_wp2_with fail
    have HON2 := hide (On_any HD14.out.rep)
    unfold PD at HON2
    refine HON2.out.mono ?_
    rintro e w15 ⟨rfl, hw15⟩
    cases hw15
    have hof : (V.reads nb).off = false := by rw [(reads_same V nb).2.2.2.2.1, HLK.out.2.2.2.2.1]; rfl
    rw [hof]
    clear HON2
    go_wp2
    go_ret
    exact ⟨rfl, HD14.out.be⟩
end Go.Proofs.Ytlpmpicmpklaoaa
