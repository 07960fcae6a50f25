import Derived.Test.YtijfnacplikibaaKFair
import Derived.Test.YtijfnacplikibaaKFr1
import Derived.Test.YtijfnacplikibaaKTwo
import Derived.Test.YtijfnacplikibaaKSame
import Derived.Test.YtijfnacplikibaaKApM
namespace Go.Proofs.Ytijfnacplikibaa
open Go.RowKit
set_option linter.unusedVariables false
set_option linter.unusedSimpArgs false
set_option maxRecDepth 20000

/-- those who come in, behind the owner's going -/
theorem come_of {N q : Nat} {x y z : World} {wv mv hv iv v1 v2 v3 : Value} {P H : List (Int × Int)} {l1 l2 l3 : List Int} {o : Int} (h : LG N x q wv mv hv l1 l2 l3) (hi : IRow y iv (((wo P o).take (lin (wo H o) (wo P o))).map Prod.fst)) (hn : ∀ g, iv.ownBlock = some g → x.heap.size ≤ g) (hl : LG N z q v1 v2 v3 ((wo P o).map Prod.fst) ((wo P o).map Prod.snd) ((wo H o).map Prod.fst)) (hc : Chg (fun g => g = q) y z) (hfr : ∀ g, LU q v1 v2 v3 g → g = q ∨ y.heap.size ≤ g) (hN : N ≤ z.heap.size) (hP : P.length ≤ 1000000) (hH : H.length ≤ 1000000)
    (hend : (wo P o).drop (lin (wo H o) (wo P o)) = [] ∨ wo H o ++ (wo P o).take (lin (wo H o) (wo P o)) ≠ []) :
    Calls Try.prog 32 #[.pointer (some ⟨q, 0, none⟩), iv] z (ComeP N q z v1 v2 v3 (wo P o) (wo H o) (lin (wo H o) (wo P o))) := by
  have hq := h.lt (g := q) (.inl rfl)
  have f1 := List.length_filter_le (fun c : Int × Int => c.1 != o) P
  have f2 := List.length_filter_le (fun c : Int × Int => c.1 != o) H
  refine come_any hl hN ((ORow.ofI hi).kept fun g e => hc.keep g (hi.lt e) fun e2 => ?_) (fun g e hu => ?_) (lin_le _ _) (by unfold wo; omega) (by unfold wo; omega) (fun i hi' => goes_come (lin_lt _ _ i hi')) hend
  · have := hn g e
    omega
  · have h1 := hn g e
    have h2 := hi.lt e
    rcases hfr g hu with e2 | e2
    · omega
    · omega
set_option maxHeartbeats 4000000 in
theorem fair_r1 {w x : World} {p b n q ex i : Nat} {V : Nat → Value} {wv mv hv : Value} {L : LL} {wt : Int} (h : FS w x p b n q ex V wv mv hv L wt i) (hf : Few i L wt) (hi : i < 512) (hex : ex < n) (md : Int) (oo : Int) (snd : Bool) (t1 : has (L (ex * 2 + 1)) oo = true) :
    Calls Try.prog 18 #[.pointer (some ⟨q, 0, none⟩), .pointer (some ⟨p, 0, none⟩), .agg #[.int .i64 2, .bool snd, .int .i64 (ex : Int), .int .i64 md, .int .i64 oo]] x (FairP w p b n q ex i) := by
  obtain ⟨w9, hw9⟩ : ∃ w9, x.alloc (.cells #[.int .i64 2, .bool snd, .int .i64 (ex : Int), .int .i64 md, .int .i64 oo] 30) = w9 := ⟨_, rfl⟩
  have h9 : FS w w9 p b n q ex V wv mv hv L wt i := h.below (by rw [← hw9]; exact alloc_calm _ _)
  have hb9 : OB w9 x.heap.size 2 snd ex md oo := by rw [← hw9]; exact Go.heap_alloc_new x _
  have HS := hide fun k => h9.below (drewN_calm w9 k)
  have HO := hide fun k => hb9.below (drewN_calm w9 k)
  have HF := hide hf
  have HW := hide fun k => hasO_any (w9.drewN k) wv _ oo (HS.out k).l.ow
  have HH := hide fun k => hasO_any (w9.drewN k) hv _ oo (HS.out k).l.oh
  simp only [contains_has] at HW HH
  obtain ⟨a0, a2, a3, a4⟩ := hb9.cells
  have c0 := h9.l.c0
  have c2 := h9.l.c2
  have hor : (has (L (ex * 2)) oo || has (L (ex * 2 + 1)) oo) = true := by rw [t1]; simp
  simp only [t1] at HW
  clear h hf h9 hb9
  go_enter Try.func18, Try.ntmps18
  go_wp2_with fail
  go_quiet (first | (go_at_call 20; exact Calls.quiet_of_same (HW.out _)))
  have HS1 := hide (HS.out nq)
  have HO1 := hide (HO.out nq)
  clear HS HO HW HH c0 c2 a0 a2 a3 a4
  generalize w9.drewN nq = w10 at *
  obtain ⟨a0, a2, a3, a4⟩ := HO1.out.cells
  have hq := HS1.out.a.release (by omega) (ex : Int) oo
  obtain ⟨r1, r2, r3, r4⟩ := fair_rls (wt := wt) HS1.out.a.ok hex hor
  rw [r1, r2] at hq
  have HF2 := hide (HF.out.rls (n := n) (rls_wt0 HS1.out.a.wf) (ex : Int) oo)
  have hpl : (L (ex * 2 + 1)).length ≤ 1000000 := by have := HS1.out.a.wf.all (ex * 2 + 1); omega
  have hhl : (L (ex * 2)).length ≤ 1000000 := by have := HS1.out.a.wf.all (ex * 2); omega
  generalize hL2 : (rls n L wt (ex : Int) oo).L = L2 at *
  generalize hw2 : (rls n L wt (ex : Int) oo).wt = wt2 at *
  clear hL2 hw2
  have HQ := hide hq
  have R3 := hide r3
  have R4 := hide r4
  clear hq r1 r2 r3 r4 hor t1
  go_wp2_with (first
    | (go_at_call 16; refine HQ.out.mono ?_; rintro e w2 ⟨iv, V2, rfl, hA2, hT2, hI2, hN2⟩; have HA2 := hide hA2; have HL2 := hide (HS1.out.l.tr HS1.out.a.t hT2); have HI2 := hide hI2; have HN2 := hide hN2; have HOU := hide (out_any HL2.out hA2.bel.size hpl hhl oo); obtain ⟨d0, d2, d3, d4⟩ := (HO1.out.tr HS1.out.a.t hT2).cells; clear hA2 hT2 hI2 hN2 HQ)
    | (go_at_call 31; refine HOU.out.mono ?_; clear HOU; rintro e w3 ⟨rfl, v1, v2, v3, hL3, hC3, hF3⟩; have HL3 := hide hL3; have HA3 := hide (HA2.out.led HL2.out (hC3.mono fun g _ e => .inl e)); have HCO := hide (come_of HS1.out.l HI2.out HN2.out hL3 hC3 hF3 HA3.out.bel.size hpl hhl (by have := fair_end HA2.out.ok hex; rwa [R3.out, R4.out] at this)); clear hL3 hC3 hF3)
    | (go_at_call 32; refine HCO.out.mono ?_; clear HCO; rintro e w4 ⟨rfl, x1, x2, x3, hL4, hC4⟩; have HA4 := hide (HA3.out.led HL3.out hC4); have HL4 := hide hL4; clear hL4 hC4)
    | (go_at_call 15; refine (num_any _ _).mono ?_; rintro e wq ⟨rfl, hwq⟩; have hwq2 := hwq.symm; clear hwq; subst hwq2))
  go_ret
  exact ⟨rfl, V2, x1, x2, x3, L2, wt2, ⟨HA4.out.mono (Nat.le_succ _), by rw [R3.out, R4.out]; exact HL4.out⟩, HF2.out⟩
set_option maxHeartbeats 4000000 in
theorem fair_r2 {w x : World} {p b n q ex i : Nat} {V : Nat → Value} {wv mv hv : Value} {L : LL} {wt : Int} (h : FS w x p b n q ex V wv mv hv L wt i) (hf : Few i L wt) (hi : i < 512) (hex : ex < n) (md : Int) (oo : Int) (snd : Bool) (t1 : has (L (ex * 2 + 1)) oo = false) (t2 : has (L (ex * 2)) oo = true) :
    Calls Try.prog 18 #[.pointer (some ⟨q, 0, none⟩), .pointer (some ⟨p, 0, none⟩), .agg #[.int .i64 2, .bool snd, .int .i64 (ex : Int), .int .i64 md, .int .i64 oo]] x (FairP w p b n q ex i) := by
  obtain ⟨w9, hw9⟩ : ∃ w9, x.alloc (.cells #[.int .i64 2, .bool snd, .int .i64 (ex : Int), .int .i64 md, .int .i64 oo] 30) = w9 := ⟨_, rfl⟩
  have h9 : FS w w9 p b n q ex V wv mv hv L wt i := h.below (by rw [← hw9]; exact alloc_calm _ _)
  have hb9 : OB w9 x.heap.size 2 snd ex md oo := by rw [← hw9]; exact Go.heap_alloc_new x _
  have HS := hide fun k => h9.below (drewN_calm w9 k)
  have HO := hide fun k => hb9.below (drewN_calm w9 k)
  have HF := hide hf
  have HW := hide fun k => hasO_any (w9.drewN k) wv _ oo (HS.out k).l.ow
  have HH := hide fun k => hasO_any (w9.drewN k) hv _ oo (HS.out k).l.oh
  simp only [contains_has] at HW HH
  obtain ⟨a0, a2, a3, a4⟩ := hb9.cells
  have c0 := h9.l.c0
  have c2 := h9.l.c2
  have hor : (has (L (ex * 2)) oo || has (L (ex * 2 + 1)) oo) = true := by rw [t2]; rfl
  simp only [t1] at HW
  simp only [t2] at HH
  clear h hf h9 hb9
  go_enter Try.func18, Try.ntmps18
  go_wp2_with fail
  go_quiet (first | (go_at_call 20; with_reducible exact Calls.quiet_of_same (HW.out _)) | (go_at_call 20; with_reducible exact Calls.quiet_of_same (HH.out _)))
  have HS1 := hide (HS.out nq)
  have HO1 := hide (HO.out nq)
  clear HS HO HW HH c0 c2 a0 a2 a3 a4
  generalize w9.drewN nq = w10 at *
  obtain ⟨a0, a2, a3, a4⟩ := HO1.out.cells
  have hq := HS1.out.a.release (by omega) (ex : Int) oo
  obtain ⟨r1, r2, r3, r4⟩ := fair_rls (wt := wt) HS1.out.a.ok hex hor
  rw [r1, r2] at hq
  have HF2 := hide (HF.out.rls (n := n) (rls_wt0 HS1.out.a.wf) (ex : Int) oo)
  have hpl : (L (ex * 2 + 1)).length ≤ 1000000 := by have := HS1.out.a.wf.all (ex * 2 + 1); omega
  have hhl : (L (ex * 2)).length ≤ 1000000 := by have := HS1.out.a.wf.all (ex * 2); omega
  generalize hL2 : (rls n L wt (ex : Int) oo).L = L2 at *
  generalize hw2 : (rls n L wt (ex : Int) oo).wt = wt2 at *
  clear hL2 hw2
  have HQ := hide hq
  have R3 := hide r3
  have R4 := hide r4
  clear hq r1 r2 r3 r4 hor t1 t2
  go_wp2_with (first
    | (go_at_call 16; refine HQ.out.mono ?_; rintro e w2 ⟨iv, V2, rfl, hA2, hT2, hI2, hN2⟩; have HA2 := hide hA2; have HL2 := hide (HS1.out.l.tr HS1.out.a.t hT2); have HI2 := hide hI2; have HN2 := hide hN2; have HOU := hide (out_any HL2.out hA2.bel.size hpl hhl oo); obtain ⟨d0, d2, d3, d4⟩ := (HO1.out.tr HS1.out.a.t hT2).cells; clear hA2 hT2 hI2 hN2 HQ)
    | (go_at_call 31; refine HOU.out.mono ?_; clear HOU; rintro e w3 ⟨rfl, v1, v2, v3, hL3, hC3, hF3⟩; have HL3 := hide hL3; have HA3 := hide (HA2.out.led HL2.out (hC3.mono fun g _ e => .inl e)); have HCO := hide (come_of HS1.out.l HI2.out HN2.out hL3 hC3 hF3 HA3.out.bel.size hpl hhl (by have := fair_end HA2.out.ok hex; rwa [R3.out, R4.out] at this)); clear hL3 hC3 hF3)
    | (go_at_call 32; refine HCO.out.mono ?_; clear HCO; rintro e w4 ⟨rfl, x1, x2, x3, hL4, hC4⟩; have HA4 := hide (HA3.out.led HL3.out hC4); have HL4 := hide hL4; clear hL4 hC4)
    | (go_at_call 15; refine (num_any _ _).mono ?_; rintro e wq ⟨rfl, hwq⟩; have hwq2 := hwq.symm; clear hwq; subst hwq2))
  go_ret
  exact ⟨rfl, V2, x1, x2, x3, L2, wt2, ⟨HA4.out.mono (Nat.le_succ _), by rw [R3.out, R4.out]; exact HL4.out⟩, HF2.out⟩
end Go.Proofs.Ytijfnacplikibaa
namespace Go.Proofs.Ytijfnacplikibaa
open Go.RowKit
set_option linter.unusedVariables false
set_option linter.unusedSimpArgs false
set_option maxRecDepth 20000

set_option maxHeartbeats 4000000 in
theorem fair_r3 {w x : World} {p b n q ex i : Nat} {V : Nat → Value} {wv mv hv : Value} {L : LL} {wt : Int} (h : FS w x p b n q ex V wv mv hv L wt i) (hf : Few i L wt) (hi : i < 512) (hex : ex < n) (md : Int) (oo : Int) (snd : Bool) (t1 : has (L (ex * 2 + 1)) oo = false) (t2 : has (L (ex * 2)) oo = false) :
    Calls Try.prog 18 #[.pointer (some ⟨q, 0, none⟩), .pointer (some ⟨p, 0, none⟩), .agg #[.int .i64 2, .bool snd, .int .i64 (ex : Int), .int .i64 md, .int .i64 oo]] x (FairP w p b n q ex i) := by
  obtain ⟨w9, hw9⟩ : ∃ w9, x.alloc (.cells #[.int .i64 2, .bool snd, .int .i64 (ex : Int), .int .i64 md, .int .i64 oo] 30) = w9 := ⟨_, rfl⟩
  have h9 : FS w w9 p b n q ex V wv mv hv L wt i := h.below (by rw [← hw9]; exact alloc_calm _ _)
  have hb9 : OB w9 x.heap.size 2 snd ex md oo := by rw [← hw9]; exact Go.heap_alloc_new x _
  have HS := hide fun k => h9.below (drewN_calm w9 k)
  have HO := hide fun k => hb9.below (drewN_calm w9 k)
  have HF := hide hf
  have HW := hide fun k => hasO_any (w9.drewN k) wv _ oo (HS.out k).l.ow
  have HH := hide fun k => hasO_any (w9.drewN k) hv _ oo (HS.out k).l.oh
  simp only [contains_has] at HW HH
  obtain ⟨a0, a2, a3, a4⟩ := hb9.cells
  have c0 := h9.l.c0
  have c2 := h9.l.c2
  have hrn := rls_not (n := n) (wt := wt) hex (show (has (L (ex * 2)) oo || has (L (ex * 2 + 1)) oo) = false by rw [t1, t2]; rfl)
  simp only [t1] at HW
  simp only [t2] at HH
  clear h hf h9 hb9
  go_enter Try.func18, Try.ntmps18
  go_wp2_with fail
  go_quiet (first | (go_at_call 20; with_reducible exact Calls.quiet_of_same (HW.out _)) | (go_at_call 20; with_reducible exact Calls.quiet_of_same (HH.out _)))
  have HS1 := hide (HS.out nq)
  have HO1 := hide (HO.out nq)
  clear HS HO HW HH c0 c2 a0 a2 a3 a4
  generalize w9.drewN nq = w10 at *
  obtain ⟨a0, a2, a3, a4⟩ := HO1.out.cells
  have hq := HS1.out.a.release (by omega) (ex : Int) oo
  rw [hrn] at hq
  dsimp only at hq
  have HQ := hide hq
  clear hq hrn t1 t2
  go_wp2_with (first
    | (go_at_call 16; refine HQ.out.mono ?_; rintro e w2 ⟨iv, V2, rfl, hA2, hT2, hI2, -⟩; have HA2 := hide hA2; have HL2 := hide (HS1.out.l.tr HS1.out.a.t hT2); obtain ⟨a9, c9, e9, -, -⟩ := rowForm hI2; subst e9; clear hA2 hT2 hI2 HQ)
    | (go_at_call 15; refine (num_any _ _).mono ?_; rintro e wq ⟨rfl, hwq⟩; have hwq2 := hwq.symm; clear hwq; subst hwq2))
  go_ret
  exact ⟨rfl, V2, wv, mv, hv, L, wt, ⟨HA2.out.mono (Nat.le_succ _), HL2.out⟩, HF.out.same⟩
set_option maxHeartbeats 4000000 in
theorem fair_x1 {w x : World} {p b n q ex i : Nat} {V : Nat → Value} {wv mv hv : Value} {L : LL} {wt : Int} (h : FS w x p b n q ex V wv mv hv L wt i) (hf : Few i L wt) (hi : i < 512) (hex : ex < n) (md : Int) (oo : Int) (snd : Bool) (hm : md ≠ 1 ∧ md ≠ 2) (t1 : has (L (ex * 2 + 1)) oo = true) :
    Calls Try.prog 18 #[.pointer (some ⟨q, 0, none⟩), .pointer (some ⟨p, 0, none⟩), .agg #[.int .i64 1, .bool snd, .int .i64 (ex : Int), .int .i64 md, .int .i64 oo]] x (FairP w p b n q ex i) := by
  obtain ⟨w9, hw9⟩ : ∃ w9, x.alloc (.cells #[.int .i64 1, .bool snd, .int .i64 (ex : Int), .int .i64 md, .int .i64 oo] 30) = w9 := ⟨_, rfl⟩
  have h9 : FS w w9 p b n q ex V wv mv hv L wt i := h.below (by rw [← hw9]; exact alloc_calm _ _)
  have hb9 : OB w9 x.heap.size 1 snd ex md oo := by rw [← hw9]; exact Go.heap_alloc_new x _
  have HS := hide fun k => h9.below (drewN_calm w9 k)
  have HO := hide fun k => hb9.below (drewN_calm w9 k)
  have HF := hide hf
  have HW := hide fun k => hasO_any (w9.drewN k) wv _ oo (HS.out k).l.ow
  have HH := hide fun k => hasO_any (w9.drewN k) hv _ oo (HS.out k).l.oh
  simp only [contains_has] at HW HH
  obtain ⟨a0, a2, a3, a4⟩ := hb9.cells
  have c0 := h9.l.c0
  have c2 := h9.l.c2
  have y1 : (md == 1) = false := by simpa using hm.1
  have y2 : (md == 2) = false := by simpa using hm.2
  simp only [t1] at HW
  clear h hf h9 hb9
  go_enter Try.func18, Try.ntmps18
  go_wp2_with fail
  go_quiet (first | (go_at_call 20; exact Calls.quiet_of_same (HW.out _)))
  have HS1 := hide (HS.out nq)
  have HO1 := hide (HO.out nq)
  clear HS HO HW HH c0 c2 a0 a2 a3 a4
  generalize w9.drewN nq = w10 at *
  obtain ⟨a0, a2, a3, a4⟩ := HO1.out.cells
  go_wp2_with fail
  all_goals
    go_ret
    exact HS1.out.same HF.out
set_option maxHeartbeats 4000000 in
theorem fair_o1 {w x : World} {p b n q ex i : Nat} {V : Nat → Value} {wv mv hv : Value} {L : LL} {wt : Int} (h : FS w x p b n q ex V wv mv hv L wt i) (hf : Few i L wt) (hi : i < 512) (hex : ex < n) (kind md : Int) (oo : Int) (snd : Bool) (hm : kind ≠ 1 ∧ kind ≠ 2) (t1 : has (L (ex * 2 + 1)) oo = true) :
    Calls Try.prog 18 #[.pointer (some ⟨q, 0, none⟩), .pointer (some ⟨p, 0, none⟩), .agg #[.int .i64 kind, .bool snd, .int .i64 (ex : Int), .int .i64 md, .int .i64 oo]] x (FairP w p b n q ex i) := by
  obtain ⟨w9, hw9⟩ : ∃ w9, x.alloc (.cells #[.int .i64 kind, .bool snd, .int .i64 (ex : Int), .int .i64 md, .int .i64 oo] 30) = w9 := ⟨_, rfl⟩
  have h9 : FS w w9 p b n q ex V wv mv hv L wt i := h.below (by rw [← hw9]; exact alloc_calm _ _)
  have hb9 : OB w9 x.heap.size kind snd ex md oo := by rw [← hw9]; exact Go.heap_alloc_new x _
  have HS := hide fun k => h9.below (drewN_calm w9 k)
  have HO := hide fun k => hb9.below (drewN_calm w9 k)
  have HF := hide hf
  have HW := hide fun k => hasO_any (w9.drewN k) wv _ oo (HS.out k).l.ow
  have HH := hide fun k => hasO_any (w9.drewN k) hv _ oo (HS.out k).l.oh
  simp only [contains_has] at HW HH
  obtain ⟨a0, a2, a3, a4⟩ := hb9.cells
  have c0 := h9.l.c0
  have c2 := h9.l.c2
  have y1 : (kind == 1) = false := by simpa using hm.1
  have y2 : (kind == 2) = false := by simpa using hm.2
  simp only [t1] at HW
  clear h hf h9 hb9
  go_enter Try.func18, Try.ntmps18
  go_wp2_with fail
  go_quiet (first | (go_at_call 20; exact Calls.quiet_of_same (HW.out _)))
  have HS1 := hide (HS.out nq)
  have HO1 := hide (HO.out nq)
  clear HS HO HW HH c0 c2 a0 a2 a3 a4
  generalize w9.drewN nq = w10 at *
  obtain ⟨a0, a2, a3, a4⟩ := HO1.out.cells
  go_wp2_with fail
  all_goals
    go_ret
    exact HS1.out.same HF.out
set_option maxHeartbeats 4000000 in
theorem fair_x2 {w x : World} {p b n q ex i : Nat} {V : Nat → Value} {wv mv hv : Value} {L : LL} {wt : Int} (h : FS w x p b n q ex V wv mv hv L wt i) (hf : Few i L wt) (hi : i < 512) (hex : ex < n) (md : Int) (oo : Int) (snd : Bool) (hm : md ≠ 1 ∧ md ≠ 2) (t1 : has (L (ex * 2 + 1)) oo = false) (t2 : has (L (ex * 2)) oo = true) :
    Calls Try.prog 18 #[.pointer (some ⟨q, 0, none⟩), .pointer (some ⟨p, 0, none⟩), .agg #[.int .i64 1, .bool snd, .int .i64 (ex : Int), .int .i64 md, .int .i64 oo]] x (FairP w p b n q ex i) := by
  obtain ⟨w9, hw9⟩ : ∃ w9, x.alloc (.cells #[.int .i64 1, .bool snd, .int .i64 (ex : Int), .int .i64 md, .int .i64 oo] 30) = w9 := ⟨_, rfl⟩
  have h9 : FS w w9 p b n q ex V wv mv hv L wt i := h.below (by rw [← hw9]; exact alloc_calm _ _)
  have hb9 : OB w9 x.heap.size 1 snd ex md oo := by rw [← hw9]; exact Go.heap_alloc_new x _
  have HS := hide fun k => h9.below (drewN_calm w9 k)
  have HO := hide fun k => hb9.below (drewN_calm w9 k)
  have HF := hide hf
  have HW := hide fun k => hasO_any (w9.drewN k) wv _ oo (HS.out k).l.ow
  have HH := hide fun k => hasO_any (w9.drewN k) hv _ oo (HS.out k).l.oh
  simp only [contains_has] at HW HH
  obtain ⟨a0, a2, a3, a4⟩ := hb9.cells
  have c0 := h9.l.c0
  have c2 := h9.l.c2
  have y1 : (md == 1) = false := by simpa using hm.1
  have y2 : (md == 2) = false := by simpa using hm.2
  simp only [t1] at HW
  simp only [t2] at HH
  clear h hf h9 hb9
  go_enter Try.func18, Try.ntmps18
  go_wp2_with fail
  go_quiet (first | (go_at_call 20; with_reducible exact Calls.quiet_of_same (HW.out _)) | (go_at_call 20; with_reducible exact Calls.quiet_of_same (HH.out _)))
  have HS1 := hide (HS.out nq)
  have HO1 := hide (HO.out nq)
  clear HS HO HW HH c0 c2 a0 a2 a3 a4
  generalize w9.drewN nq = w10 at *
  obtain ⟨a0, a2, a3, a4⟩ := HO1.out.cells
  go_wp2_with fail
  all_goals
    go_ret
    exact HS1.out.same HF.out
set_option maxHeartbeats 4000000 in
theorem fair_o2 {w x : World} {p b n q ex i : Nat} {V : Nat → Value} {wv mv hv : Value} {L : LL} {wt : Int} (h : FS w x p b n q ex V wv mv hv L wt i) (hf : Few i L wt) (hi : i < 512) (hex : ex < n) (kind md : Int) (oo : Int) (snd : Bool) (hm : kind ≠ 1 ∧ kind ≠ 2) (t1 : has (L (ex * 2 + 1)) oo = false) (t2 : has (L (ex * 2)) oo = true) :
    Calls Try.prog 18 #[.pointer (some ⟨q, 0, none⟩), .pointer (some ⟨p, 0, none⟩), .agg #[.int .i64 kind, .bool snd, .int .i64 (ex : Int), .int .i64 md, .int .i64 oo]] x (FairP w p b n q ex i) := by
  obtain ⟨w9, hw9⟩ : ∃ w9, x.alloc (.cells #[.int .i64 kind, .bool snd, .int .i64 (ex : Int), .int .i64 md, .int .i64 oo] 30) = w9 := ⟨_, rfl⟩
  have h9 : FS w w9 p b n q ex V wv mv hv L wt i := h.below (by rw [← hw9]; exact alloc_calm _ _)
  have hb9 : OB w9 x.heap.size kind snd ex md oo := by rw [← hw9]; exact Go.heap_alloc_new x _
  have HS := hide fun k => h9.below (drewN_calm w9 k)
  have HO := hide fun k => hb9.below (drewN_calm w9 k)
  have HF := hide hf
  have HW := hide fun k => hasO_any (w9.drewN k) wv _ oo (HS.out k).l.ow
  have HH := hide fun k => hasO_any (w9.drewN k) hv _ oo (HS.out k).l.oh
  simp only [contains_has] at HW HH
  obtain ⟨a0, a2, a3, a4⟩ := hb9.cells
  have c0 := h9.l.c0
  have c2 := h9.l.c2
  have y1 : (kind == 1) = false := by simpa using hm.1
  have y2 : (kind == 2) = false := by simpa using hm.2
  simp only [t1] at HW
  simp only [t2] at HH
  clear h hf h9 hb9
  go_enter Try.func18, Try.ntmps18
  go_wp2_with fail
  go_quiet (first | (go_at_call 20; with_reducible exact Calls.quiet_of_same (HW.out _)) | (go_at_call 20; with_reducible exact Calls.quiet_of_same (HH.out _)))
  have HS1 := hide (HS.out nq)
  have HO1 := hide (HO.out nq)
  clear HS HO HW HH c0 c2 a0 a2 a3 a4
  generalize w9.drewN nq = w10 at *
  obtain ⟨a0, a2, a3, a4⟩ := HO1.out.cells
  go_wp2_with fail
  all_goals
    go_ret
    exact HS1.out.same HF.out
set_option maxHeartbeats 4000000 in
theorem fair_x3 {w x : World} {p b n q ex i : Nat} {V : Nat → Value} {wv mv hv : Value} {L : LL} {wt : Int} (h : FS w x p b n q ex V wv mv hv L wt i) (hf : Few i L wt) (hi : i < 512) (hex : ex < n) (md : Int) (oo : Int) (snd : Bool) (hm : md ≠ 1 ∧ md ≠ 2) (t1 : has (L (ex * 2 + 1)) oo = false) (t2 : has (L (ex * 2)) oo = false) :
    Calls Try.prog 18 #[.pointer (some ⟨q, 0, none⟩), .pointer (some ⟨p, 0, none⟩), .agg #[.int .i64 1, .bool snd, .int .i64 (ex : Int), .int .i64 md, .int .i64 oo]] x (FairP w p b n q ex i) := by
  obtain ⟨w9, hw9⟩ : ∃ w9, x.alloc (.cells #[.int .i64 1, .bool snd, .int .i64 (ex : Int), .int .i64 md, .int .i64 oo] 30) = w9 := ⟨_, rfl⟩
  have h9 : FS w w9 p b n q ex V wv mv hv L wt i := h.below (by rw [← hw9]; exact alloc_calm _ _)
  have hb9 : OB w9 x.heap.size 1 snd ex md oo := by rw [← hw9]; exact Go.heap_alloc_new x _
  have HS := hide fun k => h9.below (drewN_calm w9 k)
  have HO := hide fun k => hb9.below (drewN_calm w9 k)
  have HF := hide hf
  have HW := hide fun k => hasO_any (w9.drewN k) wv _ oo (HS.out k).l.ow
  have HH := hide fun k => hasO_any (w9.drewN k) hv _ oo (HS.out k).l.oh
  simp only [contains_has] at HW HH
  obtain ⟨a0, a2, a3, a4⟩ := hb9.cells
  have c0 := h9.l.c0
  have c2 := h9.l.c2
  have y1 : (md == 1) = false := by simpa using hm.1
  have y2 : (md == 2) = false := by simpa using hm.2
  simp only [t1] at HW
  simp only [t2] at HH
  clear h hf h9 hb9
  go_enter Try.func18, Try.ntmps18
  go_wp2_with fail
  go_quiet (first | (go_at_call 20; with_reducible exact Calls.quiet_of_same (HW.out _)) | (go_at_call 20; with_reducible exact Calls.quiet_of_same (HH.out _)))
  have HS1 := hide (HS.out nq)
  have HO1 := hide (HO.out nq)
  clear HS HO HW HH c0 c2 a0 a2 a3 a4
  generalize w9.drewN nq = w10 at *
  obtain ⟨a0, a2, a3, a4⟩ := HO1.out.cells
  go_wp2_with fail
  all_goals
    go_ret
    exact HS1.out.same HF.out
set_option maxHeartbeats 4000000 in
theorem fair_o3 {w x : World} {p b n q ex i : Nat} {V : Nat → Value} {wv mv hv : Value} {L : LL} {wt : Int} (h : FS w x p b n q ex V wv mv hv L wt i) (hf : Few i L wt) (hi : i < 512) (hex : ex < n) (kind md : Int) (oo : Int) (snd : Bool) (hm : kind ≠ 1 ∧ kind ≠ 2) (t1 : has (L (ex * 2 + 1)) oo = false) (t2 : has (L (ex * 2)) oo = false) :
    Calls Try.prog 18 #[.pointer (some ⟨q, 0, none⟩), .pointer (some ⟨p, 0, none⟩), .agg #[.int .i64 kind, .bool snd, .int .i64 (ex : Int), .int .i64 md, .int .i64 oo]] x (FairP w p b n q ex i) := by
  obtain ⟨w9, hw9⟩ : ∃ w9, x.alloc (.cells #[.int .i64 kind, .bool snd, .int .i64 (ex : Int), .int .i64 md, .int .i64 oo] 30) = w9 := ⟨_, rfl⟩
  have h9 : FS w w9 p b n q ex V wv mv hv L wt i := h.below (by rw [← hw9]; exact alloc_calm _ _)
  have hb9 : OB w9 x.heap.size kind snd ex md oo := by rw [← hw9]; exact Go.heap_alloc_new x _
  have HS := hide fun k => h9.below (drewN_calm w9 k)
  have HO := hide fun k => hb9.below (drewN_calm w9 k)
  have HF := hide hf
  have HW := hide fun k => hasO_any (w9.drewN k) wv _ oo (HS.out k).l.ow
  have HH := hide fun k => hasO_any (w9.drewN k) hv _ oo (HS.out k).l.oh
  simp only [contains_has] at HW HH
  obtain ⟨a0, a2, a3, a4⟩ := hb9.cells
  have c0 := h9.l.c0
  have c2 := h9.l.c2
  have y1 : (kind == 1) = false := by simpa using hm.1
  have y2 : (kind == 2) = false := by simpa using hm.2
  simp only [t1] at HW
  simp only [t2] at HH
  clear h hf h9 hb9
  go_enter Try.func18, Try.ntmps18
  go_wp2_with fail
  go_quiet (first | (go_at_call 20; with_reducible exact Calls.quiet_of_same (HW.out _)) | (go_at_call 20; with_reducible exact Calls.quiet_of_same (HH.out _)))
  have HS1 := hide (HS.out nq)
  have HO1 := hide (HO.out nq)
  clear HS HO HW HH c0 c2 a0 a2 a3 a4
  generalize w9.drewN nq = w10 at *
  obtain ⟨a0, a2, a3, a4⟩ := HO1.out.cells
  go_wp2_with fail
  all_goals
    go_ret
    exact HS1.out.same HF.out
end Go.Proofs.Ytijfnacplikibaa
namespace Go.Proofs.Ytijfnacplikibaa
open Go.RowKit
set_option linter.unusedVariables false
set_option linter.unusedSimpArgs false
set_option maxRecDepth 20000

set_option maxHeartbeats 4000000 in
theorem fair_g1 {w x : World} {p b n q ex i : Nat} {V : Nat → Value} {wv mv hv : Value} {L : LL} {wt : Int} (h : FS w x p b n q ex V wv mv hv L wt i) (hf : Few i L wt) (hi : i < 512) (hex : ex < n) (oo : Int) (snd : Bool) (hz : L (ex * 2 + 1) = []) (hac : acq n L 512 wt ex oo 1 = ⟨0, true, upd L (ex * 2) (L (ex * 2) ++ [(oo, 1)]), wt⟩) (t1 : has (L (ex * 2 + 1)) oo = false) (t2 : has (L (ex * 2)) oo = false) :
    Calls Try.prog 18 #[.pointer (some ⟨q, 0, none⟩), .pointer (some ⟨p, 0, none⟩), .agg #[.int .i64 1, .bool snd, .int .i64 (ex : Int), .int .i64 1, .int .i64 oo]] x (FairP w p b n q ex i) := by
  obtain ⟨w9, hw9⟩ : ∃ w9, x.alloc (.cells #[.int .i64 1, .bool snd, .int .i64 (ex : Int), .int .i64 1, .int .i64 oo] 30) = w9 := ⟨_, rfl⟩
  have h9 : FS w w9 p b n q ex V wv mv hv L wt i := h.below (by rw [← hw9]; exact alloc_calm _ _)
  have hb9 : OB w9 x.heap.size 1 snd ex 1 oo := by rw [← hw9]; exact Go.heap_alloc_new x _
  have HS := hide fun k => h9.below (drewN_calm w9 k)
  have HO := hide fun k => hb9.below (drewN_calm w9 k)
  have HF := hide hf
  have HW := hide fun k => hasO_any (w9.drewN k) wv _ oo (HS.out k).l.ow
  have HH := hide fun k => hasO_any (w9.drewN k) hv _ oo (HS.out k).l.oh
  simp only [contains_has] at HW HH
  obtain ⟨a0, a2, a3, a4⟩ := hb9.cells
  have c0 := h9.l.c0
  have c2 := h9.l.c2
  simp only [t1] at HW
  simp only [t2] at HH
  clear h hf h9 hb9
  go_enter Try.func18, Try.ntmps18
  go_wp2_with fail
  go_quiet (first | (go_at_call 20; with_reducible exact Calls.quiet_of_same (HW.out _)) | (go_at_call 20; with_reducible exact Calls.quiet_of_same (HH.out _)))
  have HS1 := hide (HS.out nq)
  have HO1 := hide (HO.out nq)
  clear HS HO HW HH c0 c2 a0 a2 a3 a4
  generalize w9.drewN nq = w10 at *
  obtain ⟨a0, a2, a3, a4⟩ := HO1.out.cells
  have hq := HS1.out.a.acquire (by omega) (ex : Int) 1 oo
  have hf2 := HF.out.acq (n := n) (ws := 512) (by have := HS1.out.a.wf.sum; omega) (ex : Int) oo 1
  rw [hac] at hq hf2
  dsimp only at hq hf2
  have HQ := hide hq
  have HF2 := hide hf2
  have hpl : (L (ex * 2 + 1)).length ≤ 1000 := by have := HS1.out.a.wf.all (ex * 2 + 1); omega
  have hhl : (L (ex * 2)).length ≤ 1000 := by have := HS1.out.a.wf.all (ex * 2); omega
  obtain ⟨wa, wc, rfl, w1, -, -⟩ := HS1.out.l.ow.form
  obtain ⟨ha, hc, rfl, h1, -, -⟩ := HS1.out.l.oh.form
  obtain ⟨ma, mc, rfl, m1, -, -⟩ := HS1.out.l.om.form
  obtain ⟨nw, hnw⟩ : ∃ nw, ((L (ex * 2 + 1)).map Prod.fst).length = nw := ⟨_, rfl⟩
  obtain ⟨nm, hnm⟩ : ∃ nm, ((L (ex * 2 + 1)).map Prod.snd).length = nm := ⟨_, rfl⟩
  obtain ⟨nh, hnh⟩ : ∃ nh, ((L (ex * 2)).map Prod.fst).length = nh := ⟨_, rfl⟩
  rw [hnw, hnm, hnh] at HS1
  rw [hnw] at w1
  rw [hnh] at h1
  rw [hnm] at m1
  have hz2 : nw = 0 := by
    rw [← hnw, hz]; rfl
  have hbw : nw ≤ 1000 := by rw [← hnw, List.length_map]; exact hpl
  have hbm : nm ≤ 1000 := by rw [← hnm, List.length_map]; exact hpl
  have hbh : nh ≤ 1000 := by rw [← hnh, List.length_map]; exact hhl
  have hl1 : ((L (ex * 2 + 1)).map Prod.fst).length ≤ 1000 := by rw [List.length_map]; exact hpl
  have hl2 : ((L (ex * 2 + 1)).map Prod.snd).length ≤ 1000 := by rw [List.length_map]; exact hpl
  have hl3 : ((L (ex * 2)).map Prod.fst).length ≤ 1000 := by rw [List.length_map]; exact hhl
  clear hq hf2 hac t1 t2 hnw hnm hnh hz hpl hhl
  go_wp2_with (first
    | (go_at_call 12; refine HQ.out.mono ?_; rintro e w2 ⟨rfl, V2, hA2, hT2⟩; have HA2 := hide hA2; have HL2 := hide (HS1.out.l.tr HS1.out.a.t hT2); have HO2 := hide (HO1.out.tr HS1.out.a.t hT2); obtain ⟨d0, d2, d3, d4⟩ := HO2.out.cells; have e0 := HL2.out.c0; have e1 := HL2.out.c1; have e2 := HL2.out.c2; clear hA2 hT2 HQ)
    | (go_at_call 15; refine (num_any _ _).mono ?_; rintro e wq ⟨rfl, hwq⟩; have hwq2 := hwq.symm; clear hwq; subst hwq2))
  have hyy : Below w2.heap.size w2 (w2.alloc (.cells #[.int .i64 oo] 3)).drew := (alloc_calm w2 (.cells #[.int .i64 oo] 3)).drew
  have o3 := (HL2.out.below hyy).oh
  have c2x := (HL2.out.below hyy).c2
  have HP := hide fun (z : World) (hv' : Value) ho ha => HL2.out.pushH (z := z) (hv' := hv') (lh' := (L (ex * 2)).map Prod.fst ++ [oo]) HA2.out.bel.size hyy ho ha
  clear hyy
  go_region_law (refine step_appendO rfl (.tmp 92) (.tmp 95) rfl _ _ rfl o3 ⟨w2.heap.size, 0, none⟩ 1 oo rfl (new_int w2 _) (by omega) ?_; intro v4 w4 ho4 ha4; obtain ⟨z0, z1, ⟨a4, m4, k4, rfl⟩, HP4⟩ := HP.out w4 v4 ho4 ha4; clear ho4 ha4)
  all_goals
    go_wp2_with fail
    go_ret
    refine ⟨rfl, V2, .slice wa nw wc, .slice ma nm mc, .slice a4 m4 k4, upd L (ex * 2) (L (ex * 2) ++ [(oo, 1)]), wt, ⟨HA2.out.led HL2.out HP4.out.2, ?_⟩, HF2.out⟩
    rw [upd_same, upd_other _ _ _ (by omega), List.map_append]
    exact HP4.out.1
set_option maxHeartbeats 4000000 in
theorem fair_g2 {w x : World} {p b n q ex i : Nat} {V : Nat → Value} {wv mv hv : Value} {L : LL} {wt : Int} (h : FS w x p b n q ex V wv mv hv L wt i) (hf : Few i L wt) (hi : i < 512) (hex : ex < n) (oo : Int) (snd : Bool) (hz : L (ex * 2 + 1) = []) (hac : acq n L 512 wt ex oo 2 = ⟨0, true, upd L (ex * 2) (L (ex * 2) ++ [(oo, 2)]), wt⟩) (t1 : has (L (ex * 2 + 1)) oo = false) (t2 : has (L (ex * 2)) oo = false) :
    Calls Try.prog 18 #[.pointer (some ⟨q, 0, none⟩), .pointer (some ⟨p, 0, none⟩), .agg #[.int .i64 1, .bool snd, .int .i64 (ex : Int), .int .i64 2, .int .i64 oo]] x (FairP w p b n q ex i) := by
  obtain ⟨w9, hw9⟩ : ∃ w9, x.alloc (.cells #[.int .i64 1, .bool snd, .int .i64 (ex : Int), .int .i64 2, .int .i64 oo] 30) = w9 := ⟨_, rfl⟩
  have h9 : FS w w9 p b n q ex V wv mv hv L wt i := h.below (by rw [← hw9]; exact alloc_calm _ _)
  have hb9 : OB w9 x.heap.size 1 snd ex 2 oo := by rw [← hw9]; exact Go.heap_alloc_new x _
  have HS := hide fun k => h9.below (drewN_calm w9 k)
  have HO := hide fun k => hb9.below (drewN_calm w9 k)
  have HF := hide hf
  have HW := hide fun k => hasO_any (w9.drewN k) wv _ oo (HS.out k).l.ow
  have HH := hide fun k => hasO_any (w9.drewN k) hv _ oo (HS.out k).l.oh
  simp only [contains_has] at HW HH
  obtain ⟨a0, a2, a3, a4⟩ := hb9.cells
  have c0 := h9.l.c0
  have c2 := h9.l.c2
  simp only [t1] at HW
  simp only [t2] at HH
  clear h hf h9 hb9
  go_enter Try.func18, Try.ntmps18
  go_wp2_with fail
  go_quiet (first | (go_at_call 20; with_reducible exact Calls.quiet_of_same (HW.out _)) | (go_at_call 20; with_reducible exact Calls.quiet_of_same (HH.out _)))
  have HS1 := hide (HS.out nq)
  have HO1 := hide (HO.out nq)
  clear HS HO HW HH c0 c2 a0 a2 a3 a4
  generalize w9.drewN nq = w10 at *
  obtain ⟨a0, a2, a3, a4⟩ := HO1.out.cells
  have hq := HS1.out.a.acquire (by omega) (ex : Int) 2 oo
  have hf2 := HF.out.acq (n := n) (ws := 512) (by have := HS1.out.a.wf.sum; omega) (ex : Int) oo 2
  rw [hac] at hq hf2
  dsimp only at hq hf2
  have HQ := hide hq
  have HF2 := hide hf2
  have hpl : (L (ex * 2 + 1)).length ≤ 1000 := by have := HS1.out.a.wf.all (ex * 2 + 1); omega
  have hhl : (L (ex * 2)).length ≤ 1000 := by have := HS1.out.a.wf.all (ex * 2); omega
  obtain ⟨wa, wc, rfl, w1, -, -⟩ := HS1.out.l.ow.form
  obtain ⟨ha, hc, rfl, h1, -, -⟩ := HS1.out.l.oh.form
  obtain ⟨ma, mc, rfl, m1, -, -⟩ := HS1.out.l.om.form
  obtain ⟨nw, hnw⟩ : ∃ nw, ((L (ex * 2 + 1)).map Prod.fst).length = nw := ⟨_, rfl⟩
  obtain ⟨nm, hnm⟩ : ∃ nm, ((L (ex * 2 + 1)).map Prod.snd).length = nm := ⟨_, rfl⟩
  obtain ⟨nh, hnh⟩ : ∃ nh, ((L (ex * 2)).map Prod.fst).length = nh := ⟨_, rfl⟩
  rw [hnw, hnm, hnh] at HS1
  rw [hnw] at w1
  rw [hnh] at h1
  rw [hnm] at m1
  have hz2 : nw = 0 := by
    rw [← hnw, hz]; rfl
  have hbw : nw ≤ 1000 := by rw [← hnw, List.length_map]; exact hpl
  have hbm : nm ≤ 1000 := by rw [← hnm, List.length_map]; exact hpl
  have hbh : nh ≤ 1000 := by rw [← hnh, List.length_map]; exact hhl
  have hl1 : ((L (ex * 2 + 1)).map Prod.fst).length ≤ 1000 := by rw [List.length_map]; exact hpl
  have hl2 : ((L (ex * 2 + 1)).map Prod.snd).length ≤ 1000 := by rw [List.length_map]; exact hpl
  have hl3 : ((L (ex * 2)).map Prod.fst).length ≤ 1000 := by rw [List.length_map]; exact hhl
  clear hq hf2 hac t1 t2 hnw hnm hnh hz hpl hhl
  go_wp2_with (first
    | (go_at_call 12; refine HQ.out.mono ?_; rintro e w2 ⟨rfl, V2, hA2, hT2⟩; have HA2 := hide hA2; have HL2 := hide (HS1.out.l.tr HS1.out.a.t hT2); have HO2 := hide (HO1.out.tr HS1.out.a.t hT2); obtain ⟨d0, d2, d3, d4⟩ := HO2.out.cells; have e0 := HL2.out.c0; have e1 := HL2.out.c1; have e2 := HL2.out.c2; clear hA2 hT2 HQ)
    | (go_at_call 15; refine (num_any _ _).mono ?_; rintro e wq ⟨rfl, hwq⟩; have hwq2 := hwq.symm; clear hwq; subst hwq2))
  have hyy : Below w2.heap.size w2 (w2.alloc (.cells #[.int .i64 oo] 3)).drew := (alloc_calm w2 (.cells #[.int .i64 oo] 3)).drew
  have o3 := (HL2.out.below hyy).oh
  have c2x := (HL2.out.below hyy).c2
  have HP := hide fun (z : World) (hv' : Value) ho ha => HL2.out.pushH (z := z) (hv' := hv') (lh' := (L (ex * 2)).map Prod.fst ++ [oo]) HA2.out.bel.size hyy ho ha
  clear hyy
  go_region_law (refine step_appendO rfl (.tmp 92) (.tmp 95) rfl _ _ rfl o3 ⟨w2.heap.size, 0, none⟩ 1 oo rfl (new_int w2 _) (by omega) ?_; intro v4 w4 ho4 ha4; obtain ⟨z0, z1, ⟨a4, m4, k4, rfl⟩, HP4⟩ := HP.out w4 v4 ho4 ha4; clear ho4 ha4)
  all_goals
    go_wp2_with fail
    go_ret
    refine ⟨rfl, V2, .slice wa nw wc, .slice ma nm mc, .slice a4 m4 k4, upd L (ex * 2) (L (ex * 2) ++ [(oo, 2)]), wt, ⟨HA2.out.led HL2.out HP4.out.2, ?_⟩, HF2.out⟩
    rw [upd_same, upd_other _ _ _ (by omega), List.map_append]
    exact HP4.out.1
end Go.Proofs.Ytijfnacplikibaa
namespace Go.Proofs.Ytijfnacplikibaa
open Go.RowKit
set_option linter.unusedVariables false
set_option linter.unusedSimpArgs false
set_option maxRecDepth 20000

set_option maxHeartbeats 4000000 in
theorem fair_w1 {w x : World} {p b n q ex i : Nat} {V : Nat → Value} {wv mv hv : Value} {L : LL} {wt : Int} (h : FS w x p b n q ex V wv mv hv L wt i) (hf : Few i L wt) (hi : i < 512) (hex : ex < n) (oo : Int) (snd : Bool) (hz : L (ex * 2) ≠ []) (hac : acq n L 512 wt ex oo 1 = ⟨0, false, upd L (ex * 2 + 1) (L (ex * 2 + 1) ++ [(oo, 1)]), wt + 1⟩) (t1 : has (L (ex * 2 + 1)) oo = false) (t2 : has (L (ex * 2)) oo = false) :
    Calls Try.prog 18 #[.pointer (some ⟨q, 0, none⟩), .pointer (some ⟨p, 0, none⟩), .agg #[.int .i64 1, .bool snd, .int .i64 (ex : Int), .int .i64 1, .int .i64 oo]] x (FairP w p b n q ex i) := by
  obtain ⟨w9, hw9⟩ : ∃ w9, x.alloc (.cells #[.int .i64 1, .bool snd, .int .i64 (ex : Int), .int .i64 1, .int .i64 oo] 30) = w9 := ⟨_, rfl⟩
  have h9 : FS w w9 p b n q ex V wv mv hv L wt i := h.below (by rw [← hw9]; exact alloc_calm _ _)
  have hb9 : OB w9 x.heap.size 1 snd ex 1 oo := by rw [← hw9]; exact Go.heap_alloc_new x _
  have HS := hide fun k => h9.below (drewN_calm w9 k)
  have HO := hide fun k => hb9.below (drewN_calm w9 k)
  have HF := hide hf
  have HW := hide fun k => hasO_any (w9.drewN k) wv _ oo (HS.out k).l.ow
  have HH := hide fun k => hasO_any (w9.drewN k) hv _ oo (HS.out k).l.oh
  simp only [contains_has] at HW HH
  obtain ⟨a0, a2, a3, a4⟩ := hb9.cells
  have c0 := h9.l.c0
  have c2 := h9.l.c2
  simp only [t1] at HW
  simp only [t2] at HH
  clear h hf h9 hb9
  go_enter Try.func18, Try.ntmps18
  go_wp2_with fail
  go_quiet (first | (go_at_call 20; with_reducible exact Calls.quiet_of_same (HW.out _)) | (go_at_call 20; with_reducible exact Calls.quiet_of_same (HH.out _)))
  have HS1 := hide (HS.out nq)
  have HO1 := hide (HO.out nq)
  clear HS HO HW HH c0 c2 a0 a2 a3 a4
  generalize w9.drewN nq = w10 at *
  obtain ⟨a0, a2, a3, a4⟩ := HO1.out.cells
  have hq := HS1.out.a.acquire (by omega) (ex : Int) 1 oo
  have hf2 := HF.out.acq (n := n) (ws := 512) (by have := HS1.out.a.wf.sum; omega) (ex : Int) oo 1
  rw [hac] at hq hf2
  dsimp only at hq hf2
  have HQ := hide hq
  have HF2 := hide hf2
  have hpl : (L (ex * 2 + 1)).length ≤ 1000 := by have := HS1.out.a.wf.all (ex * 2 + 1); omega
  have hhl : (L (ex * 2)).length ≤ 1000 := by have := HS1.out.a.wf.all (ex * 2); omega
  obtain ⟨wa, wc, rfl, w1, -, -⟩ := HS1.out.l.ow.form
  obtain ⟨ha, hc, rfl, h1, -, -⟩ := HS1.out.l.oh.form
  obtain ⟨ma, mc, rfl, m1, -, -⟩ := HS1.out.l.om.form
  obtain ⟨nw, hnw⟩ : ∃ nw, ((L (ex * 2 + 1)).map Prod.fst).length = nw := ⟨_, rfl⟩
  obtain ⟨nm, hnm⟩ : ∃ nm, ((L (ex * 2 + 1)).map Prod.snd).length = nm := ⟨_, rfl⟩
  obtain ⟨nh, hnh⟩ : ∃ nh, ((L (ex * 2)).map Prod.fst).length = nh := ⟨_, rfl⟩
  rw [hnw, hnm, hnh] at HS1
  rw [hnw] at w1
  rw [hnh] at h1
  rw [hnm] at m1
  have hz2 : 0 < nh := by
    have := List.length_pos_iff.2 hz; rw [← hnh, List.length_map]; exact this
  have hbw : nw ≤ 1000 := by rw [← hnw, List.length_map]; exact hpl
  have hbm : nm ≤ 1000 := by rw [← hnm, List.length_map]; exact hpl
  have hbh : nh ≤ 1000 := by rw [← hnh, List.length_map]; exact hhl
  have hl1 : ((L (ex * 2 + 1)).map Prod.fst).length ≤ 1000 := by rw [List.length_map]; exact hpl
  have hl2 : ((L (ex * 2 + 1)).map Prod.snd).length ≤ 1000 := by rw [List.length_map]; exact hpl
  have hl3 : ((L (ex * 2)).map Prod.fst).length ≤ 1000 := by rw [List.length_map]; exact hhl
  clear hq hf2 hac t1 t2 hnw hnm hnh hz hpl hhl
  go_wp2_with (first
    | (go_at_call 12; refine HQ.out.mono ?_; rintro e w2 ⟨rfl, V2, hA2, hT2⟩; have HA2 := hide hA2; have HL2 := hide (HS1.out.l.tr HS1.out.a.t hT2); have HO2 := hide (HO1.out.tr HS1.out.a.t hT2); obtain ⟨d0, d2, d3, d4⟩ := HO2.out.cells; have e0 := HL2.out.c0; have e1 := HL2.out.c1; have e2 := HL2.out.c2; clear hA2 hT2 HQ)
    | (go_at_call 15; refine (num_any _ _).mono ?_; rintro e wq ⟨rfl, hwq⟩; have hwq2 := hwq.symm; clear hwq; subst hwq2))
  have hyy : Below w2.heap.size w2 (w2.alloc (.cells #[.int .i64 oo] 3)).drew := (alloc_calm w2 (.cells #[.int .i64 oo] 3)).drew
  have o3 := (HL2.out.below hyy).ow
  have c0x := (HL2.out.below hyy).c0
  have HP := hide fun (z : World) (wv' : Value) ho ha => HL2.out.pushW (z := z) (wv' := wv') (lw' := (L (ex * 2 + 1)).map Prod.fst ++ [oo]) HA2.out.bel.size hyy ho ha
  clear hyy
  go_region_law (refine step_appendO rfl (.tmp 103) (.tmp 106) rfl _ _ rfl o3 ⟨w2.heap.size, 0, none⟩ 1 oo rfl (new_int w2 _) (by omega) ?_; intro v4 w4 ho4 ha4; obtain ⟨z0, z1, ⟨a4, m4, k4, rfl⟩, HP4⟩ := HP.out w4 v4 ho4 ha4; clear ho4 ha4)
  all_goals
    obtain ⟨w5, hw5⟩ : ∃ w5, w4.setCell ⟨q, 0, none⟩ (.slice a4 m4 k4) = w5 := ⟨_, rfl⟩
    rw [hw5] at HP4 ⊢
    have HA5 := hide (HA2.out.led HL2.out HP4.out.2)
    obtain ⟨b0, b2, b3, b4⟩ := (HO2.out.led HL2.out HP4.out.2).cells
    have HL5 := hide HP4.out.1
    have y1 := HL5.out.c1
    have hyy : Below w5.heap.size w5 (w5.alloc (.cells #[.int .i64 1] 3)).drew := (alloc_calm w5 (.cells #[.int .i64 1] 3)).drew
    have o5 := (HL5.out.below hyy).om
    have c1x := (HL5.out.below hyy).c1
    have HP5 := hide fun (z : World) (mv' : Value) ho ha => HL5.out.pushM (z := z) (mv' := mv') (lm' := (L (ex * 2 + 1)).map Prod.snd ++ [1]) HA5.out.bel.size hyy ho ha
    clear hyy z0 z1 o3 c0x d0 d2 d3 d4 e0 e1 e2 hw5 HP HP4
    go_wp2_with fail
    go_region_law (refine step_appendO rfl (.tmp 114) (.tmp 117) rfl _ _ rfl o5 ⟨w5.heap.size, 0, none⟩ 1 1 rfl (new_int w5 _) (by omega) ?_; intro v6 w6 ho6 ha6; obtain ⟨z0, z1, ⟨a6, m6, k6, rfl⟩, HP6⟩ := HP5.out w6 v6 ho6 ha6; clear ho6 ha6)
    all_goals
      go_wp2_with fail
      go_ret
      refine ⟨rfl, V2, .slice a4 m4 k4, .slice a6 m6 k6, .slice ha nh hc, upd L (ex * 2 + 1) (L (ex * 2 + 1) ++ [(oo, 1)]), wt + 1, ⟨HA5.out.led HL5.out HP6.out.2, ?_⟩, HF2.out⟩
      rw [upd_same, upd_other _ _ _ (by omega), List.map_append, List.map_append]
      exact HP6.out.1
set_option maxHeartbeats 4000000 in
theorem fair_w2 {w x : World} {p b n q ex i : Nat} {V : Nat → Value} {wv mv hv : Value} {L : LL} {wt : Int} (h : FS w x p b n q ex V wv mv hv L wt i) (hf : Few i L wt) (hi : i < 512) (hex : ex < n) (oo : Int) (snd : Bool) (hz : L (ex * 2) ≠ []) (hac : acq n L 512 wt ex oo 2 = ⟨0, false, upd L (ex * 2 + 1) (L (ex * 2 + 1) ++ [(oo, 2)]), wt + 1⟩) (t1 : has (L (ex * 2 + 1)) oo = false) (t2 : has (L (ex * 2)) oo = false) :
    Calls Try.prog 18 #[.pointer (some ⟨q, 0, none⟩), .pointer (some ⟨p, 0, none⟩), .agg #[.int .i64 1, .bool snd, .int .i64 (ex : Int), .int .i64 2, .int .i64 oo]] x (FairP w p b n q ex i) := by
  obtain ⟨w9, hw9⟩ : ∃ w9, x.alloc (.cells #[.int .i64 1, .bool snd, .int .i64 (ex : Int), .int .i64 2, .int .i64 oo] 30) = w9 := ⟨_, rfl⟩
  have h9 : FS w w9 p b n q ex V wv mv hv L wt i := h.below (by rw [← hw9]; exact alloc_calm _ _)
  have hb9 : OB w9 x.heap.size 1 snd ex 2 oo := by rw [← hw9]; exact Go.heap_alloc_new x _
  have HS := hide fun k => h9.below (drewN_calm w9 k)
  have HO := hide fun k => hb9.below (drewN_calm w9 k)
  have HF := hide hf
  have HW := hide fun k => hasO_any (w9.drewN k) wv _ oo (HS.out k).l.ow
  have HH := hide fun k => hasO_any (w9.drewN k) hv _ oo (HS.out k).l.oh
  simp only [contains_has] at HW HH
  obtain ⟨a0, a2, a3, a4⟩ := hb9.cells
  have c0 := h9.l.c0
  have c2 := h9.l.c2
  simp only [t1] at HW
  simp only [t2] at HH
  clear h hf h9 hb9
  go_enter Try.func18, Try.ntmps18
  go_wp2_with fail
  go_quiet (first | (go_at_call 20; with_reducible exact Calls.quiet_of_same (HW.out _)) | (go_at_call 20; with_reducible exact Calls.quiet_of_same (HH.out _)))
  have HS1 := hide (HS.out nq)
  have HO1 := hide (HO.out nq)
  clear HS HO HW HH c0 c2 a0 a2 a3 a4
  generalize w9.drewN nq = w10 at *
  obtain ⟨a0, a2, a3, a4⟩ := HO1.out.cells
  have hq := HS1.out.a.acquire (by omega) (ex : Int) 2 oo
  have hf2 := HF.out.acq (n := n) (ws := 512) (by have := HS1.out.a.wf.sum; omega) (ex : Int) oo 2
  rw [hac] at hq hf2
  dsimp only at hq hf2
  have HQ := hide hq
  have HF2 := hide hf2
  have hpl : (L (ex * 2 + 1)).length ≤ 1000 := by have := HS1.out.a.wf.all (ex * 2 + 1); omega
  have hhl : (L (ex * 2)).length ≤ 1000 := by have := HS1.out.a.wf.all (ex * 2); omega
  obtain ⟨wa, wc, rfl, w1, -, -⟩ := HS1.out.l.ow.form
  obtain ⟨ha, hc, rfl, h1, -, -⟩ := HS1.out.l.oh.form
  obtain ⟨ma, mc, rfl, m1, -, -⟩ := HS1.out.l.om.form
  obtain ⟨nw, hnw⟩ : ∃ nw, ((L (ex * 2 + 1)).map Prod.fst).length = nw := ⟨_, rfl⟩
  obtain ⟨nm, hnm⟩ : ∃ nm, ((L (ex * 2 + 1)).map Prod.snd).length = nm := ⟨_, rfl⟩
  obtain ⟨nh, hnh⟩ : ∃ nh, ((L (ex * 2)).map Prod.fst).length = nh := ⟨_, rfl⟩
  rw [hnw, hnm, hnh] at HS1
  rw [hnw] at w1
  rw [hnh] at h1
  rw [hnm] at m1
  have hz2 : 0 < nh := by
    have := List.length_pos_iff.2 hz; rw [← hnh, List.length_map]; exact this
  have hbw : nw ≤ 1000 := by rw [← hnw, List.length_map]; exact hpl
  have hbm : nm ≤ 1000 := by rw [← hnm, List.length_map]; exact hpl
  have hbh : nh ≤ 1000 := by rw [← hnh, List.length_map]; exact hhl
  have hl1 : ((L (ex * 2 + 1)).map Prod.fst).length ≤ 1000 := by rw [List.length_map]; exact hpl
  have hl2 : ((L (ex * 2 + 1)).map Prod.snd).length ≤ 1000 := by rw [List.length_map]; exact hpl
  have hl3 : ((L (ex * 2)).map Prod.fst).length ≤ 1000 := by rw [List.length_map]; exact hhl
  clear hq hf2 hac t1 t2 hnw hnm hnh hz hpl hhl
  go_wp2_with (first
    | (go_at_call 12; refine HQ.out.mono ?_; rintro e w2 ⟨rfl, V2, hA2, hT2⟩; have HA2 := hide hA2; have HL2 := hide (HS1.out.l.tr HS1.out.a.t hT2); have HO2 := hide (HO1.out.tr HS1.out.a.t hT2); obtain ⟨d0, d2, d3, d4⟩ := HO2.out.cells; have e0 := HL2.out.c0; have e1 := HL2.out.c1; have e2 := HL2.out.c2; clear hA2 hT2 HQ)
    | (go_at_call 15; refine (num_any _ _).mono ?_; rintro e wq ⟨rfl, hwq⟩; have hwq2 := hwq.symm; clear hwq; subst hwq2))
  have hyy : Below w2.heap.size w2 (w2.alloc (.cells #[.int .i64 oo] 3)).drew := (alloc_calm w2 (.cells #[.int .i64 oo] 3)).drew
  have o3 := (HL2.out.below hyy).ow
  have c0x := (HL2.out.below hyy).c0
  have HP := hide fun (z : World) (wv' : Value) ho ha => HL2.out.pushW (z := z) (wv' := wv') (lw' := (L (ex * 2 + 1)).map Prod.fst ++ [oo]) HA2.out.bel.size hyy ho ha
  clear hyy
  go_region_law (refine step_appendO rfl (.tmp 103) (.tmp 106) rfl _ _ rfl o3 ⟨w2.heap.size, 0, none⟩ 1 oo rfl (new_int w2 _) (by omega) ?_; intro v4 w4 ho4 ha4; obtain ⟨z0, z1, ⟨a4, m4, k4, rfl⟩, HP4⟩ := HP.out w4 v4 ho4 ha4; clear ho4 ha4)
  all_goals
    obtain ⟨w5, hw5⟩ : ∃ w5, w4.setCell ⟨q, 0, none⟩ (.slice a4 m4 k4) = w5 := ⟨_, rfl⟩
    rw [hw5] at HP4 ⊢
    have HA5 := hide (HA2.out.led HL2.out HP4.out.2)
    obtain ⟨b0, b2, b3, b4⟩ := (HO2.out.led HL2.out HP4.out.2).cells
    have HL5 := hide HP4.out.1
    have y1 := HL5.out.c1
    have hyy : Below w5.heap.size w5 (w5.alloc (.cells #[.int .i64 2] 3)).drew := (alloc_calm w5 (.cells #[.int .i64 2] 3)).drew
    have o5 := (HL5.out.below hyy).om
    have c1x := (HL5.out.below hyy).c1
    have HP5 := hide fun (z : World) (mv' : Value) ho ha => HL5.out.pushM (z := z) (mv' := mv') (lm' := (L (ex * 2 + 1)).map Prod.snd ++ [2]) HA5.out.bel.size hyy ho ha
    clear hyy z0 z1 o3 c0x d0 d2 d3 d4 e0 e1 e2 hw5 HP HP4
    go_wp2_with fail
    go_region_law (refine step_appendO rfl (.tmp 114) (.tmp 117) rfl _ _ rfl o5 ⟨w5.heap.size, 0, none⟩ 1 2 rfl (new_int w5 _) (by omega) ?_; intro v6 w6 ho6 ha6; obtain ⟨z0, z1, ⟨a6, m6, k6, rfl⟩, HP6⟩ := HP5.out w6 v6 ho6 ha6; clear ho6 ha6)
    all_goals
      go_wp2_with fail
      go_ret
      refine ⟨rfl, V2, .slice a4 m4 k4, .slice a6 m6 k6, .slice ha nh hc, upd L (ex * 2 + 1) (L (ex * 2 + 1) ++ [(oo, 2)]), wt + 1, ⟨HA5.out.led HL5.out HP6.out.2, ?_⟩, HF2.out⟩
      rw [upd_same, upd_other _ _ _ (by omega), List.map_append, List.map_append]
      exact HP6.out.1
end Go.Proofs.Ytijfnacplikibaa
namespace Go.Proofs.Ytijfnacplikibaa
open Go.RowKit
set_option linter.unusedVariables false
set_option linter.unusedSimpArgs false
set_option maxRecDepth 20000

theorem fair_any {w x : World} {p b n q ex i : Nat} {V : Nat → Value} {wv mv hv : Value} {L : LL} {wt : Int} (h : FS w x p b n q ex V wv mv hv L wt i) (hf : Few i L wt) (hi : i < 512) (hex : ex < n) (kind md oo : Int) (snd : Bool) :
    Calls Try.prog 18 #[.pointer (some ⟨q, 0, none⟩), .pointer (some ⟨p, 0, none⟩), .agg #[.int .i64 kind, .bool snd, .int .i64 (ex : Int), .int .i64 md, .int .i64 oo]] x (FairP w p b n q ex i) := by
  have hlt := hf.lt (by omega)
  by_cases k1 : kind = 1
  · subst k1
    by_cases m1 : md = 1
    · subst m1
      cases t1 : has (L (ex * 2 + 1)) oo with
      | true => exact fair_h11 h hf hi hex oo snd t1
      | false =>
        cases t2 : has (L (ex * 2)) oo with
        | true => exact fair_h21 h hf hi hex oo snd t1 t2
        | false =>
          rcases fair_acq (ws := 512) (md := 1) h.a.ok hex (.inl rfl) hlt (by rw [t1, t2]; rfl) with ⟨hz, hac⟩ | ⟨hz, hac⟩
          · exact fair_g1 h hf hi hex oo snd hz hac t1 t2
          · exact fair_w1 h hf hi hex oo snd hz hac t1 t2
    · by_cases m2 : md = 2
      · subst m2
        cases t1 : has (L (ex * 2 + 1)) oo with
        | true => exact fair_h12 h hf hi hex oo snd t1
        | false =>
          cases t2 : has (L (ex * 2)) oo with
          | true => exact fair_h22 h hf hi hex oo snd t1 t2
          | false =>
            rcases fair_acq (ws := 512) (md := 2) h.a.ok hex (.inr rfl) hlt (by rw [t1, t2]; rfl) with ⟨hz, hac⟩ | ⟨hz, hac⟩
            · exact fair_g2 h hf hi hex oo snd hz hac t1 t2
            · exact fair_w2 h hf hi hex oo snd hz hac t1 t2
      · cases t1 : has (L (ex * 2 + 1)) oo with
        | true => exact fair_x1 h hf hi hex md oo snd ⟨m1, m2⟩ t1
        | false =>
          cases t2 : has (L (ex * 2)) oo with
          | true => exact fair_x2 h hf hi hex md oo snd ⟨m1, m2⟩ t1 t2
          | false => exact fair_x3 h hf hi hex md oo snd ⟨m1, m2⟩ t1 t2
  · by_cases k2 : kind = 2
    · subst k2
      cases t1 : has (L (ex * 2 + 1)) oo with
      | true => exact fair_r1 h hf hi hex md oo snd t1
      | false =>
        cases t2 : has (L (ex * 2)) oo with
        | true => exact fair_r2 h hf hi hex md oo snd t1 t2
        | false => exact fair_r3 h hf hi hex md oo snd t1 t2
    · cases t1 : has (L (ex * 2 + 1)) oo with
      | true => exact fair_o1 h hf hi hex kind md oo snd ⟨k1, k2⟩ t1
      | false =>
        cases t2 : has (L (ex * 2)) oo with
        | true => exact fair_o2 h hf hi hex kind md oo snd ⟨k1, k2⟩ t1 t2
        | false => exact fair_o3 h hf hi hex kind md oo snd ⟨k1, k2⟩ t1 t2
end Go.Proofs.Ytijfnacplikibaa
namespace Go.Proofs.Ytijfnacplikibaa
open Go.RowKit
set_option linter.unusedVariables false
set_option linter.unusedSimpArgs false
set_option maxRecDepth 20000

def noP (L : LL) (o : Int) (e : Nat) : Prop := (has (L (e * 2)) o || has (L (e * 2 + 1)) o) = false
/-- while the second table gives back extent by extent: xv what Drop told, yv what the Releases told, sm whether there was any -/
def DI (w1 : World) (n : Nat) (b : Int) (B p bb q cc : Nat) (L1 : LL) (wt1 o : Int) (X0 : Nat) (xv yv : Value) (sm : Bool) (j : Nat) (x : World) : Prop :=
  ∃ Va Vb, A2 w1 x n b B p bb Va (drp n L1 wt1 o n).L (drp n L1 wt1 o n).wt q cc Vb (drp n L1 wt1 o j).L (drp n L1 wt1 o j).wt ∧ IRow x xv (drp n L1 wt1 o n).inn ∧ IRow x yv (drp n L1 wt1 o j).inn ∧ (∀ g, yv.ownBlock = some g → X0 ≤ g) ∧ (∀ g, xv.ownBlock = some g → g < X0) ∧ w1.heap.size ≤ X0 ∧ X0 ≤ x.heap.size ∧ (sm = false → (∀ e, e < j → noP L1 o e) ∧ (drp n L1 wt1 o j).wt = wt1)
section
variable {w1 : World} {n : Nat} {b : Int} {B p bb q cc : Nat} {L1 : LL} {wt1 o : Int} {X0 : Nat} {xv yv : Value} {sm : Bool} {j : Nat} {x : World}
theorem DI.bel (h : DI w1 n b B p bb q cc L1 wt1 o X0 xv yv sm j x) : Below w1.heap.size w1 x := by
  obtain ⟨Va, Vb, hA, -⟩ := h
  exact hA.a.bel
theorem IRow.tr {x y : World} {p b n : Nat} {V V' : Nat → Value} {m : Int} {L : LL} {ws wt : Int} {v : Value} {l : List Int} (hv : IRow x v l) (ht : TRep x p b m n V L ws wt) (htr : Tr (fun _ => False) x y (TU p b n V) (TU p b n V')) : IRow y v l := ht.irow hv htr
/-- the second table gives one back; the owner has a place there -/
theorem DI.relY (h : DI w1 n b B p bb q cc L1 wt1 o X0 xv yv sm j x) (hj : j < n) (hB : B ≤ 3900000000000) (hw512 : wt1 ≤ 512) (hp : (has (L1 (j * 2)) o || has (L1 (j * 2 + 1)) o) = true) :
    Calls Try.prog 16 #[.pointer (some ⟨q, 0, none⟩), .int .i64 (j : Int), .int .i64 o] x fun e' y => ∃ iv il, e' = .returned (.tuple #[iv, .int .i64 0]) ∧ IRow y iv il ∧ IRow y yv (drp n L1 wt1 o j).inn ∧ (drp n L1 wt1 o j).inn.length + il.length ≤ 16000000000000 ∧ Below w1.heap.size w1 y ∧ ∀ z yv', IRow z yv' ((drp n L1 wt1 o j).inn ++ il) → App y z yv yv' → DI w1 n b B p bb q cc L1 wt1 o X0 xv yv' true (j + 1) z := by
  obtain ⟨Va, Vb, hA, hX, hY, hy0, hx0, h0, h1, hs⟩ := h
  have e0 : (drp n L1 wt1 o j).L (j * 2) = L1 (j * 2) := drp_at j _ (Nat.le_refl _)
  have e1 : (drp n L1 wt1 o j).L (j * 2 + 1) = L1 (j * 2 + 1) := drp_at j _ (by omega)
  have er : (rls n (drp n L1 wt1 o j).L (drp n L1 wt1 o j).wt j o).err = 0 := by rw [rls_err hj, e0, e1, if_pos hp]
  refine (hA.b.release hB (j : Int) o).mono ?_
  rintro e' y ⟨iv, V', rfl, hB', hTr, hI, hN⟩
  have hA2 := (hA.symm.stepF hB' (Nat.le_refl _) hTr).symm
  have hlen := drp_len (n := n) (L := L1) (wt := wt1) (o := o) j
  have hlen2 := rls_len (n := n) (L := (drp n L1 wt1 o j).L) (wt := (drp n L1 wt1 o j).wt) (e := j) (o := o)
  have hsum := hB'.wf.sum
  have hw0 : (0 : Int) ≤ (rls n (drp n L1 wt1 o j).L (drp n L1 wt1 o j).wt j o).wt := by rw [hsum]; omega
  have hwb := hA.b.wf.le
  have hws := hA.b.wf.ws0
  have hlast := drp_len (n := n) (L := L1) (wt := wt1) (o := o) j
  refine ⟨iv, _, by rw [er], hI, hA.b.t.irow hY hTr, ?_, hA2.a.bel, fun z yv' hz ha => ?_⟩
  · have h9 := hA.a.wf.sum
    have h10 := drp_len (n := n) (L := L1) (wt := wt1) (o := o) n
    omega
  · have hY2 := hA.b.t.irow hY hTr
    have hX2 := hA.b.t.irow hX hTr
    have hsz := hTr.chg.size
    refine ⟨Va, V', hA2.app hY2 ha (fun g hg => by have := hy0 g hg; omega), hX2.app ha (fun g hg e => by have := hy0 g e; have := hx0 g hg; omega), hz, fun g hg => ?_, hx0, h0, by have := ha.chg.size; omega, fun e => by cases e⟩
    rcases ha.loc g hg with h | h
    · exact hy0 g h
    · omega
/-- it has none there -/
theorem DI.relN (h : DI w1 n b B p bb q cc L1 wt1 o X0 xv yv sm j x) (hj : j < n) (hB : B ≤ 3900000000000) (hp : noP L1 o j) :
    Calls Try.prog 16 #[.pointer (some ⟨q, 0, none⟩), .int .i64 (j : Int), .int .i64 o] x fun e' y => ∃ iv, e' = .returned (.tuple #[iv, .int .i64 92]) ∧ DI w1 n b B p bb q cc L1 wt1 o X0 xv yv sm (j + 1) y := by
  obtain ⟨Va, Vb, hA, hX, hY, hy0, hx0, h0, h1, hs⟩ := h
  have e0 : (drp n L1 wt1 o j).L (j * 2) = L1 (j * 2) := drp_at j _ (Nat.le_refl _)
  have e1 : (drp n L1 wt1 o j).L (j * 2 + 1) = L1 (j * 2 + 1) := drp_at j _ (by omega)
  have er : rls n (drp n L1 wt1 o j).L (drp n L1 wt1 o j).wt j o = ⟨92, [], (drp n L1 wt1 o j).L, (drp n L1 wt1 o j).wt⟩ := rls_not hj (by rw [e0, e1]; exact hp)
  have ed : drp n L1 wt1 o (j + 1) = ⟨0, (drp n L1 wt1 o j).inn, (drp n L1 wt1 o j).L, (drp n L1 wt1 o j).wt⟩ := by
    show RR.mk _ _ _ _ = _
    rw [er]
    simp
  have hcall := hA.b.release hB (j : Int) o
  rw [er] at hcall
  refine hcall.mono ?_
  rintro e' y ⟨iv, V', rfl, hB', hTr, hI, hN⟩
  have hA2 := (hA.symm.stepF hB' (Nat.le_refl _) hTr).symm
  refine ⟨iv, rfl, Va, V', ?_, hA.b.t.irow hX hTr, ?_, hy0, hx0, h0, by have := hTr.chg.size; omega, fun e => ?_⟩
  · rw [ed]; exact hA2
  · rw [ed]; exact hA.b.t.irow hY hTr
  · obtain ⟨k1, k2⟩ := hs e
    refine ⟨fun e he => ?_, by rw [ed]; exact k2⟩
    by_cases hej : e = j
    · rw [hej]; exact hp
    · exact k1 e (by omega)
/-- all is given back: both stand alike, and the owner is gone -/
theorem DI.fin (h : DI w1 n b B p bb q cc L1 wt1 o X0 xv yv sm n x) (hok : Ok n L1) : IRow x xv (drp n L1 wt1 o n).inn ∧ IRow x yv (drp n L1 wt1 o n).inn ∧ (drp n L1 wt1 o n).inn.contains o = false ∧ (∃ Va Vb, A2 w1 x n b B p bb Va (drp n L1 wt1 o n).L (drp n L1 wt1 o n).wt q cc Vb (drp n L1 wt1 o n).L (drp n L1 wt1 o n).wt) ∧ (sm = false → (∀ e, e < n → noP L1 o e) ∧ (drp n L1 wt1 o n).wt = wt1) ∧ ∀ e, e < n → (((drp n L1 wt1 o n).L (e * 2)).map Prod.fst).contains o = false ∧ (((drp n L1 wt1 o n).L (e * 2 + 1)).map Prod.fst).contains o = false := by
  obtain ⟨Va, Vb, hA, hX, hY, hy0, hx0, h0, h1, hs⟩ := h
  obtain ⟨g1, g2⟩ := drp_gone hok (wt := wt1) (o := o) n (Nat.le_refl _)
  have hc : ∀ l : List Int, o ∉ l → l.contains o = false := fun l hl => by
    rw [← Bool.not_eq_true, List.contains_iff_mem]
    exact hl
  exact ⟨hX, hY, hc _ g1, ⟨Va, Vb, hA⟩, hs, fun e he => ⟨hc _ (g2 e he).1, hc _ (g2 e he).2⟩⟩
end
end Go.Proofs.Ytijfnacplikibaa
namespace Go.Proofs.Ytijfnacplikibaa
open Go.RowKit
set_option linter.unusedVariables false
set_option linter.unusedSimpArgs false
set_option maxRecDepth 20000

/-- an operation of the script, in any world that grew out of w -/
theorem ops_at {w w1 : World} {av : Option Addr} {os : List OpV} (hb0 : Below w.heap.size w w1) (hv3 : 0 < os.length → ∃ b off, av = some ⟨b, off, none⟩ ∧ ∀ i (h : i < os.length), (w.cell? ⟨b, off + i * 5, none⟩ = some (.int .i64 os[i].kind) ∧ w.cell? ⟨b, off + i * 5 + 1, none⟩ = some (.bool os[i].snd)) ∧ w.cell? ⟨b, off + i * 5 + 2, none⟩ = some (.int .i64 os[i].ext) ∧ w.cell? ⟨b, off + i * 5 + 3, none⟩ = some (.int .i64 os[i].mode) ∧ w.cell? ⟨b, off + i * 5 + 4, none⟩ = some (.int .i64 os[i].owner)) :
    ∀ x, Below w1.heap.size w1 x → ∀ i, i < os.length → ∃ g off, av = some ⟨g, off, none⟩ ∧ (x.cell? ⟨g, off + i * 5, none⟩ = some (.int .i64 (os.getD i default).kind) ∧ x.cell? ⟨g, off + i * 5 + 1, none⟩ = some (.bool (os.getD i default).snd)) ∧ x.cell? ⟨g, off + i * 5 + 2, none⟩ = some (.int .i64 (os.getD i default).ext) ∧ x.cell? ⟨g, off + i * 5 + 3, none⟩ = some (.int .i64 (os.getD i default).mode) ∧ x.cell? ⟨g, off + i * 5 + 4, none⟩ = some (.int .i64 (os.getD i default).owner) := fun x hx i hi => by
  obtain ⟨g, off, rfl, hc⟩ := hv3 (by omega)
  have hb' : Below w.heap.size w x := hb0.trans (hx.mono hb0.size)
  have hlt := World.block_lt_of_cell? w _ (hc 0 (by omega)).1.1
  obtain ⟨⟨c0, c1⟩, c2, c3, c4⟩ := hc i hi
  rw [show os.getD i default = os[i] by simp [List.getD, hi]]
  exact ⟨g, off, rfl, ⟨(below_cell hb' hlt _).trans c0, (below_cell hb' hlt _).trans c1⟩, (below_cell hb' hlt _).trans c2, (below_cell hb' hlt _).trans c3, (below_cell hb' hlt _).trans c4⟩
theorem box_at {w : World} {a b : Int} : ∀ x, Below (w.alloc (.cells #[.int .i64 a, .int .i64 b] 23)).heap.size (w.alloc (.cells #[.int .i64 a, .int .i64 b] 23)) x → x.cell? ⟨w.heap.size, 0, none⟩ = some (.int .i64 a) ∧ x.cell? ⟨w.heap.size, 1, none⟩ = some (.int .i64 b) := fun x hx => by
  have hg : x.heap[w.heap.size]? = some (.cells #[.int .i64 a, .int .i64 b] 23 (0, 0)) := (hx.block _ (by simp)).trans (Go.heap_alloc_new w _)
  exact ⟨by rw [cell_of_row _ _ _ _ _ _ hg]; rfl, by rw [cell_of_row _ _ _ _ _ _ hg]; rfl⟩
section
variable {w x : World} {n : Nat} {ws : Int} {B : Nat} {pa ba : Nat} {Va : Nat → Value} {La : LL} {wta : Int} {pb bb : Nat} {Vb : Nat → Value} {Lb : LL} {wtb : Int}
theorem A2.rebound {B' : Nat} (h : A2 w x n ws B pa ba Va La wta pb bb Vb Lb wtb) (ha : WF n La ws wta B') (hb : WF n Lb ws wtb B') : A2 w x n ws B' pa ba Va La wta pb bb Vb Lb wtb := ⟨⟨h.a.t, ha, h.a.ok, h.a.bel, h.a.lo⟩, ⟨h.b.t, hb, h.b.ok, h.b.bel, h.b.lo⟩, h.ap⟩
theorem A2.call (h : A2 w x n ws B pa ba Va La wta pb bb Vb Lb wtb) (hB : B ≤ 3900000000000) (kind : Int) (snd : Bool) (e md o : Int) : Calls Try.prog 11 #[.pointer (some ⟨pa, 0, none⟩), .agg #[.int .i64 kind, .bool snd, .int .i64 e, .int .i64 md, .int .i64 o]] x fun e' y => e' = .returned (.tuple #[]) ∧ ∃ Va', A2 w y n ws (B + 1) pa ba Va' (cal n La ws wta kind e md o).1 (cal n La ws wta kind e md o).2 pb bb Vb Lb wtb := by
  refine (call_any x pa ba n Va La ws wta kind snd e md o B h.a.t h.a.wf hB).mono ?_
  rintro e' y ⟨rfl, V', hT, hTr⟩
  exact ⟨rfl, V', h.stepF (h.a.step hT (cal_wf h.a.wf kind e md o) (cal_ok h.a.ok ws wta kind e md o) hTr fun g h => h.elim) (Nat.le_succ _) hTr⟩
theorem A2.acquire (h : A2 w x n ws B pa ba Va La wta pb bb Vb Lb wtb) (hB : B ≤ 3900000000000) (e md o : Int) : Calls Try.prog 12 #[.pointer (some ⟨pa, 0, none⟩), .int .i64 e, .int .i64 md, .int .i64 o] x fun e' y => e' = .returned (.tuple #[.bool (acq n La ws wta e o md).gr, .int .i64 (acq n La ws wta e o md).err]) ∧ ∃ Va', A2 w y n ws (B + 1) pa ba Va' (acq n La ws wta e o md).L (acq n La ws wta e o md).wt pb bb Vb Lb wtb := by
  refine (h.a.acquire (by omega) e md o).mono ?_
  rintro e' y ⟨rfl, V', hA, hTr⟩
  exact ⟨rfl, V', h.stepF hA (Nat.le_succ _) hTr⟩
theorem A2.release (h : A2 w x n ws B pa ba Va La wta pb bb Vb Lb wtb) (hB : B ≤ 3900000000000) (e o : Int) : Calls Try.prog 16 #[.pointer (some ⟨pa, 0, none⟩), .int .i64 e, .int .i64 o] x fun e' y => ∃ v Va', e' = .returned (.tuple #[v, .int .i64 (rls n La wta e o).err]) ∧ A2 w y n ws B pa ba Va' (rls n La wta e o).L (rls n La wta e o).wt pb bb Vb Lb wtb ∧ Tr (fun _ => False) x y (TU pa ba n Va) (TU pa ba n Va') ∧ IRow y v (rls n La wta e o).inn ∧ ∀ g, v.ownBlock = some g → x.heap.size ≤ g := by
  refine (h.a.release hB e o).mono ?_
  rintro e' y ⟨v, V', rfl, hA, hTr, hI, hN⟩
  exact ⟨v, V', rfl, h.stepF hA (Nat.le_refl _) hTr, hTr, hI, hN⟩
theorem A2.drop (h : A2 w x n ws B pa ba Va La wta pb bb Vb Lb wtb) (hB : B ≤ 3900000000000) (o : Int) : Calls Try.prog 19 #[.pointer (some ⟨pa, 0, none⟩), .int .i64 o] x fun e' y => ∃ v Va', e' = .returned v ∧ A2 w y n ws B pa ba Va' (drp n La wta o n).L (drp n La wta o n).wt pb bb Vb Lb wtb ∧ IRow y v (drp n La wta o n).inn := by
  refine (h.a.drop hB o).mono ?_
  rintro e' y ⟨v, V', rfl, hA, hTr, hI, hN⟩
  exact ⟨v, V', rfl, h.stepF hA (Nat.le_refl _) hTr, hI⟩
theorem A2.holders (h : A2 w x n ws B pa ba Va La wta pb bb Vb Lb wtb) (hB : B ≤ 3900000000000) {e : Nat} (he : e < n) : Calls Try.prog 14 #[.pointer (some ⟨pa, 0, none⟩), .int .i64 (e : Int)] x fun e' y => ∃ v, e' = .returned (.tuple #[v, .int .i64 (modeOf (La (e * 2))), .int .i64 0]) ∧ A2 w y n ws B pa ba Va La wta pb bb Vb Lb wtb ∧ Chg (· = pa) x y ∧ IRow y v ((La (e * 2)).map Prod.fst) := by
  refine (h.a.holders (by omega) he).mono ?_
  rintro e' y ⟨v, rfl, hA, hC, hI, hN⟩
  exact ⟨v, rfl, h.askA hA hC, hC, hI⟩
theorem A2.waiters (h : A2 w x n ws B pa ba Va La wta pb bb Vb Lb wtb) (hB : B ≤ 3900000000000) {e : Nat} (he : e < n) : Calls Try.prog 13 #[.pointer (some ⟨pa, 0, none⟩), .int .i64 (e : Int)] x fun e' y => ∃ v, e' = .returned (.tuple #[v, .int .i64 0]) ∧ A2 w y n ws B pa ba Va La wta pb bb Vb Lb wtb ∧ Chg (· = pa) x y ∧ IRow y v ((La (e * 2 + 1)).map Prod.fst) := by
  refine (h.a.waiters (by omega) he).mono ?_
  rintro e' y ⟨v, rfl, hA, hC, hI, hN⟩
  exact ⟨v, rfl, h.askA hA hC, hC, hI⟩
end
set_option maxHeartbeats 4000000 in
theorem dropIs_law (w : World) (a b o : Int) (v : Value) (os : List OpV) (hv : OSl w v os) (hl : os.length ≤ 3518437208883) : Calls Try.prog 6 #[.agg #[.int .i64 a, .int .i64 b], v, .int .i64 o] w fun e' w' => e' = .returned (.bool true) ∧ Below w.heap.size w w' := by
  have HB0 := hide ((Below.refl w.heap.size w).alloc (Nat.le_refl _) (.cells #[.int .i64 a, .int .i64 b] 23))
  have HM := hide fun x => may_any x a b
  obtain ⟨av, cv, rfl, hv1, hv2, hv3⟩ := hv
  cases hk : okN a b with
  | false =>
    rw [hk] at HM
    clear hv3
    go_enter Try.func6, Try.ntmps6
    go_wp2_with (go_at_call 9; refine (HM.out _).mono ?_; rintro e' w2 ⟨rfl, hb2⟩; have HB2 := hide (HB0.out.trans (hb2.mono (by simp))); clear HM hb2)
    go_ret
    exact ⟨rfl, HB2.out⟩
  | true =>
    rw [hk] at HM
    obtain ⟨h1, h2, h3, h4⟩ := okN_yes hk
    obtain ⟨n, rfl⟩ : ∃ n : Nat, a = (n : Int) := ⟨a.toNat, by omega⟩
    have HC0 := hide (box_at (w := w) (a := (n : Int)) (b := b))
    have HTB := hide fun x => table_any x n b hk
    have HOS := hide (ops_at HB0.out hv3)
    clear hv3 hk
    generalize hN : os.length = N at *
    clear hN
    unfold maxLen at hv2
    have hw1 : IntKind.i64.wrap ((n : Int) - 1) = ((n - 1 : Nat) : Int) := by simp [IntKind.wrap, IntKind.bits, IntKind.signed]; omega
    have hw2 : (n : Int) - 1 = ((n - 1 : Nat) : Int) := by omega
    go_enter Try.func6, Try.ntmps6
    go_wp2_with (first
      | (go_at_call 9; refine (HM.out _).mono ?_; rintro e' w2 ⟨rfl, hb2⟩; have HB2 := hide hb2; obtain ⟨c0, c1⟩ := HC0.out _ hb2; clear HM hb2)
      | (go_at_call 10; refine (HTB.out _).mono ?_; rintro e' w3 ⟨p, bb, rfl, hT3, hb3, hp3, hbb3⟩; have HAS := hide (as_new (w := w.alloc (.cells #[.int .i64 (n : Int), .int .i64 b] 23)) hT3 (HB2.out.trans (hb3.mono HB2.out.size)) (Nat.le_trans HB2.out.size hp3) (Nat.le_trans HB2.out.size hbb3) ⟨h3, h4⟩); obtain ⟨x0, x1⟩ := HC0.out _ HAS.out.bel; clear hT3 hb3 hp3 hbb3 HB2)
      | (go_at_call 10; refine (HTB.out _).mono ?_; rintro e' w4 ⟨q, cc, rfl, hT4, hb4, hp4, hbb4⟩; have HA2 := hide (a2_new HAS.out hT4 hb4 hp4 hbb4); clear HTB hT4 hb4 hp4 hbb4 HAS))
    generalize w.alloc (.cells #[.int .i64 (n : Int), .int .i64 b] 23) = w1 at *
    go_loopw [10] (fun x wr => ∃ (i : Nat) (Va Vb : Nat → Value) (L : LL) (wt : Int), i ≤ N ∧ x = .int .i64 (i : Int) ∧ A2 w1 wr n b i p bb Va L wt q cc Vb L wt) (fun x _ => N - (intOf x).toNat)
    case atStart => exact ⟨0, _, _, _, _, Nat.zero_le _, rfl, HA2.out⟩
    case round =>
      obtain ⟨i, Va, Vb, L, wt, hi, rfl, hA⟩ := hrel
      have HA := hide hA
      clear hA HA2
      by_cases hlt : i < N
      · obtain ⟨g, off, rfl, ⟨e0, e1⟩, e2, e3, e4⟩ := HOS.out _ HA.out.a.bel i hlt
        have HCL := hide (HA.out.call (by omega) (os.getD i default).kind (os.getD i default).snd (os.getD i default).ext (os.getD i default).mode (os.getD i default).owner)
        have HWF := hide (cal_wf HA.out.a.wf (os.getD i default).kind (os.getD i default).ext (os.getD i default).mode (os.getD i default).owner)
        have HCB := hide fun y V' L' wt' (h : A2 w1 y n b (i + 1) p bb V' L' wt' q cc Vb L wt) => h.symm.call (by omega) (os.getD i default).kind (os.getD i default).snd (os.getD i default).ext (os.getD i default).mode (os.getD i default).owner
        have HOS2 := hide fun x (hx : Below w1.heap.size w1 x) => HOS.out x hx i hlt
        generalize os.getD i default = s at *
        obtain ⟨kind, snd, ee, md, oo⟩ := s
        dsimp only at e0 e1 e2 e3 e4 HCL HCB HWF HOS2
        have hii : 0 ≤ (i : Int) ∧ (i : Int) < (N : Int) := ⟨by omega, by omega⟩
        go_wp2_with (first
          | (go_at_call 11; refine HCL.out.mono ?_; rintro e' w5 ⟨rfl, V5, hA5⟩; have HA5 := hide hA5; obtain ⟨g', off', eg, ⟨f0, f1⟩, f2, f3, f4⟩ := HOS2.out _ hA5.a.bel; simp only [Option.some.injEq, Addr.mk.injEq] at eg; obtain ⟨rfl, rfl, -⟩ := eg; clear hA5 HCL)
          | (go_at_call 11; refine (HCB.out _ _ _ _ HA5.out).mono ?_; rintro e' w6 ⟨rfl, V6, hA6⟩; have HA6 := hide (hA6.symm.rebound HWF.out HWF.out); clear hA6 HCB))
        go_roundw
        case rel => exact ⟨i + 1, V5, V6, _, _, by omega, by go_num, HA6.out⟩
        case measure => simp [intOf]; omega
      · have hnl : ¬ (i : Int) < (N : Int) := by omega
        have hn1 : n - 1 < n := by omega
        obtain ⟨z0, z1⟩ := HC0.out _ HA.out.a.bel
        have HQA := hide (HA.out.acquire (by omega) ((n - 1 : Nat) : Int) 1 o)
        have HWF := hide (acq_wf HA.out.a.wf ((n - 1 : Nat) : Int) o 1)
        have HQB := hide fun y V' L' wt' (h : A2 w1 y n b (i + 1) p bb V' L' wt' q cc Vb L wt) => h.symm.acquire (by omega) ((n - 1 : Nat) : Int) 1 o
        have HOK := hide (ok_acq HA.out.a.ok b wt ((n - 1 : Nat) : Int) o 1)
        have HNO := hide fun h0 h1 => acq_none (n := n) (L := L) (ws := b) (wt := wt) (o := o) hn1 h0 h1
        generalize acq n L b wt ((n - 1 : Nat) : Int) o 1 = A1 at *
        obtain ⟨er1, gr1, L1, wt1⟩ := A1
        dsimp only at HQA HQB HWF HNO HOK
        have HNU := hide fun x z => num_any x z
        have HDR := hide fun y V' V'' (h : A2 w1 y n b (i + 1) p bb V' L1 wt1 q cc V'' L1 wt1) => h.drop (by omega) o
        clear HOS
        go_wp2_with (first
          | (go_at_call 12; refine HQA.out.mono ?_; rintro e' w5 ⟨rfl, V5, hA5⟩; have HA5 := hide hA5; obtain ⟨z2, z3⟩ := HC0.out _ hA5.a.bel; clear hA5 HQA HA)
          | (go_at_call 12; refine (HQB.out _ _ _ _ HA5.out).mono ?_; rintro e' w6 ⟨rfl, V6, hA6⟩; have HA6 := hide (hA6.symm.rebound HWF.out HWF.out); obtain ⟨z4, z5⟩ := HC0.out _ hA6.a.bel; clear hA6 HQB HA5)
          | (go_at_call 19; refine (HDR.out _ _ _ HA6.out).mono ?_; rintro e' w7 ⟨xv, V7, rfl, hA7, hI7⟩; have HA7 := hide hA7; have HI7 := hide hI7; obtain ⟨z6, z7⟩ := HC0.out _ hA7.a.bel; clear hA7 hI7 HDR HA6))
        have hw512 : wt1 ≤ 512 := by have h8 := HWF.out.le; omega
        have HDI : Hid (DI w1 n b (i + 1) p bb q cc L1 wt1 o w7.heap.size xv (.slice none 0 0) false 0 w7) := hide ⟨V7, V6, HA7.out, HI7.out, IRow.nil _, fun g e => by simp [Value.ownBlock] at e, fun g hg => HI7.out.lt hg, HA7.out.a.bel.size, Nat.le_refl _, fun _ => ⟨fun e he => by omega, rfl⟩⟩
        generalize hX0 : w7.heap.size = X0 at *
        clear hX0 HA7 HI7
        go_loopw [12, 13, 14] (fun yv sm x wr => ∃ (j : Nat) (s : Bool), j ≤ n ∧ sm = .bool s ∧ x = .int .i64 (j : Int) ∧ DI w1 n b (i + 1) p bb q cc L1 wt1 o X0 xv yv s j wr) (fun _ _ x _ => n - (intOf x).toNat)
        case atStart => exact ⟨0, false, Nat.zero_le _, rfl, rfl, HDI.out⟩
        case round =>
          obtain ⟨j, sm, hj, rfl, rfl, hdi⟩ := hrel
          have HD := hide hdi
          obtain ⟨y0, y1⟩ := HC0.out _ hdi.bel
          clear hdi HDI
          by_cases hjn : j < n
          · cases hp : (has (L1 (j * 2)) o || has (L1 (j * 2 + 1)) o) with
            | true =>
              have HRE := hide (HD.out.relY hjn (by omega) hw512 hp)
              clear hp HD
              go_wp2_with (first
                | (go_at_call 16; refine HRE.out.mono ?_; rintro e' w8 ⟨iv, il, rfl, hI8, hY8, hln8, hb8, hnx⟩; have HI8 := hide hI8; have HY8 := hide hY8; have HLN := hide hln8; have HNX := hide hnx; obtain ⟨y2, y3⟩ := HC0.out _ hb8; clear hI8 hY8 hln8 hnx hb8 HRE)
                | (go_at_call 15; refine (HNU.out _ _).mono ?_; rintro e' wq ⟨rfl, hwq⟩; have hwq2 := hwq.symm; clear hwq; subst hwq2)
                | (at_builtin; refine wpList_appendI _ rfl (.tmp 91) (.tmp 92) rfl _ _ _ _ rfl rfl HY8.out HI8.out HLN.out ?_; intro yv9 w9 hY9 ha9; have HN := hide (HNX.out _ _ hY9 ha9); clear hY9 ha9 HNX))
              go_roundw
              case rel => exact ⟨j + 1, true, by omega, rfl, by go_num, HN.out⟩
              case measure => simp [intOf]; omega
            | false =>
              have HRE := hide (HD.out.relN hjn (by omega) hp)
              clear hp HD
              go_wp2_with (first
                | (go_at_call 16; refine HRE.out.mono ?_; rintro e' w8 ⟨iv, rfl, hn8⟩; have HN := hide hn8; clear hn8 HRE)
                | (go_at_call 15; refine (HNU.out _ _).mono ?_; rintro e' wq ⟨rfl, hwq⟩; have hwq2 := hwq.symm; clear hwq; subst hwq2))
              go_roundw
              case rel => exact ⟨j + 1, sm, by omega, rfl, by go_num, HN.out⟩
              case measure => simp [intOf]; omega
          · have ejn : j = n := by omega
            have hnl2 : ¬ (j : Int) < (n : Int) := by omega
            have HD' := HD.out
            rw [ejn] at HD'
            obtain ⟨f1, f2, f3, f4, f5, f6⟩ := HD'.fin HOK.out
            have F1 := hide f1
            have F2 := hide f2
            have F3 := hide f3
            have F4 := hide f4
            have F5 := hide f5
            have F6 := hide f6
            have HEQ : Hid (decide ((drp n L1 wt1 o n).inn = (drp n L1 wt1 o n).inn) = true) := hide (by simp)
            clear f1 f2 f3 f4 f5 f6 HD' HD
            generalize drp n L1 wt1 o n = A9 at *
            obtain ⟨er9, in9, L9, wt9⟩ := A9
            dsimp only at F1 F2 F3 F4 F5 F6 HEQ
            have HSM := hide fun x a v l k (h1 : IRow x a l) (h2 : IRow x v k) => same_any x a v l k h1 h2
            have HHS := hide fun x a l z (h1 : IRow x a l) => has_any x a l z h1
            obtain ⟨Va9, Vb9, hA9⟩ := F4.out
            have HA9 := hide hA9
            have HWB : Hid (sm = false → b ≤ wt9) := hide fun e => by
              obtain ⟨k1, k2⟩ := F5.out e
              have k3 := k1 (n - 1) (by omega)
              unfold noP at k3
              rw [Bool.or_eq_false_iff] at k3
              have := HNO.out k3.1 k3.2
              omega
            have HWG := hide fun x (h : A2 w1 x n b (i + 1) p bb Va9 L9 wt9 q cc Vb9 L9 wt9) => h.a.waiting
            clear F4 F5 hA9 HNO HOK
            have hnot : ∀ (x : Bool) (w : World), (Op.unary .not (.bool x)).run Try.prog w = .ok (.bool (!x)) w := fun _ _ => rfl
            have HAD := hide (HA9.out.below (y := wr.drew) ⟨rfl, rfl, rfl, Nat.le_refl _, fun _ _ => rfl⟩)
            have F1D : Hid (IRow wr.drew xv in9) := hide (F1.out.kept fun _ _ => rfl)
            have F2D : Hid (IRow wr.drew _ in9) := hide (F2.out.kept fun _ _ => rfl)
            have HS2 := hide (HSM.out _ _ _ _ _ F1D.out F2D.out)
            rw [HEQ.out] at HS2
            have HS3 := hide fun (k : Nat) => same_drew (wr.drewN k) _ _ _ _ (F1.out.kept (w' := wr.drewN k) fun _ _ => rfl) (F2.out.kept (w' := wr.drewN k) fun _ _ => rfl)
            rw [HEQ.out] at HS3
            have HH2 := hide fun x (h1 : IRow x xv in9) => HHS.out x xv in9 o h1
            rw [F3.out] at HH2
            have HH3 := hide fun (k : Nat) => HH2.out (wr.drewN k) (F1.out.kept fun _ _ => rfl)
            cases sm with
            | true =>
              go_wp2_with fail
              go_quiet (first
                | (go_at_call 17; exact Calls.quiet_of (HS3.out _))
                | (go_at_call 20; exact Calls.quiet_of_same (HH3.out _)))
              have HA12 := hide (HA9.out.below (y := wr.drewN nq) ⟨rfl, rfl, rfl, Nat.le_refl _, fun _ _ => rfl⟩)
              generalize wr.drewN nq = w12 at *
              obtain ⟨z8, z9⟩ := HC0.out _ HA12.out.a.bel
              have HEQ2 : Hid (∀ l : List Int, decide (l = l) = true) := hide fun l => by simp
              clear HS2 HS3 HH2 HH3 HSM F1 F2 F1D F2D F3 HAD HA9 HWG HWB HEQ
              go_wp2_with fail
              go_loopw [17] (fun x wr => ∃ j : Nat, j ≤ n ∧ x = .int .i64 (j : Int) ∧ A2 w1 wr n b (i + 1) p bb Va9 L9 wt9 q cc Vb9 L9 wt9) (fun x _ => n - (intOf x).toNat)
              case atStart => exact ⟨0, Nat.zero_le _, rfl, HA12.out⟩
              case round =>
                obtain ⟨e9, he9, rfl, hA13⟩ := hrel
                have HA13 := hide hA13
                obtain ⟨d8, d9⟩ := HC0.out _ hA13.a.bel
                clear hA13 HA12 z8 z9
                by_cases hlt9 : e9 < n
                · obtain ⟨g8, g9⟩ := F6.out e9 hlt9
                  have G8 := hide g8
                  have G9 := hide g9
                  have HHA := hide (HA13.out.holders (by omega) hlt9)
                  have HHB := hide fun x (h : A2 w1 x n b (i + 1) p bb Va9 L9 wt9 q cc Vb9 L9 wt9) => h.symm.holders (by omega) hlt9
                  have HWA := hide fun x (h : A2 w1 x n b (i + 1) p bb Va9 L9 wt9 q cc Vb9 L9 wt9) => h.waiters (by omega) hlt9
                  have HWB := hide fun x (h : A2 w1 x n b (i + 1) p bb Va9 L9 wt9 q cc Vb9 L9 wt9) => h.symm.waiters (by omega) hlt9
                  have HSA := hide fun x a v l (h1 : IRow x a l) (h2 : IRow x v l) => same_any x a v l l h1 h2
                  have HHX := hide fun x a (h1 : IRow x a ((L9 (e9 * 2)).map Prod.fst)) => has_any x a ((L9 (e9 * 2)).map Prod.fst) o h1
                  have HHY := hide fun x a (h1 : IRow x a ((L9 (e9 * 2 + 1)).map Prod.fst)) => has_any x a ((L9 (e9 * 2 + 1)).map Prod.fst) o h1
                  have hnn : (modeOf (L9 (e9 * 2)) != modeOf (L9 (e9 * 2))) = false := by simp
                  rw [G8.out] at HHX
                  rw [G9.out] at HHY
                  generalize (L9 (e9 * 2)).map Prod.fst = lh at *
                  generalize (L9 (e9 * 2 + 1)).map Prod.fst = lw at *
                  generalize modeOf (L9 (e9 * 2)) = mo at *
                  have HS4 := hide fun x a v (h1 : IRow x a lh) (h2 : IRow x v lh) => HSA.out x a v lh h1 h2
                  have HS5 := hide fun x a v (h1 : IRow x a lw) (h2 : IRow x v lw) => HSA.out x a v lw h1 h2
                  rw [show decide (lh = lh) = true by simp] at HS4
                  rw [show decide (lw = lw) = true by simp] at HS5
                  clear g8 g9 G8 G9 F6 HSA HEQ2
                  go_wp2_with (first
                    | (go_at_call 14; refine HHA.out.mono ?_; rintro e' w14 ⟨v1, rfl, hA14, hC14, hI14⟩; have HA14 := hide hA14; have HI14 := hide hI14; clear hA14 hC14 hI14 HHA)
                    | (go_at_call 14; refine (HHB.out _ HA14.out).mono ?_; rintro e' w15 ⟨v2, rfl, hA15, hC15, hI15⟩; have HA15 := hide hA15.symm; have HJ15 := hide hI15; have HI15 := hide (HA14.out.b.irowA HI14.out hC15); clear hA15 hC15 hI15 HHB)
                    | (go_at_call 13; refine (HWA.out _ HA15.out).mono ?_; rintro e' w16 ⟨v3, rfl, hA16, hC16, hI16⟩; have HA16 := hide hA16; have HK16 := hide hI16; have HI16 := hide (HA15.out.a.irowA HI15.out hC16); have HJ16 := hide (HA15.out.a.irowA HJ15.out hC16); clear hA16 hC16 hI16 HWA)
                    | (go_at_call 13; refine (HWB.out _ HA16.out).mono ?_; rintro e' w17 ⟨v4, rfl, hA17, hC17, hI17⟩; have HA17 := hide hA17.symm; have HM17 := hide hI17; have HI17 := hide (HA16.out.b.irowA HI16.out hC17); have HJ17 := hide (HA16.out.b.irowA HJ16.out hC17); have HK17 := hide (HA16.out.b.irowA HK16.out hC17); clear hA17 hC17 hI17 HWB)
                    | (go_at_call 15; refine (HNU.out _ _).mono ?_; rintro e' wq ⟨rfl, hwq⟩; have hwq2 := hwq.symm; clear hwq; subst hwq2)
                    | (go_at_call 17; refine (HS4.out _ _ _ HI17.out HJ17.out).mono ?_; rintro e' w18 ⟨rfl, hb18⟩; have HA18 := hide (HA17.out.below hb18); have HI18 := hide (HI17.out.kept (w' := w18) fun g hg => hb18.block g (HI17.out.lt hg)); have HK18 := hide (HK17.out.kept (w' := w18) fun g hg => hb18.block g (HK17.out.lt hg)); have HM18 := hide (HM17.out.kept (w' := w18) fun g hg => hb18.block g (HM17.out.lt hg)); clear hb18 HS4)
                    | (go_at_call 17; refine (HS5.out _ _ _ HK18.out HM18.out).mono ?_; rintro e' w19 ⟨rfl, hb19⟩; have HA19 := hide (HA18.out.below hb19); have HI19 := hide (HI18.out.kept (w' := w19) fun g hg => hb19.block g (HI18.out.lt hg)); have HK19 := hide (HK18.out.kept (w' := w19) fun g hg => hb19.block g (HK18.out.lt hg)); clear hb19 HS5)
                    | (go_at_call 20; refine (HHX.out _ _ HI19.out).mono ?_; rintro e' wq ⟨rfl, hwq⟩; have hwq2 := hwq.symm; clear hwq; subst hwq2; clear HHX)
                    | (go_at_call 20; refine (HHY.out _ _ HK19.out).mono ?_; rintro e' wq ⟨rfl, hwq⟩; have hwq2 := hwq.symm; clear hwq; subst hwq2))
                  go_roundw
                  case rel => exact ⟨e9 + 1, by omega, by go_num, HA19.out⟩
                  case measure => simp [intOf]; omega
                · have hnl9 : ¬ (e9 : Int) < (n : Int) := by omega
                  have HFB := hide (HB0.out.trans (HA13.out.a.bel.mono HB0.out.size))
                  go_wp2_with fail
                  go_ret
                  exact ⟨rfl, HFB.out⟩
            | false =>
              have hwb := HWB.out rfl
              have hlt3 : ¬ wt9 < b := by omega
              go_wp2_with fail
              go_region_held3 (fun z => z.cell? ⟨w.heap.size, 1, none⟩ = some (.int .i64 b)) (first | exact y1 | exact y5 | exact y7 | assumption)
                (first
                  | (go_at_call 17; refine HS2.out.mono ?_; rintro e' w10 ⟨rfl, hb10⟩; have HA10 := hide (HAD.out.below hb10); have F10 : Hid (IRow w10 xv in9) := hide (F1D.out.kept fun g hg => hb10.block g (F1D.out.lt hg)); obtain ⟨y4, y5⟩ := HC0.out _ HA10.out.a.bel; clear hb10)
                  | (go_at_call 20; refine (HH2.out _ F10.out).mono ?_; rintro e' wq ⟨rfl, hwq⟩; have hwq2 := hwq.symm; clear hwq; subst hwq2)
                  | (go_at_call 21; refine (HWG.out _ HA10.out).mono ?_; rintro e' w12 ⟨rfl, hA12, hC12⟩; have HA12 := hide (HA10.out.askA hA12 hC12); obtain ⟨y6, y7⟩ := HC0.out _ HA12.out.a.bel; clear hA12 hC12))
              obtain ⟨z8, z9⟩ := HC0.out _ HA12.out.a.bel
              have HEQ2 : Hid (∀ l : List Int, decide (l = l) = true) := hide fun l => by simp
              clear HS2 HS3 HH2 HH3 HSM F1 F2 F1D F2D F3 HAD HA9 HWG HWB HEQ
              go_wp2_with fail
              go_loopw [17] (fun x wr => ∃ j : Nat, j ≤ n ∧ x = .int .i64 (j : Int) ∧ A2 w1 wr n b (i + 1) p bb Va9 L9 wt9 q cc Vb9 L9 wt9) (fun x _ => n - (intOf x).toNat)
              case atStart => exact ⟨0, Nat.zero_le _, rfl, HA12.out⟩
              case round =>
                obtain ⟨e9, he9, rfl, hA13⟩ := hrel
                have HA13 := hide hA13
                obtain ⟨d8, d9⟩ := HC0.out _ hA13.a.bel
                clear hA13 HA12 z8 z9
                by_cases hlt9 : e9 < n
                · obtain ⟨g8, g9⟩ := F6.out e9 hlt9
                  have G8 := hide g8
                  have G9 := hide g9
                  have HHA := hide (HA13.out.holders (by omega) hlt9)
                  have HHB := hide fun x (h : A2 w1 x n b (i + 1) p bb Va9 L9 wt9 q cc Vb9 L9 wt9) => h.symm.holders (by omega) hlt9
                  have HWA := hide fun x (h : A2 w1 x n b (i + 1) p bb Va9 L9 wt9 q cc Vb9 L9 wt9) => h.waiters (by omega) hlt9
                  have HWB := hide fun x (h : A2 w1 x n b (i + 1) p bb Va9 L9 wt9 q cc Vb9 L9 wt9) => h.symm.waiters (by omega) hlt9
                  have HSA := hide fun x a v l (h1 : IRow x a l) (h2 : IRow x v l) => same_any x a v l l h1 h2
                  have HHX := hide fun x a (h1 : IRow x a ((L9 (e9 * 2)).map Prod.fst)) => has_any x a ((L9 (e9 * 2)).map Prod.fst) o h1
                  have HHY := hide fun x a (h1 : IRow x a ((L9 (e9 * 2 + 1)).map Prod.fst)) => has_any x a ((L9 (e9 * 2 + 1)).map Prod.fst) o h1
                  have hnn : (modeOf (L9 (e9 * 2)) != modeOf (L9 (e9 * 2))) = false := by simp
                  rw [G8.out] at HHX
                  rw [G9.out] at HHY
                  generalize (L9 (e9 * 2)).map Prod.fst = lh at *
                  generalize (L9 (e9 * 2 + 1)).map Prod.fst = lw at *
                  generalize modeOf (L9 (e9 * 2)) = mo at *
                  have HS4 := hide fun x a v (h1 : IRow x a lh) (h2 : IRow x v lh) => HSA.out x a v lh h1 h2
                  have HS5 := hide fun x a v (h1 : IRow x a lw) (h2 : IRow x v lw) => HSA.out x a v lw h1 h2
                  rw [show decide (lh = lh) = true by simp] at HS4
                  rw [show decide (lw = lw) = true by simp] at HS5
                  clear g8 g9 G8 G9 F6 HSA HEQ2
                  go_wp2_with (first
                    | (go_at_call 14; refine HHA.out.mono ?_; rintro e' w14 ⟨v1, rfl, hA14, hC14, hI14⟩; have HA14 := hide hA14; have HI14 := hide hI14; clear hA14 hC14 hI14 HHA)
                    | (go_at_call 14; refine (HHB.out _ HA14.out).mono ?_; rintro e' w15 ⟨v2, rfl, hA15, hC15, hI15⟩; have HA15 := hide hA15.symm; have HJ15 := hide hI15; have HI15 := hide (HA14.out.b.irowA HI14.out hC15); clear hA15 hC15 hI15 HHB)
                    | (go_at_call 13; refine (HWA.out _ HA15.out).mono ?_; rintro e' w16 ⟨v3, rfl, hA16, hC16, hI16⟩; have HA16 := hide hA16; have HK16 := hide hI16; have HI16 := hide (HA15.out.a.irowA HI15.out hC16); have HJ16 := hide (HA15.out.a.irowA HJ15.out hC16); clear hA16 hC16 hI16 HWA)
                    | (go_at_call 13; refine (HWB.out _ HA16.out).mono ?_; rintro e' w17 ⟨v4, rfl, hA17, hC17, hI17⟩; have HA17 := hide hA17.symm; have HM17 := hide hI17; have HI17 := hide (HA16.out.b.irowA HI16.out hC17); have HJ17 := hide (HA16.out.b.irowA HJ16.out hC17); have HK17 := hide (HA16.out.b.irowA HK16.out hC17); clear hA17 hC17 hI17 HWB)
                    | (go_at_call 15; refine (HNU.out _ _).mono ?_; rintro e' wq ⟨rfl, hwq⟩; have hwq2 := hwq.symm; clear hwq; subst hwq2)
                    | (go_at_call 17; refine (HS4.out _ _ _ HI17.out HJ17.out).mono ?_; rintro e' w18 ⟨rfl, hb18⟩; have HA18 := hide (HA17.out.below hb18); have HI18 := hide (HI17.out.kept (w' := w18) fun g hg => hb18.block g (HI17.out.lt hg)); have HK18 := hide (HK17.out.kept (w' := w18) fun g hg => hb18.block g (HK17.out.lt hg)); have HM18 := hide (HM17.out.kept (w' := w18) fun g hg => hb18.block g (HM17.out.lt hg)); clear hb18 HS4)
                    | (go_at_call 17; refine (HS5.out _ _ _ HK18.out HM18.out).mono ?_; rintro e' w19 ⟨rfl, hb19⟩; have HA19 := hide (HA18.out.below hb19); have HI19 := hide (HI18.out.kept (w' := w19) fun g hg => hb19.block g (HI18.out.lt hg)); have HK19 := hide (HK18.out.kept (w' := w19) fun g hg => hb19.block g (HK18.out.lt hg)); clear hb19 HS5)
                    | (go_at_call 20; refine (HHX.out _ _ HI19.out).mono ?_; rintro e' wq ⟨rfl, hwq⟩; have hwq2 := hwq.symm; clear hwq; subst hwq2; clear HHX)
                    | (go_at_call 20; refine (HHY.out _ _ HK19.out).mono ?_; rintro e' wq ⟨rfl, hwq⟩; have hwq2 := hwq.symm; clear hwq; subst hwq2))
                  go_roundw
                  case rel => exact ⟨e9 + 1, by omega, by go_num, HA19.out⟩
                  case measure => simp [intOf]; omega
                · have hnl9 : ¬ (e9 : Int) < (n : Int) := by omega
                  have HFB := hide (HB0.out.trans (HA13.out.a.bel.mono HB0.out.size))
                  go_wp2_with fail
                  go_ret
                  exact ⟨rfl, HFB.out⟩
end Go.Proofs.Ytijfnacplikibaa
namespace Go.Proofs.Ytijfnacplikibaa
open Go.RowKit
set_option linter.unusedVariables false
set_option linter.unusedSimpArgs false
set_option maxRecDepth 20000

theorem box_set {w w2 : World} {a b : Int} (h : Below (w.alloc (.cells #[.int .i64 a, .int .i64 b] 23)).heap.size (w.alloc (.cells #[.int .i64 a, .int .i64 b] 23)) w2) (z : Int) : Below w.heap.size w (w2.setCell ⟨w.heap.size, 1, none⟩ (.int .i64 z)) ∧ w.heap.size < w2.heap.size ∧ w2.frozen? ⟨w.heap.size, 1, none⟩ = false ∧ (w2.cell? ⟨w.heap.size, 0, none⟩ = some (.int .i64 a) ∧ w2.cell? ⟨w.heap.size, 1, none⟩ = some (.int .i64 b)) ∧ ∀ x, Below (w2.setCell ⟨w.heap.size, 1, none⟩ (.int .i64 z)).heap.size (w2.setCell ⟨w.heap.size, 1, none⟩ (.int .i64 z)) x → x.cell? ⟨w.heap.size, 0, none⟩ = some (.int .i64 a) ∧ x.cell? ⟨w.heap.size, 1, none⟩ = some (.int .i64 z) := by
  have hg : w2.heap[w.heap.size]? = some (.cells #[.int .i64 a, .int .i64 b] 23 (0, 0)) := (h.block _ (by simp)).trans (Go.heap_alloc_new w _)
  have hlt := (Array.getElem?_eq_some_iff.1 hg).1
  have hg2 : (w2.setCell ⟨w.heap.size, 1, none⟩ (.int .i64 z)).heap[w.heap.size]? = some (.cells #[.int .i64 a, .int .i64 z] 23 (0, 0)) := Go.heap_setCell_same w2 _ 1 _ 23 _ hg
  have hb0 : Below w.heap.size w w2 := ((Below.refl w.heap.size w).alloc (Nat.le_refl _) (.cells #[.int .i64 a, .int .i64 b] 23)).trans (h.mono (by simp))
  refine ⟨hb0.setCell (Nat.le_refl _) _, hlt, frozen_of_row _ _ _ _ 23 hg, ⟨by rw [cell_of_row _ _ _ _ _ _ hg]; rfl, by rw [cell_of_row _ _ _ _ _ _ hg]; rfl⟩, fun x hx => ?_⟩
  have hgx := (hx.block w.heap.size (by rw [World.size_setCell]; exact hlt)).trans hg2
  exact ⟨by rw [cell_of_row _ _ _ _ _ _ hgx]; rfl, by rw [cell_of_row _ _ _ _ _ _ hgx]; rfl⟩
theorem op_cells {x : World} {g : Nat} {k : Int} {s : Bool} {e m o : Int} (h : x.heap[g]? = some (.cells #[.int .i64 k, .bool s, .int .i64 e, .int .i64 m, .int .i64 o] 30 (0, 0))) : (x.cell? ⟨g, 0, none⟩ = some (.int .i64 k) ∧ x.cell? ⟨g, 1, none⟩ = some (.bool s)) ∧ x.cell? ⟨g, 2, none⟩ = some (.int .i64 e) ∧ x.cell? ⟨g, 3, none⟩ = some (.int .i64 m) ∧ x.cell? ⟨g, 4, none⟩ = some (.int .i64 o) :=
  ⟨⟨by rw [cell_of_row _ _ _ _ _ _ h]; rfl, by rw [cell_of_row _ _ _ _ _ _ h]; rfl⟩, by rw [cell_of_row _ _ _ _ _ _ h]; rfl, by rw [cell_of_row _ _ _ _ _ _ h]; rfl, by rw [cell_of_row _ _ _ _ _ _ h]; rfl⟩
section
variable {w x : World} {n : Nat} {ws : Int} {B : Nat} {pa ba : Nat} {Va : Nat → Value} {La : LL} {wta : Int} {pb bb : Nat} {Vb : Nat → Value} {Lb : LL} {wtb : Int}
theorem A2.acquireK (h : A2 w x n ws B pa ba Va La wta pb bb Vb Lb wtb) (hB : B ≤ 3900000000000) (e md o : Int) : Calls Try.prog 12 #[.pointer (some ⟨pa, 0, none⟩), .int .i64 e, .int .i64 md, .int .i64 o] x fun e' y => e' = .returned (.tuple #[.bool (acq n La ws wta e o md).gr, .int .i64 (acq n La ws wta e o md).err]) ∧ ∃ Va', A2 w y n ws (B + 1) pa ba Va' (acq n La ws wta e o md).L (acq n La ws wta e o md).wt pb bb Vb Lb wtb ∧ ∀ g, g < x.heap.size → ¬ TU pa ba n Va g → y.heap[g]? = x.heap[g]? := by
  refine (h.a.acquire (by omega) e md o).mono ?_
  rintro e' y ⟨rfl, V', hA, hTr⟩
  exact ⟨rfl, V', h.stepF hA (Nat.le_succ _) hTr, fun g h1 h2 => hTr.chg.keep g h1 fun hu => hu.elim h2 id⟩
theorem A2.releaseK (h : A2 w x n ws B pa ba Va La wta pb bb Vb Lb wtb) (hB : B ≤ 3900000000000) (e o : Int) : Calls Try.prog 16 #[.pointer (some ⟨pa, 0, none⟩), .int .i64 e, .int .i64 o] x fun e' y => ∃ v Va', e' = .returned (.tuple #[v, .int .i64 (rls n La wta e o).err]) ∧ A2 w y n ws B pa ba Va' (rls n La wta e o).L (rls n La wta e o).wt pb bb Vb Lb wtb ∧ (∀ g, g < x.heap.size → ¬ TU pa ba n Va g → y.heap[g]? = x.heap[g]?) ∧ IRow y v (rls n La wta e o).inn ∧ (∀ u l, IRow x u l → IRow y u l) := by
  refine (h.a.release hB e o).mono ?_
  rintro e' y ⟨v, V', rfl, hA, hTr, hI, hN⟩
  exact ⟨v, V', rfl, h.stepF hA (Nat.le_refl _) hTr, fun g h1 h2 => hTr.chg.keep g h1 fun hu => hu.elim h2 id, hI, fun u l hu => h.a.irow hu hTr⟩
end
set_option maxHeartbeats 4000000 in
theorem apart_law (w : World) (a b e : Int) (v : Value) (os : List OpV) (hv : OSl w v os) (hl : os.length ≤ 3518437208883) : Calls Try.prog 4 #[.agg #[.int .i64 a, .int .i64 b], v, .int .i64 e] w fun e' w' => e' = .returned (.bool true) ∧ Below w.heap.size w w' := by
  have HB0 := hide ((Below.refl w.heap.size w).alloc (Nat.le_refl _) (.cells #[.int .i64 a, .int .i64 b] 23))
  have HM := hide fun x => may_any x a b
  have HC0 := hide (box_at (w := w) (a := a) (b := b))
  obtain ⟨av, cv, rfl, hv1, hv2, hv3⟩ := hv
  unfold maxLen at hv2
  cases hk : okN a b with
  | false =>
    rw [hk] at HM
    clear hv3
    go_enter Try.func4, Try.ntmps4
    go_wp2_with (go_at_call 9; refine (HM.out _).mono ?_; rintro e' w2 ⟨rfl, hb2⟩; have HB2 := hide (HB0.out.trans (hb2.mono (by simp))); clear HM hb2)
    go_ret
    exact ⟨rfl, HB2.out⟩
  | true =>
    rw [hk] at HM
    obtain ⟨h1, h2, h3, h4⟩ := okN_yes hk
    obtain ⟨n, rfl⟩ : ∃ n : Nat, a = (n : Int) := ⟨a.toNat, by omega⟩
    by_cases hgo : 0 ≤ e ∧ e < (n : Int) ∧ os.length ≤ 512
    · obtain ⟨ex, rfl⟩ : ∃ ex : Nat, e = (ex : Int) := ⟨e.toNat, by omega⟩
      have hk2 : okN n 512 = true := by simp [okN]; omega
      have HTB := hide fun x => table_any x n 512 hk2
      have HOS0 := hide fun (w1 : World) (h : Below w.heap.size w w1) => ops_at h hv3
      have hex : ex < n := by omega
      have hN512 : os.length ≤ 512 := hgo.2.2
      have hx0 : ¬ (ex : Int) < 0 := by omega
      have hx1 : ¬ (n : Int) ≤ (ex : Int) := by omega
      have hx2 : ¬ (512 : Int) < (os.length : Int) := by omega
      clear hv3 hk hk2 hgo
      generalize hN : os.length = N at *
      clear hN
      go_enter Try.func4, Try.ntmps4
      go_wp2_with (go_at_call 9; refine (HM.out _).mono ?_; rintro e' w2 ⟨rfl, hb2⟩; have HBS := hide (box_set hb2 512); obtain ⟨-, -, fz, ⟨c0, c1⟩, -⟩ := HBS.out; clear HM hb2)
      obtain ⟨hb1, -, -, -, hbx⟩ := HBS.out
      have HB1 := hide hb1
      have HCX := hide hbx
      clear HB0 HC0 HBS hb1 hbx
      generalize w2.setCell ⟨w.heap.size, 1, none⟩ (.int .i64 512) = w1 at *
      have HOS := hide (HOS0.out w1 HB1.out)
      have HW5 : Hid ((0 : Int) ≤ 512 ∧ (512 : Int) ≤ 512) := hide ⟨by omega, by omega⟩
      obtain ⟨x0, x1⟩ := HCX.out w1 (Below.refl _ _)
      clear HOS0
      go_wp2_with (first
        | (go_at_call 10; refine (HTB.out w1).mono ?_; rintro e' w3 ⟨p, bb, rfl, hT3, hb3, hp3, hbb3⟩; have HAS := hide (as_new (w := w1) hT3 hb3 hp3 hbb3 HW5.out); obtain ⟨x2, x3⟩ := HCX.out _ HAS.out.bel; clear hT3 hb3 hp3 hbb3)
        | (go_at_call 10; refine (HTB.out w3).mono ?_; rintro e' w4 ⟨q, cc, rfl, hT4, hb4, hp4, hbb4⟩; have HA2 := hide (a2_new HAS.out hT4 hb4 hp4 hbb4); clear HTB hT4 hb4 hp4 hbb4 HAS))
      go_loopw [10] (fun x wr => ∃ (i : Nat) (Va Vb : Nat → Value) (La Lb : LL) (wa wb : Int), i ≤ N ∧ x = .int .i64 (i : Int) ∧ A2 w1 wr n 512 i p bb Va La wa q cc Vb Lb wb ∧ Ag La Lb ex ∧ Few i La wa ∧ Few i Lb wb) (fun x _ => N - (intOf x).toNat)
      case atStart => exact ⟨0, _, _, _, _, _, _, Nat.zero_le _, rfl, HA2.out, ⟨rfl, rfl⟩, ⟨fun _ => ⟨rfl, rfl⟩, .inr rfl⟩, ⟨fun _ => ⟨rfl, rfl⟩, .inr rfl⟩⟩
      case round =>
        obtain ⟨i, Va, Vb, La, Lb, wa, wb, hi, rfl, hA, hag, hfa, hfb⟩ := hrel
        have HA := hide hA
        have HAG := hide hag
        have HFA := hide hfa
        have HFB := hide hfb
        clear hA HA2 hag hfa hfb
        by_cases hlt : i < N
        · obtain ⟨g, off, rfl, ⟨e0, e1⟩, e2, e3, e4⟩ := HOS.out _ HA.out.a.bel i hlt
          generalize os.getD i default = s at *
          obtain ⟨kind, snd, ee, md, oo⟩ := s
          dsimp only at e0 e1 e2 e3 e4
          have hii : 0 ≤ (i : Int) ∧ (i : Int) < (N : Int) := ⟨by omega, by omega⟩
          have hb9 := (Below.refl wr.heap.size wr).alloc (Nat.le_refl _) (.cells #[.int .i64 kind, .bool snd, .int .i64 ee, .int .i64 md, .int .i64 oo] 30)
          have HAX := hide (HA.out.below hb9)
          clear hb9
          have HOB : Hid ((wr.alloc (.cells #[.int .i64 kind, .bool snd, .int .i64 ee, .int .i64 md, .int .i64 oo] 30)).heap[wr.heap.size]? = some (.cells #[.int .i64 kind, .bool snd, .int .i64 ee, .int .i64 md, .int .i64 oo] 30 (0, 0))) := hide (Go.heap_alloc_new wr _)
          have HLT : Hid (wr.heap.size < (wr.alloc (.cells #[.int .i64 kind, .bool snd, .int .i64 ee, .int .i64 md, .int .i64 oo] 30)).heap.size) := hide (by simp)
          have HTA : Hid (¬ TU p bb n Va wr.heap.size) := hide fun hu => Nat.lt_irrefl _ (HA.out.a.t.lt _ hu)
          have HTB : Hid (¬ TU q cc n Vb wr.heap.size) := hide fun hu => Nat.lt_irrefl _ (HA.out.b.t.lt _ hu)
          have hwa0 : 0 ≤ wa := by have := HA.out.a.wf.sum; omega
          have hwb0 : 0 ≤ wb := by have := HA.out.b.wf.sum; omega
          by_cases hee : ee = (ex : Int)
          · subst hee
            have z1 : ((ex : Int) != (ex : Int)) = false := by simp
            by_cases k3 : kind = 3
            · subst k3
              have HN := hide (HAX.out.mono (Nat.le_succ i))
              go_wp2_with fail
              go_roundw
              case rel => exact ⟨i + 1, _, _, _, _, _, _, by omega, by go_num, HN.out, HAG.out, HFA.out.same, HFB.out.same⟩
              case measure => simp [intOf]; omega
            · have z3 : (kind == 3) = false := by simpa using k3
              by_cases k1 : kind = 1
              · subst k1
                have HQA := hide (HAX.out.acquireK (by omega) (ex : Int) md oo)
                have HQB := hide fun y V' L' wt' (h : A2 w1 y n 512 (i + 1) p bb V' L' wt' q cc Vb Lb wb) => h.symm.acquireK (by omega) (ex : Int) md oo
                obtain ⟨q1, q2, q3⟩ := acq_ag (n := n) (La := La) (Lb := Lb) (ws := 512) (wa := wa) (wb := wb) (e := ex) (o := oo) (md := md) hex HAG.out (HFA.out.lt (by omega)) (HFB.out.lt (by omega))
                rw [← q1, ← q2] at HQB
                have HGA := hide q3
                have HWA := hide (acq_wf HA.out.a.wf (ex : Int) oo md)
                have HWB := hide (acq_wf HA.out.b.wf (ex : Int) oo md)
                have HFA2 := hide (HFA.out.acq (n := n) (ws := 512) hwa0 (ex : Int) oo md)
                have HFB2 := hide (HFB.out.acq (n := n) (ws := 512) hwb0 (ex : Int) oo md)
                clear q1 q2 q3 HFA HFB HAG HAX
                generalize acq n La 512 wa (ex : Int) oo md = R1 at *
                generalize acq n Lb 512 wb (ex : Int) oo md = R2 at *
                obtain ⟨er1, gr1, L1, wt1⟩ := R1
                obtain ⟨er2, gr2, L2, wt2⟩ := R2
                dsimp only at HQA HQB HGA HWA HWB HFA2 HFB2
                have zg : (gr1 != gr1) = false := by simp
                have ze : (er1 != er1) = false := by simp
                go_wp2_with (first
                  | (go_at_call 12; refine HQA.out.mono ?_; rintro e' w5 ⟨rfl, V5, hA5, hk5⟩; have HA5 := hide hA5; have HO5 := hide ((hk5 _ HLT.out HTA.out).trans HOB.out); obtain ⟨⟨f0, f1⟩, f2, f3, f4⟩ := op_cells HO5.out; clear hA5 hk5 HQA HA)
                  | (go_at_call 12; refine (HQB.out _ _ _ _ HA5.out).mono ?_; rintro e' w6 ⟨rfl, V6, hA6, hk6⟩; have HA6 := hide (hA6.symm.rebound HWA.out HWB.out); obtain ⟨⟨f5, f6⟩, f7, f8, f9⟩ := op_cells ((hk6 _ (World.block_lt_of_cell? _ _ f0) HTB.out).trans HO5.out); clear hA6 hk6 HQB HA5))
                go_roundw
                case rel => exact ⟨i + 1, V5, V6, _, _, _, _, by omega, by go_num, HA6.out, HGA.out, HFA2.out, HFB2.out⟩
                case measure => simp [intOf]; omega
              · have z4 : (kind == 1) = false := by simpa using k1
                by_cases k2 : kind = 2
                · subst k2
                  have HQA := hide ((HAX.out.mono (Nat.le_succ i)).releaseK (by omega) (ex : Int) oo)
                  have HQB := hide fun y V' L' wt' (h : A2 w1 y n 512 (i + 1) p bb V' L' wt' q cc Vb Lb wb) => h.symm.releaseK (by omega) (ex : Int) oo
                  obtain ⟨q1, q2, q3⟩ := rls_ag (n := n) (La := La) (Lb := Lb) (wa := wa) (wb := wb) (e := ex) (o := oo) hex HAG.out
                  rw [← q1, ← q2] at HQB
                  have HGA := hide q3
                  have HFA2 := hide (HFA.out.rls (n := n) (rls_wt0 HA.out.a.wf) (ex : Int) oo)
                  have HFB2 := hide (HFB.out.rls (n := n) (rls_wt0 HA.out.b.wf) (ex : Int) oo)
                  clear q1 q2 q3 HFA HFB HAG HAX
                  generalize rls n La wa (ex : Int) oo = R1 at *
                  generalize rls n Lb wb (ex : Int) oo = R2 at *
                  obtain ⟨er1, in1, L1, wt1⟩ := R1
                  obtain ⟨er2, in2, L2, wt2⟩ := R2
                  dsimp only at HQA HQB HGA HFA2 HFB2
                  have ze : (er1 != er1) = false := by simp
                  have HSA := hide fun x a v (h1 : IRow x a in1) (h2 : IRow x v in1) => same_any x a v in1 in1 h1 h2
                  rw [show decide (in1 = in1) = true by simp] at HSA
                  go_wp2_with (first
                    | (go_at_call 16; refine HQA.out.mono ?_; rintro e' w5 ⟨v5, V5, rfl, hA5, hk5, hI5, -⟩; have HA5 := hide hA5; have HI5 := hide hI5; have HO5 := hide ((hk5 _ HLT.out HTA.out).trans HOB.out); obtain ⟨⟨f0, f1⟩, f2, f3, f4⟩ := op_cells HO5.out; clear hA5 hk5 hI5 HQA HA)
                    | (go_at_call 16; refine (HQB.out _ _ _ _ HA5.out).mono ?_; rintro e' w6 ⟨v6, V6, rfl, hA6, -, hI6, hu6⟩; have HA6 := hide hA6.symm; have HI6 := hide hI6; have HI5 := hide (hu6 _ _ HI5.out); clear hA6 hI6 hu6 HQB HA5)
                    | (go_at_call 17; refine (HSA.out _ _ _ HI5.out HI6.out).mono ?_; rintro e' w7 ⟨rfl, hb7⟩; have HA7 := hide (HA6.out.below hb7); clear hb7 HSA))
                  go_roundw
                  case rel => exact ⟨i + 1, V5, V6, _, _, _, _, by omega, by go_num, HA7.out, HGA.out, HFA2.out, HFB2.out⟩
                  case measure => simp [intOf]; omega
                · have z5 : (kind == 2) = false := by simpa using k2
                  have HN := hide (HAX.out.mono (Nat.le_succ i))
                  go_wp2_with fail
                  go_roundw
                  case rel => exact ⟨i + 1, _, _, _, _, _, _, by omega, by go_num, HN.out, HAG.out, HFA.out.same, HFB.out.same⟩
                  case measure => simp [intOf]; omega
          · have z1 : (ee != (ex : Int)) = true := by simpa using hee
            by_cases k3 : kind = 3
            · subst k3
              have HN := hide (HAX.out.mono (Nat.le_succ i))
              go_wp2_with fail
              go_roundw
              case rel => exact ⟨i + 1, _, _, _, _, _, _, by omega, by go_num, HN.out, HAG.out, HFA.out.same, HFB.out.same⟩
              case measure => simp [intOf]; omega
            · have z3 : (kind != 3) = true := by simpa using k3
              have HCL := hide (HAX.out.call (by omega) kind snd ee md oo)
              have HGA := hide (cal_other (n := n) (L := La) (ws := 512) (wt := wa) (kind := kind) (e := ee) (md := md) (o := oo) hex hee k3)
              have HFA2 := hide (HFA.out.cal HA.out.a.wf kind ee md oo k3)
              generalize cal n La 512 wa kind ee md oo = R1 at *
              obtain ⟨L1, wt1⟩ := R1
              dsimp only at HCL HGA HFA2
              have HGB : Hid (Ag L1 Lb ex) := hide ⟨HGA.out.1.trans HAG.out.1, HGA.out.2.trans HAG.out.2⟩
              go_wp2_with (go_at_call 11; refine HCL.out.mono ?_; rintro e' w5 ⟨rfl, V5, hA5⟩; have HA5 := hide hA5; clear hA5 HCL)
              go_roundw
              case rel => exact ⟨i + 1, V5, _, _, _, _, _, by omega, by go_num, HA5.out, HGB.out, HFA2.out, HFB.out.same⟩
              case measure => simp [intOf]; omega
        · have hnl : ¬ (i : Int) < (N : Int) := by omega
          have HQA := hide (HA.out.acquire (by omega) (ex : Int) 2 7)
          have HQB := hide fun y V' L' wt' (h : A2 w1 y n 512 (i + 1) p bb V' L' wt' q cc Vb Lb wb) => h.symm.acquire (by omega) (ex : Int) 2 7
          obtain ⟨q1, q2, q3⟩ := acq_ag (n := n) (La := La) (Lb := Lb) (ws := 512) (wa := wa) (wb := wb) (e := ex) (o := 7) (md := 2) hex HAG.out (HFA.out.lt (by omega)) (HFB.out.lt (by omega))
          rw [← q1, ← q2] at HQB
          have HGA := hide q3
          have HNE := hide (acq_hold HA.out.a.ok 512 wa 7 hex)
          clear q1 q2 q3 HFA HFB HAG HOS
          generalize acq n La 512 wa (ex : Int) 7 2 = R1 at *
          generalize acq n Lb 512 wb (ex : Int) 7 2 = R2 at *
          obtain ⟨er1, gr1, L1, wt1⟩ := R1
          obtain ⟨er2, gr2, L2, wt2⟩ := R2
          dsimp only at HQA HQB HGA HNE
          have HHA := hide fun x V' V'' (h : A2 w1 x n 512 (i + 2) p bb V' L1 wt1 q cc V'' L2 wt2) => h.holders (by omega) hex
          have HHB := hide fun x V' V'' (h : A2 w1 x n 512 (i + 2) p bb V' L1 wt1 q cc V'' L2 wt2) => h.symm.holders (by omega) hex
          have HWA := hide fun x V' V'' (h : A2 w1 x n 512 (i + 2) p bb V' L1 wt1 q cc V'' L2 wt2) => h.waiters (by omega) hex
          have HWB := hide fun x V' V'' (h : A2 w1 x n 512 (i + 2) p bb V' L1 wt1 q cc V'' L2 wt2) => h.symm.waiters (by omega) hex
          rw [← HGA.out.1] at HHB
          rw [← HGA.out.2] at HWB
          have hpos : (0 : Int) < (((L1 (ex * 2)).map Prod.fst).length : Int) := by
            have := List.length_pos_iff.2 HNE.out
            rw [List.length_map]; omega
          clear HGA HNE
          generalize (L1 (ex * 2)).map Prod.fst = lh at *
          generalize (L1 (ex * 2 + 1)).map Prod.fst = lw at *
          generalize modeOf (L1 (ex * 2)) = mo at *
          have hmm : (mo == mo) = true := by simp
          have hgg : (gr1 == gr1) = true := by simp
          have hrr : (er1 == er1) = true := by simp
          have HSA := hide fun x a v l (h1 : IRow x a l) (h2 : IRow x v l) => same_any x a v l l h1 h2
          have HS4 := hide fun x a v (h1 : IRow x a lh) (h2 : IRow x v lh) => HSA.out x a v lh h1 h2
          have HS5 := hide fun x a v (h1 : IRow x a lw) (h2 : IRow x v lw) => HSA.out x a v lw h1 h2
          rw [show decide (lh = lh) = true by simp] at HS4
          rw [show decide (lw = lw) = true by simp] at HS5
          have HNU := hide fun x z => num_any x z
          clear HSA
          go_wp2_with (first
            | (go_at_call 12; refine HQA.out.mono ?_; rintro e' w5 ⟨rfl, V5, hA5⟩; have HA5 := hide hA5; clear hA5 HQA HA)
            | (go_at_call 12; refine (HQB.out _ _ _ _ HA5.out).mono ?_; rintro e' w6 ⟨rfl, V6, hA6⟩; have HA6 := hide hA6.symm; clear hA6 HQB HA5)
            | (go_at_call 14; refine (HHA.out _ _ _ HA6.out).mono ?_; rintro e' w14 ⟨v1, rfl, hA14, hC14, hI14⟩; have HA14 := hide hA14; have HI14 := hide hI14; clear hA14 hC14 hI14 HHA)
            | (go_at_call 14; refine (HHB.out _ _ _ HA14.out).mono ?_; rintro e' w15 ⟨v2, rfl, hA15, hC15, hI15⟩; have HA15 := hide hA15.symm; have HJ15 := hide hI15; have HI15 := hide (HA14.out.b.irowA HI14.out hC15); clear hA15 hC15 hI15 HHB)
            | (go_at_call 13; refine (HWA.out _ _ _ HA15.out).mono ?_; rintro e' w16 ⟨v3, rfl, hA16, hC16, hI16⟩; have HA16 := hide hA16; have HK16 := hide hI16; have HI16 := hide (HA15.out.a.irowA HI15.out hC16); have HJ16 := hide (HA15.out.a.irowA HJ15.out hC16); clear hA16 hC16 hI16 HWA)
            | (go_at_call 13; refine (HWB.out _ _ _ HA16.out).mono ?_; rintro e' w17 ⟨v4, rfl, hA17, hC17, hI17⟩; have HA17 := hide hA17.symm; have HM17 := hide hI17; have HI17 := hide (HA16.out.b.irowA HI16.out hC17); have HJ17 := hide (HA16.out.b.irowA HJ16.out hC17); have HK17 := hide (HA16.out.b.irowA HK16.out hC17); obtain ⟨a1, c1, ev, -, -⟩ := rowForm HI17.out; subst ev; clear hA17 hC17 hI17 HWB HI14 HI15 HI16)
            | (go_at_call 15; refine (HNU.out _ _).mono ?_; rintro e' wq ⟨rfl, hwq⟩; have hwq2 := hwq.symm; clear hwq; subst hwq2)
            | (go_at_call 17; refine (HS4.out _ _ _ HI17.out HJ17.out).mono ?_; rintro e' w18 ⟨rfl, hb18⟩; have HA18 := hide (HA17.out.below hb18); have HK18 := hide (HK17.out.kept (w' := w18) fun g hg => hb18.block g (HK17.out.lt hg)); have HM18 := hide (HM17.out.kept (w' := w18) fun g hg => hb18.block g (HM17.out.lt hg)); clear hb18 HS4)
            | (go_at_call 17; refine (HS5.out _ _ _ HK18.out HM18.out).mono ?_; rintro e' w19 ⟨rfl, hb19⟩; have HA19 := hide (HA18.out.below hb19); have HFB := hide (HB1.out.trans (HA19.out.a.bel.mono HB1.out.size)); clear hb19 HS5))
          go_ret
          exact ⟨rfl, HFB.out⟩
    · have hx : e < 0 ∨ (¬ e < 0 ∧ (n : Int) ≤ e) ∨ (¬ e < 0 ∧ ¬ (n : Int) ≤ e ∧ (512 : Int) < (os.length : Int)) := by omega
      clear hv3 hk hgo
      generalize hN : os.length = N at *
      clear hN
      rcases hx with hx | ⟨hx, hy⟩ | ⟨hx, hy, hz⟩
      all_goals
        go_enter Try.func4, Try.ntmps4
        go_wp2_with (go_at_call 9; refine (HM.out _).mono ?_; rintro e' w2 ⟨rfl, hb2⟩; have HB2 := hide (HB0.out.trans (hb2.mono (by simp))); obtain ⟨c0, c1⟩ := HC0.out _ hb2; clear HM hb2)
        go_ret
        exact ⟨rfl, HB2.out⟩
end Go.Proofs.Ytijfnacplikibaa
namespace Go.Proofs.Ytijfnacplikibaa
open Go.RowKit
set_option linter.unusedVariables false
set_option linter.unusedSimpArgs false
set_option maxRecDepth 20000

/-- a new ledger -/
theorem fs_new {w1 x : World} {p bb n ex : Nat} (h : AS w1 x p bb n nilVV nilLL 512 0 0) : FS w1 (x.alloc (.cells #[.slice none 0 0, .slice none 0 0, .slice none 0 0] 46)) p bb n x.heap.size ex nilVV (.slice none 0 0) (.slice none 0 0) (.slice none 0 0) nilLL 0 0 := by
  refine ⟨h.below (alloc_calm _ _), Go.heap_alloc_new _ _, .inl ⟨rfl, rfl⟩, .inl ⟨rfl, rfl⟩, .inl ⟨rfl, rfl⟩, ?_, fun g e => by simp [Value.ownBlock] at e, fun g e => by simp [Value.ownBlock] at e⟩
  rintro g (rfl | e | e | e)
  · exact h.bel.size
  · simp [Value.ownBlock] at e
  · simp [Value.ownBlock] at e
  · simp [Value.ownBlock] at e
theorem same_yes {x : World} {u v : Value} {l : List Int} (h1 : IRow x u l) (h2 : ORow x v l) : Calls Try.prog 17 #[u, v] x fun e w' => e = .returned (.bool true) ∧ Below x.heap.size x w' := by
  refine (sameO_drew x u v l l (ORow.ofI h1) h2).mono fun e w' h => ?_
  obtain ⟨h1, k, h2⟩ := h
  refine ⟨h1.trans (by simp), ?_⟩
  rw [h2]
  exact drewN_calm x k
set_option maxHeartbeats 4000000 in
theorem fair_law (w : World) (a b e : Int) (v : Value) (os : List OpV) (hv : OSl w v os) (hl : os.length ≤ 3518437208883) : Calls Try.prog 5 #[.agg #[.int .i64 a, .int .i64 b], .int .i64 e, v] w fun e' w' => e' = .returned (.bool true) ∧ Below w.heap.size w w' := by
  have HB0 := hide ((Below.refl w.heap.size w).alloc (Nat.le_refl _) (.cells #[.int .i64 a, .int .i64 b] 23))
  have HM := hide fun x => may_any x a b
  have HC0 := hide (box_at (w := w) (a := a) (b := b))
  obtain ⟨av, cv, rfl, hv1, hv2, hv3⟩ := hv
  unfold maxLen at hv2
  cases hk : okN a b with
  | false =>
    rw [hk] at HM
    clear hv3
    go_enter Try.func5, Try.ntmps5
    go_wp2_with (go_at_call 9; refine (HM.out _).mono ?_; rintro e' w2 ⟨rfl, hb2⟩; have HB2 := hide (HB0.out.trans (hb2.mono (by simp))); clear HM hb2)
    go_ret
    exact ⟨rfl, HB2.out⟩
  | true =>
    rw [hk] at HM
    obtain ⟨h1, h2, h3, h4⟩ := okN_yes hk
    obtain ⟨n, rfl⟩ : ∃ n : Nat, a = (n : Int) := ⟨a.toNat, by omega⟩
    by_cases hgo : 0 ≤ e ∧ e < (n : Int) ∧ os.length ≤ 512
    · obtain ⟨ex, rfl⟩ : ∃ ex : Nat, e = (ex : Int) := ⟨e.toNat, by omega⟩
      have hk2 : okN n 512 = true := by simp [okN]; omega
      have HTB := hide fun x => table_any x n 512 hk2
      have HOS0 := hide fun (w1 : World) (h : Below w.heap.size w w1) => ops_at h hv3
      have hex : ex < n := by omega
      have hN512 : os.length ≤ 512 := hgo.2.2
      have hx0 : ¬ (ex : Int) < 0 := by omega
      have hx1 : ¬ (n : Int) ≤ (ex : Int) := by omega
      have hx2 : ¬ (512 : Int) < (os.length : Int) := by omega
      clear hv3 hk hk2 hgo
      generalize hN : os.length = N at *
      clear hN
      go_enter Try.func5, Try.ntmps5
      go_wp2_with (go_at_call 9; refine (HM.out _).mono ?_; rintro e' w2 ⟨rfl, hb2⟩; have HBS := hide (box_set hb2 512); obtain ⟨-, -, fz, ⟨c0, c1⟩, -⟩ := HBS.out; clear HM hb2)
      obtain ⟨hb1, -, -, -, hbx⟩ := HBS.out
      have HB1 := hide hb1
      have HCX := hide hbx
      clear HB0 HC0 HBS hb1 hbx
      generalize w2.setCell ⟨w.heap.size, 1, none⟩ (.int .i64 512) = w1 at *
      have HOS := hide (HOS0.out w1 HB1.out)
      have HW5 : Hid ((0 : Int) ≤ 512 ∧ (512 : Int) ≤ 512) := hide ⟨by omega, by omega⟩
      obtain ⟨x0, x1⟩ := HCX.out w1 (Below.refl _ _)
      clear HOS0
      go_wp2_with (go_at_call 10; refine (HTB.out w1).mono ?_; rintro e' w3 ⟨p, bb, rfl, hT3, hb3, hp3, hbb3⟩; have HAS := hide (as_new (w := w1) hT3 hb3 hp3 hbb3 HW5.out); have HFS := hide (fs_new (ex := ex) HAS.out); clear hT3 hb3 hp3 hbb3)
      obtain ⟨Q, hQ⟩ : ∃ Q, w3.heap.size = Q := ⟨_, rfl⟩
      rw [hQ] at HFS ⊢
      clear hQ HAS HTB
      generalize w3.alloc (.cells #[.slice none 0 0, .slice none 0 0, .slice none 0 0] 46) = w4 at *
      go_loopw [10] (fun y wr => ∃ i : Nat, i ≤ N ∧ y = .int .i64 (i : Int) ∧ Hid (∃ V wv mv hv L wt, FS w1 wr p bb n Q ex V wv mv hv L wt i ∧ Few i L wt)) (fun y _ => N - (intOf y).toNat)
      case atStart => exact ⟨0, Nat.zero_le _, rfl, hide ⟨_, _, _, _, _, _, HFS.out, ⟨fun _ => ⟨rfl, rfl⟩, .inr rfl⟩⟩⟩
      case round =>
        clear HFS
        obtain ⟨i, hi, rfl, HI⟩ := hrel
        obtain ⟨V, wv, mv, hv, L, wt, hfs, hfw⟩ := HI.out
        have HS := hide hfs
        have HF := hide hfw
        clear HI hfs hfw
        by_cases hlt : i < N
        · obtain ⟨g, off, rfl, ⟨e0, e1⟩, e2, e3, e4⟩ := HOS.out _ HS.out.a.bel i hlt
          generalize os.getD i default = s at *
          obtain ⟨kind, snd, ee, md, oo⟩ := s
          dsimp only at e0 e1 e2 e3 e4
          have hii : 0 ≤ (i : Int) ∧ (i : Int) < (N : Int) := ⟨by omega, by omega⟩
          have HFA := hide (fair_any (HS.out.below (alloc_calm wr (.cells #[.int .i64 kind, .bool snd, .int .i64 (ex : Int), .int .i64 md, .int .i64 oo] 30))) HF.out (by omega) hex kind md oo snd)
          have HFB := hide (fair_any (HS.out.below ((alloc_calm wr (.cells #[.int .i64 kind, .bool snd, .int .i64 ee, .int .i64 md, .int .i64 oo] 30)).setCell (p := ⟨wr.heap.size, 2, none⟩) (Nat.le_refl _) (.int .i64 (ex : Int)))) HF.out (by omega) hex kind md oo snd)
          go_wp2_with (go_at_call 18; (first | with_reducible refine HFA.out.mono ?_ | with_reducible refine HFB.out.mono ?_); rintro e' w5 ⟨rfl, V5, wv5, mv5, hv5, L5, wt5, hS5, hF5⟩; have HS5 := hide hS5; have HF5 := hide hF5; clear hS5 hF5 HFA HFB)
          go_roundw
          case rel => exact ⟨i + 1, by omega, by go_num, hide ⟨_, _, _, _, _, _, HS5.out, HF5.out⟩⟩
          case measure => simp [intOf]; omega
        · have hnl : ¬ (i : Int) < (N : Int) := by omega
          have HHA := hide (HS.out.a.holders (by omega) hex)
          have c2 := HS.out.l.c2
          have HWA := hide fun x (h : AS w1 x p bb n V L 512 wt i) => h.waiters (by omega) hex
          have HNU := hide fun x z => num_any x z
          clear HF HOS
          go_wp2_with (first
            | (go_at_call 14; refine HHA.out.mono ?_; rintro e' w5 ⟨v1, rfl, hA5, hC5, hI5, -⟩; have HA5 := hide hA5; have HL5 := hide (HS.out.l.ask HS.out.a.t hC5); have HI5 := hide hI5; clear hA5 hC5 hI5 HHA)
            | (go_at_call 13; refine (HWA.out _ HA5.out).mono ?_; rintro e' w6 ⟨v2, rfl, hA6, hC6, hI6, -⟩; have HA6 := hide hA6; have HL6 := hide (HL5.out.ask HA5.out.t hC6); have HJ6 := hide hI6; have HI6 := hide (HA5.out.irowA HI5.out hC6); have k0 := HL6.out.c0; have k2 := HL6.out.c2; clear hA6 hC6 hI6 HWA)
            | (go_at_call 15; refine (HNU.out _ _).mono ?_; rintro e' wq ⟨rfl, hwq⟩; have hwq2 := hwq.symm; clear hwq; subst hwq2)
            | (go_at_call 17; refine (same_yes HI6.out HL6.out.oh).mono ?_; rintro e' w7 ⟨rfl, hb7⟩; have HA7 := hide (HA6.out.below hb7); have HL7 := hide (HL6.out.below hb7); have HJ7 := hide (HJ6.out.kept (w' := w7) fun g hg => hb7.block g (HJ6.out.lt hg)); have k7 := HL7.out.c0; clear hb7 HI6 HL6 HJ6)
            | (go_at_call 17; refine (same_yes HJ7.out HL7.out.ow).mono ?_; rintro e' w8 ⟨rfl, hb8⟩; have HB8 := hide (HB1.out.trans ((HA7.out.below hb8).bel.mono HB1.out.size)); clear hb8))
          all_goals
            go_ret
            exact ⟨by simp, HB8.out⟩
    · have hx : e < 0 ∨ (¬ e < 0 ∧ (n : Int) ≤ e) ∨ (¬ e < 0 ∧ ¬ (n : Int) ≤ e ∧ (512 : Int) < (os.length : Int)) := by omega
      clear hv3 hk hgo
      generalize hN : os.length = N at *
      clear hN
      rcases hx with hx | ⟨hx, hy⟩ | ⟨hx, hy, hz⟩
      all_goals
        go_enter Try.func5, Try.ntmps5
        go_wp2_with (go_at_call 9; refine (HM.out _).mono ?_; rintro e' w2 ⟨rfl, hb2⟩; have HB2 := hide (HB0.out.trans (hb2.mono (by simp))); obtain ⟨c0, c1⟩ := HC0.out _ hb2; clear HM hb2)
        go_ret
        exact ⟨rfl, HB2.out⟩
end Go.Proofs.Ytijfnacplikibaa
