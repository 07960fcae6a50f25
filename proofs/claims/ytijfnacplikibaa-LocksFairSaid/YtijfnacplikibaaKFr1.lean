import Derived.Test.YtijfnacplikibaaKFair
namespace Go.Proofs.Ytijfnacplikibaa
open Go.RowKit
set_option linter.unusedVariables false
set_option linter.unusedSimpArgs false
set_option maxRecDepth 20000

set_option maxHeartbeats 4000000 in
theorem fair_h11 {w x : World} {p b n q ex i : Nat} {V : Nat → Value} {wv mv hv : Value} {L : LL} {wt : Int} (h : FS w x p b n q ex V wv mv hv L wt i) (hf : Few i L wt) (hi : i < 512) (hex : ex < n) (oo : Int) (snd : Bool) (t1 : has (L (ex * 2 + 1)) oo = true) :
    Calls Try.prog 18 #[.pointer (some ⟨q, 0, none⟩), .pointer (some ⟨p, 0, none⟩), .agg #[.int .i64 1, .bool snd, .int .i64 (ex : Int), .int .i64 1, .int .i64 oo]] x (FairP w p b n q ex i) := by
  obtain ⟨w9, hw9⟩ : ∃ w9, x.alloc (.cells #[.int .i64 1, .bool snd, .int .i64 (ex : Int), .int .i64 1, .int .i64 oo] 30) = w9 := ⟨_, rfl⟩
  have h9 : FS w w9 p b n q ex V wv mv hv L wt i := h.below (by rw [← hw9]; exact alloc_calm _ _)
  have hb9 : OB w9 x.heap.size 1 snd ex 1 oo := by rw [← hw9]; exact Go.heap_alloc_new x _
  have HS := hide fun k => h9.below (drewN_calm w9 k)
  have HO := hide fun k => hb9.below (drewN_calm w9 k)
  have HF := hide hf
  have HW := hide fun k => hasO_any (w9.drewN k) wv _ oo (HS.out k).l.ow
  have HH := hide fun k => hasO_any (w9.drewN k) hv _ oo (HS.out k).l.oh
  simp only [contains_has] at HW HH
  obtain ⟨a0, a2, a3, a4⟩ := hb9.cells
  have c0 := h9.l.c0
  have c2 := h9.l.c2
  have hac := fair_held (n := n) (ws := 512) (wt := wt) (md := 1) hex (by omega) (show (has (L (ex * 2)) oo || has (L (ex * 2 + 1)) oo) = true from by rw [t1]; simp)
  simp only [t1] at HW
  clear h hf h9 hb9
  go_enter Try.func18, Try.ntmps18
  go_wp2_with fail
  go_quiet (first | (go_at_call 20; exact Calls.quiet_of_same (HW.out _)))
  have HS1 := hide (HS.out nq)
  have HO1 := hide (HO.out nq)
  clear HS HO HW HH c0 c2 a0 a2 a3 a4
  generalize w9.drewN nq = w10 at *
  obtain ⟨a0, a2, a3, a4⟩ := HO1.out.cells
  have hq := HS1.out.a.acquire (by omega) (ex : Int) 1 oo
  rw [hac] at hq
  dsimp only at hq
  have HQ := hide hq
  clear hq hac t1
  go_wp2_with (first
    | (go_at_call 12; refine HQ.out.mono ?_; rintro e w2 ⟨rfl, V2, hA2, hT2⟩; have HA2 := hide hA2; have HL2 := hide (HS1.out.l.tr HS1.out.a.t hT2); clear hA2 hT2 HQ)
    | (go_at_call 15; refine (num_any _ _).mono ?_; rintro e wq ⟨rfl, hwq⟩; have hwq2 := hwq.symm; clear hwq; subst hwq2))
  go_ret
  exact ⟨rfl, V2, wv, mv, hv, L, wt, ⟨HA2.out, HL2.out⟩, HF.out.same⟩
set_option maxHeartbeats 4000000 in
theorem fair_h12 {w x : World} {p b n q ex i : Nat} {V : Nat → Value} {wv mv hv : Value} {L : LL} {wt : Int} (h : FS w x p b n q ex V wv mv hv L wt i) (hf : Few i L wt) (hi : i < 512) (hex : ex < n) (oo : Int) (snd : Bool) (t1 : has (L (ex * 2 + 1)) oo = true) :
    Calls Try.prog 18 #[.pointer (some ⟨q, 0, none⟩), .pointer (some ⟨p, 0, none⟩), .agg #[.int .i64 1, .bool snd, .int .i64 (ex : Int), .int .i64 2, .int .i64 oo]] x (FairP w p b n q ex i) := by
  obtain ⟨w9, hw9⟩ : ∃ w9, x.alloc (.cells #[.int .i64 1, .bool snd, .int .i64 (ex : Int), .int .i64 2, .int .i64 oo] 30) = w9 := ⟨_, rfl⟩
  have h9 : FS w w9 p b n q ex V wv mv hv L wt i := h.below (by rw [← hw9]; exact alloc_calm _ _)
  have hb9 : OB w9 x.heap.size 1 snd ex 2 oo := by rw [← hw9]; exact Go.heap_alloc_new x _
  have HS := hide fun k => h9.below (drewN_calm w9 k)
  have HO := hide fun k => hb9.below (drewN_calm w9 k)
  have HF := hide hf
  have HW := hide fun k => hasO_any (w9.drewN k) wv _ oo (HS.out k).l.ow
  have HH := hide fun k => hasO_any (w9.drewN k) hv _ oo (HS.out k).l.oh
  simp only [contains_has] at HW HH
  obtain ⟨a0, a2, a3, a4⟩ := hb9.cells
  have c0 := h9.l.c0
  have c2 := h9.l.c2
  have hac := fair_held (n := n) (ws := 512) (wt := wt) (md := 2) hex (by omega) (show (has (L (ex * 2)) oo || has (L (ex * 2 + 1)) oo) = true from by rw [t1]; simp)
  simp only [t1] at HW
  clear h hf h9 hb9
  go_enter Try.func18, Try.ntmps18
  go_wp2_with fail
  go_quiet (first | (go_at_call 20; exact Calls.quiet_of_same (HW.out _)))
  have HS1 := hide (HS.out nq)
  have HO1 := hide (HO.out nq)
  clear HS HO HW HH c0 c2 a0 a2 a3 a4
  generalize w9.drewN nq = w10 at *
  obtain ⟨a0, a2, a3, a4⟩ := HO1.out.cells
  have hq := HS1.out.a.acquire (by omega) (ex : Int) 2 oo
  rw [hac] at hq
  dsimp only at hq
  have HQ := hide hq
  clear hq hac t1
  go_wp2_with (first
    | (go_at_call 12; refine HQ.out.mono ?_; rintro e w2 ⟨rfl, V2, hA2, hT2⟩; have HA2 := hide hA2; have HL2 := hide (HS1.out.l.tr HS1.out.a.t hT2); clear hA2 hT2 HQ)
    | (go_at_call 15; refine (num_any _ _).mono ?_; rintro e wq ⟨rfl, hwq⟩; have hwq2 := hwq.symm; clear hwq; subst hwq2))
  go_ret
  exact ⟨rfl, V2, wv, mv, hv, L, wt, ⟨HA2.out, HL2.out⟩, HF.out.same⟩
set_option maxHeartbeats 4000000 in
theorem fair_h21 {w x : World} {p b n q ex i : Nat} {V : Nat → Value} {wv mv hv : Value} {L : LL} {wt : Int} (h : FS w x p b n q ex V wv mv hv L wt i) (hf : Few i L wt) (hi : i < 512) (hex : ex < n) (oo : Int) (snd : Bool) (t1 : has (L (ex * 2 + 1)) oo = false) (t2 : has (L (ex * 2)) oo = true) :
    Calls Try.prog 18 #[.pointer (some ⟨q, 0, none⟩), .pointer (some ⟨p, 0, none⟩), .agg #[.int .i64 1, .bool snd, .int .i64 (ex : Int), .int .i64 1, .int .i64 oo]] x (FairP w p b n q ex i) := by
  obtain ⟨w9, hw9⟩ : ∃ w9, x.alloc (.cells #[.int .i64 1, .bool snd, .int .i64 (ex : Int), .int .i64 1, .int .i64 oo] 30) = w9 := ⟨_, rfl⟩
  have h9 : FS w w9 p b n q ex V wv mv hv L wt i := h.below (by rw [← hw9]; exact alloc_calm _ _)
  have hb9 : OB w9 x.heap.size 1 snd ex 1 oo := by rw [← hw9]; exact Go.heap_alloc_new x _
  have HS := hide fun k => h9.below (drewN_calm w9 k)
  have HO := hide fun k => hb9.below (drewN_calm w9 k)
  have HF := hide hf
  have HW := hide fun k => hasO_any (w9.drewN k) wv _ oo (HS.out k).l.ow
  have HH := hide fun k => hasO_any (w9.drewN k) hv _ oo (HS.out k).l.oh
  simp only [contains_has] at HW HH
  obtain ⟨a0, a2, a3, a4⟩ := hb9.cells
  have c0 := h9.l.c0
  have c2 := h9.l.c2
  have hac := fair_held (n := n) (ws := 512) (wt := wt) (md := 1) hex (by omega) (show (has (L (ex * 2)) oo || has (L (ex * 2 + 1)) oo) = true from by rw [t2]; rfl)
  simp only [t1] at HW
  simp only [t2] at HH
  clear h hf h9 hb9
  go_enter Try.func18, Try.ntmps18
  go_wp2_with fail
  go_quiet (first | (go_at_call 20; with_reducible exact Calls.quiet_of_same (HW.out _)) | (go_at_call 20; with_reducible exact Calls.quiet_of_same (HH.out _)))
  have HS1 := hide (HS.out nq)
  have HO1 := hide (HO.out nq)
  clear HS HO HW HH c0 c2 a0 a2 a3 a4
  generalize w9.drewN nq = w10 at *
  obtain ⟨a0, a2, a3, a4⟩ := HO1.out.cells
  have hq := HS1.out.a.acquire (by omega) (ex : Int) 1 oo
  rw [hac] at hq
  dsimp only at hq
  have HQ := hide hq
  clear hq hac t1 t2
  go_wp2_with (first
    | (go_at_call 12; refine HQ.out.mono ?_; rintro e w2 ⟨rfl, V2, hA2, hT2⟩; have HA2 := hide hA2; have HL2 := hide (HS1.out.l.tr HS1.out.a.t hT2); clear hA2 hT2 HQ)
    | (go_at_call 15; refine (num_any _ _).mono ?_; rintro e wq ⟨rfl, hwq⟩; have hwq2 := hwq.symm; clear hwq; subst hwq2))
  go_ret
  exact ⟨rfl, V2, wv, mv, hv, L, wt, ⟨HA2.out, HL2.out⟩, HF.out.same⟩
set_option maxHeartbeats 4000000 in
theorem fair_h22 {w x : World} {p b n q ex i : Nat} {V : Nat → Value} {wv mv hv : Value} {L : LL} {wt : Int} (h : FS w x p b n q ex V wv mv hv L wt i) (hf : Few i L wt) (hi : i < 512) (hex : ex < n) (oo : Int) (snd : Bool) (t1 : has (L (ex * 2 + 1)) oo = false) (t2 : has (L (ex * 2)) oo = true) :
    Calls Try.prog 18 #[.pointer (some ⟨q, 0, none⟩), .pointer (some ⟨p, 0, none⟩), .agg #[.int .i64 1, .bool snd, .int .i64 (ex : Int), .int .i64 2, .int .i64 oo]] x (FairP w p b n q ex i) := by
  obtain ⟨w9, hw9⟩ : ∃ w9, x.alloc (.cells #[.int .i64 1, .bool snd, .int .i64 (ex : Int), .int .i64 2, .int .i64 oo] 30) = w9 := ⟨_, rfl⟩
  have h9 : FS w w9 p b n q ex V wv mv hv L wt i := h.below (by rw [← hw9]; exact alloc_calm _ _)
  have hb9 : OB w9 x.heap.size 1 snd ex 2 oo := by rw [← hw9]; exact Go.heap_alloc_new x _
  have HS := hide fun k => h9.below (drewN_calm w9 k)
  have HO := hide fun k => hb9.below (drewN_calm w9 k)
  have HF := hide hf
  have HW := hide fun k => hasO_any (w9.drewN k) wv _ oo (HS.out k).l.ow
  have HH := hide fun k => hasO_any (w9.drewN k) hv _ oo (HS.out k).l.oh
  simp only [contains_has] at HW HH
  obtain ⟨a0, a2, a3, a4⟩ := hb9.cells
  have c0 := h9.l.c0
  have c2 := h9.l.c2
  have hac := fair_held (n := n) (ws := 512) (wt := wt) (md := 2) hex (by omega) (show (has (L (ex * 2)) oo || has (L (ex * 2 + 1)) oo) = true from by rw [t2]; rfl)
  simp only [t1] at HW
  simp only [t2] at HH
  clear h hf h9 hb9
  go_enter Try.func18, Try.ntmps18
  go_wp2_with fail
  go_quiet (first | (go_at_call 20; with_reducible exact Calls.quiet_of_same (HW.out _)) | (go_at_call 20; with_reducible exact Calls.quiet_of_same (HH.out _)))
  have HS1 := hide (HS.out nq)
  have HO1 := hide (HO.out nq)
  clear HS HO HW HH c0 c2 a0 a2 a3 a4
  generalize w9.drewN nq = w10 at *
  obtain ⟨a0, a2, a3, a4⟩ := HO1.out.cells
  have hq := HS1.out.a.acquire (by omega) (ex : Int) 2 oo
  rw [hac] at hq
  dsimp only at hq
  have HQ := hide hq
  clear hq hac t1 t2
  go_wp2_with (first
    | (go_at_call 12; refine HQ.out.mono ?_; rintro e w2 ⟨rfl, V2, hA2, hT2⟩; have HA2 := hide hA2; have HL2 := hide (HS1.out.l.tr HS1.out.a.t hT2); clear hA2 hT2 HQ)
    | (go_at_call 15; refine (num_any _ _).mono ?_; rintro e wq ⟨rfl, hwq⟩; have hwq2 := hwq.symm; clear hwq; subst hwq2))
  go_ret
  exact ⟨rfl, V2, wv, mv, hv, L, wt, ⟨HA2.out, HL2.out⟩, HF.out.same⟩
end Go.Proofs.Ytijfnacplikibaa
