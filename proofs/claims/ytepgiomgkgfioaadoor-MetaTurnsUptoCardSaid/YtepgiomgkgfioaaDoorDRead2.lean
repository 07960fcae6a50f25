import Derived.Test.YtepgiomgkgfioaaDoorDRead
namespace Go.Proofs.YtepgiomgkgfioaaDoor.K
open Go.RowKit Go.Maps
set_option linter.unusedVariables false
set_option linter.unusedSimpArgs false
set_option maxRecDepth 20000

theorem fetch_cm {w : World} {L : Lay} {S : St} (hR : Rep w L S) {k B : Nat} (hk : k < S.nb) (c0 : w.cell? ⟨B, 0, none⟩ = some (.iface 56 (.map (some L.cb)))) (c1 : w.cell? ⟨B, 1, none⟩ = some (.iface 53 (medV L S))) :
    Calls Tryd.prog 26 #[.int .i64 (k : Int), .slice (some ⟨B, 0, none⟩) 2 2] w fun e w' => fetched w k (S.val k) e w' := by
  obtain ⟨A, D, ho, hc⟩ := hR
  have hl := hc.lens
  have m1 := lookM
  have m2 := lookC
  have q1 := ifaceNe
  have q2 := nilNe
  have q3 := neNil_some
  have q4 := neNil_nil
  by_cases hne : S.cache k = []
  · have HC := hide (clook_none ho hc hk hne)
    have hv : S.val k = S.med k := by simp [St.val, hne]
    rw [hv]
    unfold nilS at HC
    cases hq : S.med k with
    | none =>
      have HL := hide (mlook_none hc hk hq)
      clear hc ho hq hl hv hne
      go_enter Tryd.func26, Tryd.ntmps26
      go_wp2
      refine wp_loop_rounds 3 ?_
      rw [rounds_succ]
      go_wp2_with (go_at_call 79; refine HC.out.mono ?_; rintro e w' ⟨rfl, rfl⟩)
      rw [rounds_succ]
      go_wp2_with (go_at_call 77; refine HL.out.mono ?_; rintro e w' ⟨rfl, rfl⟩)
      go_ret2
      exact ⟨rfl, rfl⟩
    | some l =>
      have HL := hide (mlook_some hc hk hq)
      have hlen : l.length = S.sz := hc.mlen k l hk hq
      have hl0 : 0 < l.length := by omega
      have hl1 : l.length ≤ 140737488355328 := by omega
      clear hc ho hq hl hlen hv hne
      go_enter Tryd.func26, Tryd.ntmps26
      go_wp2
      refine wp_loop_rounds 3 ?_
      rw [rounds_succ]
      go_wp2_with (go_at_call 79; refine HC.out.mono ?_; rintro e w' ⟨rfl, rfl⟩)
      rw [rounds_succ]
      go_wp2_with (first
        | (go_at_call 77; refine HL.out.mono ?_; rintro e w' ⟨g, rfl, rfl, hP, -⟩; have HP := hide hP; clear hP)
        | (go_at_call 35; refine (copied_any _ l _ HP.out.bsl hl1 hl0).mono ?_; rintro e w' ⟨rfl, -, rfl⟩))
      go_ret2
      exact ⟨rfl, rfl⟩
  · have HC0 := clook_some ho hc hk hne
    obtain ⟨l, hlast⟩ : ∃ l, (S.cache k).getLast? = some l := ⟨_, List.getLast?_eq_some_getLast hne⟩
    have hv : S.val k = some l := by simp [St.val, hlast]
    have hlen : l.length = S.sz := hc.clen k l hk (List.mem_of_getLast? hlast)
    rw [hv]
    rw [hlast] at HC0
    have HC := hide HC0
    have hl0 : 0 < l.length := by omega
    have hl1 : l.length ≤ 140737488355328 := by omega
    clear hc ho hl hlen hv hne hlast HC0
    go_enter Tryd.func26, Tryd.ntmps26
    go_wp2
    refine wp_loop_rounds 3 ?_
    rw [rounds_succ]
    go_wp2_with (first
      | (go_at_call 79; refine HC.out.mono ?_; rintro e w' ⟨g, l2, rfl, rfl, hll, hP, -⟩; have HP := hide hP; have HLL := hide hll; clear hP hll)
      | (go_at_call 35; obtain rfl : l = l2 := by { have := HLL.out; simpa using this }; refine (copied_any _ l _ HP.out.bsl hl1 hl0).mono ?_; rintro e w' ⟨rfl, -, rfl⟩))
    go_ret2
    exact ⟨rfl, rfl⟩

def OkB (l : List Nat) : Prop := (∀ b ∈ l, b < 256) ∧ l.length ≤ maxLen ∧ 0 < l.length
theorem Rep.medOk {w : World} {L : Lay} {S : St} (hR : Rep w L S) {k : Nat} (hk : k < S.nb) {l : List Nat} (h : S.med k = some l) : OkB l ∧ l.length = S.sz := by
  obtain ⟨A, D, ho, hc⟩ := hR
  obtain ⟨ms, h1, h2, h3⟩ := hc.hm
  obtain ⟨v, _, hm⟩ := h3 k hk
  rw [h] at hm
  obtain ⟨g, _, hp, _⟩ := hm
  exact ⟨hp.2, hc.mlen k l hk h⟩
theorem Rep.cacheOk {w : World} {L : Lay} {S : St} (hR : Rep w L S) {k : Nat} (hk : k < S.nb) {l : List Nat} (h : l ∈ S.cache k) : OkB l ∧ l.length = S.sz := by
  obtain ⟨A, D, ho, hc⟩ := hR
  obtain ⟨gs, r1, r2, r3, r4, r5⟩ := hc.row k hk
  obtain ⟨i, hi, e⟩ := List.mem_iff_getElem.1 h
  have := (r3 i hi).1.2
  rw [show (S.cache k).getD i [] = l by simp [List.getD, hi, e]] at this
  exact ⟨this, hc.clen k l hk h⟩
theorem Rep.valOk {w : World} {L : Lay} {S : St} (hR : Rep w L S) {k : Nat} (hk : k < S.nb) {l : List Nat} (h : S.val k = some l) : OkB l ∧ l.length = S.sz := by
  unfold St.val at h
  split at h
  · rename_i m hm
    cases h
    exact hR.cacheOk hk (List.mem_of_getLast? hm)
  · exact hR.medOk hk h

theorem fresh_alloc {w W : World} {L : Lay} {S : St} (hR : Rep W L S) (hs : w.heap.size ≤ W.heap.size) {l : List Nat} (h : OkB l) {g : Nat} (hg : g = W.heap.size := by simp) : Fresh w (W.alloc (.cells (l.map byteV).toArray 5)) L.U (sl g l.length) l := by
  subst hg
  exact ⟨_, rfl, hs, ⟨Go.heap_alloc_new W _, h⟩, fun hu => absurd (hR.uLt _ hu) (by omega)⟩

theorem Read_any {w : World} {L : Lay} {S : St} (hR : Rep w L S) (b : Int) :
    Calls Tryd.prog 11 #[PD L, .int .i64 b] w fun e w' => ReadPost w L b (S.readErr b) (S.val b.toNat) (S.read b) e w' := by
  have HR := hide hR
  obtain ⟨A, D, ho, hc⟩ := hR
  have hp := hc.hp
  have c2 : w.cell? ⟨L.p, 2, none⟩ = some (medV L S) := dcell hp 2
  have c3 : w.cell? ⟨L.p, 3, none⟩ = some (.map (some L.cb)) := dcell hp 3
  have c4 : w.cell? ⟨L.p, 4, none⟩ = some (.bool S.off) := dcell hp 4
  have HP := hide hp
  clear ho hc hp
  unfold PD
  by_cases h1 : 0 ≤ b ∧ b < S.nb
  · cases hof : S.off with
    | true =>
      have e1 : S.readErr b = 22 := by simp [St.readErr, h1, hof]
      have e2 : S.read b = S := by rw [St.read, e1, if_neg (by decide)]
      have hd : decide (0 ≤ b ∧ b < S.nb) = true := by simp [h1]
      rw [e1, e2]
      rw [hof] at c4
      clear e1 e2 h1 hof
      go_enter Tryd.func11, Tryd.ntmps11
      go_wp2_with (first
        | (go_at_call 23; refine (has_any HP.out _).mono ?_; rintro e w' ⟨rfl, rfl⟩; rw [hd])
        | (go_at_call 24; refine (refused_any _ _ _).mono ?_; rintro e w' ⟨rfl, rfl⟩))
      go_ret2
      exact ReadPost.mk _ _ (errIs_alloc HR.out (Nat.le_refl _) _ _ (by decide)) (fun h => by simp at h) (fun _ => rfl) (HR.out.alloc _) ((Grow.refl _ _).alloc _)
    | false =>
      obtain ⟨k, rfl⟩ : ∃ k : Nat, b = (k : Int) := ⟨b.toNat, by omega⟩
      have hk : k < S.nb := by omega
      have hkn : (k : Int).toNat = k := by simp
      have hd : decide (0 ≤ (k : Int) ∧ (k : Int) < S.nb) = true := by simp [h1]
      rw [hof] at c4
      rw [hkn]
      have HR1 : Hid (Rep (w.drew.alloc (.cells #[.iface 56 (.map (some L.cb)), .iface 53 (medV L S)] 77)) L S) := hide ((HR.out.below (Below.refl _ _).drew).alloc _)
      have hrow : (w.drew.alloc (.cells #[.iface 56 (.map (some L.cb)), .iface 53 (medV L S)] 77)).heap[w.heap.size]? = some (.cells #[.iface 56 (.map (some L.cb)), .iface 53 (medV L S)] 77 (0, 0)) := Go.heap_alloc_new w.drew _
      have HF := hide (fetch_cm (B := w.heap.size) (k := k) HR1.out hk (by rw [cell_of_row _ _ _ _ _ _ hrow]; rfl) (by rw [cell_of_row _ _ _ _ _ _ hrow]; rfl))
      clear hrow
      have HG : Hid (Grow w (w.drew.alloc (.cells #[.iface 56 (.map (some L.cb)), .iface 53 (medV L S)] 77)) L.U L.U) := hide ((Grow.ofBelow L.U (Below.refl _ w).drew).alloc _)
      have q1 := ifaceNe
      have q2 := nilNe
      cases hq : S.val k with
      | none =>
        have e1 : S.readErr k = 21 := by simp [St.readErr, h1.2, hof, hq]
        have e2 : S.read k = S := by rw [St.read, e1, if_neg (by decide)]
        rw [hq] at HF
        rw [e1, e2]
        clear e1 e2 hq h1 hkn hof
        go_enter Tryd.func11, Tryd.ntmps11
        go_wp2_with (first
          | (go_at_call 23; refine (has_any HP.out _).mono ?_; rintro e w0 ⟨rfl, e0⟩; rw [hd]; cases e0))
        go_region_held3 (fun w' => w'.cell? ⟨L.p, 2, none⟩ = some (medV L S) ∧ w'.cell? ⟨L.p, 3, none⟩ = some (.map (some L.cb))) (first | (constructor <;> assumption) | go_keep)
          (first
            | (go_at_call 26; refine HF.out.mono ?_; rintro e w' ⟨rfl, rfl⟩))
        go_wp2
        go_ret2
        exact ReadPost.mk _ _ (errIs_alloc HR1.out HG.out.size k 21 (by decide)) (fun h => by simp at h) (fun _ => rfl) (HR1.out.alloc _) (HG.out.alloc _)
      | some l =>
        have e1 : S.readErr k = 0 := by simp [St.readErr, h1.2, hof, hq]
        have e2 : S.read k = S.addRd := by rw [St.read, e1, if_pos rfl]
        have HOK := hide (HR.out.valOk hk hq).1
        rw [hq] at HF
        rw [e1, e2]
        clear e1 e2 hq h1 hkn hof
        go_enter Tryd.func11, Tryd.ntmps11
        go_wp2_with (first
          | (go_at_call 23; refine (has_any HP.out _).mono ?_; rintro e w0 ⟨rfl, e0⟩; rw [hd]; cases e0))
        go_region_held3 (fun w' => w'.cell? ⟨L.p, 2, none⟩ = some (medV L S) ∧ w'.cell? ⟨L.p, 3, none⟩ = some (.map (some L.cb))) (first | (constructor <;> assumption) | go_keep)
          (first
            | (go_at_call 26; refine HF.out.mono ?_; rintro e w' ⟨rfl, rfl⟩))
        have hRW : Rep ((w.alloc (.cells #[.iface 56 (.map (some L.cb)), .iface 53 (medV L S)] 77)).alloc (.cells (l.map byteV).toArray 5)).drew L S := HR1.out.alloc (.cells (l.map byteV).toArray 5)
        have hGW : Grow w ((w.alloc (.cells #[.iface 56 (.map (some L.cb)), .iface 53 (medV L S)] 77)).alloc (.cells (l.map byteV).toArray 5)).drew L.U L.U := HG.out.alloc (.cells (l.map byteV).toArray 5)
        have hFR : Fresh w ((w.alloc (.cells #[.iface 56 (.map (some L.cb)), .iface 53 (medV L S)] 77)).alloc (.cells (l.map byteV).toArray 5)).drew L.U (sl (w.heap.size + 1) l.length) l := fresh_alloc HR1.out HG.out.size HOK.out
        clear HR1 HG HOK c2 c3 c4 HP HF
        generalize ((w.alloc (.cells #[.iface 56 (.map (some L.cb)), .iface 53 (medV L S)] 77)).alloc (.cells (l.map byteV).toArray 5)).drew = W at *
        have c6 : W.cell? ⟨L.p, 6, none⟩ = some (.int .i64 S.rd) := rcell (U' := L.U) hRW 6
        have f6 := rfree (L := L) (U' := L.U) hRW 6
        have HRW := hide hRW
        have HGW := hide hGW
        have HFR := hide hFR
        clear hRW hGW hFR
        go_wp2
        go_ret2
        obtain ⟨h1, h2, h3⟩ := HRW.out.store 6 (.int .i64 (wrap64 (S.rd + 1))) S.off S.fuse (wrap64 (S.rd + 1)) S.wr S.th S.fl HRW.out.fz rfl
        refine ReadPost.mk _ _ (.inl ⟨rfl, rfl⟩) (fun _ => ⟨l, rfl, ?_⟩) (fun h => by simp at h) h1 (HGW.out.trans h2)
        obtain ⟨g, e, hg1, hg2, hg3⟩ := HFR.out
        exact ⟨g, e, hg1, hg2.kept (h2.keep g hg2.lt hg3), hg3⟩
  · have e1 : S.readErr b = 2 := by simp only [St.readErr]; rw [if_pos h1]
    have e2 : S.read b = S := by rw [St.read, e1, if_neg (by decide)]
    have hd : decide (0 ≤ b ∧ b < S.nb) = false := by simp [h1]
    rw [e1, e2]
    clear e1 e2 h1
    go_enter Tryd.func11, Tryd.ntmps11
    go_wp2_with (first
      | (go_at_call 23; refine (has_any HP.out _).mono ?_; rintro e w' ⟨rfl, rfl⟩; rw [hd])
      | (go_at_call 24; refine (refused_any _ _ _).mono ?_; rintro e w' ⟨rfl, rfl⟩))
    go_ret2
    exact ReadPost.mk _ _ (errIs_alloc HR.out (Nat.le_refl _) _ _ (by decide)) (fun h => by simp at h) (fun _ => rfl) (HR.out.alloc _) ((Grow.refl _ _).alloc _)
end Go.Proofs.YtepgiomgkgfioaaDoor.K
