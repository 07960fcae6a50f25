import Derived.Test.YtepgiomgkgfioaaDoorDPlace
import Derived.Test.YtepgiomgkgfioaaDoorDWide
namespace Go.Proofs.YtepgiomgkgfioaaDoor.K
open Go.RowKit Go.Maps
set_option linter.unusedVariables false
set_option linter.unusedSimpArgs false
set_option maxRecDepth 20000

theorem ownsRow_unique {w : World} {e : TypeId} {v : Value} {n : Nat} {xs ys : List Value} (h : w.ownsRow 0 e 1 v n xs) (h' : w.ownsRow 0 e 1 v n ys) : xs = ys := by
  rcases h.2 with ⟨rfl, h0⟩ | ⟨g, cap, cur, rfl, _, hh, _, _, _, ht⟩
  · have h1 := h.1
    have h2 := h'.1
    rw [h0] at h1 h2
    have e1 : xs = [] := List.eq_nil_of_length_eq_zero (by simpa using h1)
    have e2 : ys = [] := List.eq_nil_of_length_eq_zero (by simpa using h2)
    rw [e1, e2]
  · rcases h'.2 with ⟨h0, _⟩ | ⟨g2, cap2, cur2, e2, _, hh2, _, _, _, ht2⟩
    · simp at h0
    · simp only [Value.slice.injEq, Option.some.injEq, Addr.mk.injEq, and_true, true_and] at e2
      obtain ⟨rfl, rfl⟩ := e2
      rw [hh] at hh2
      simp only [Option.some.injEq, Obj.cells.injEq, and_true] at hh2
      subst hh2
      rw [← ht, ← ht2]

theorem clay_any' {w : World} {L : Lay} {S : St} (hR : Rep w L S) {k g : Nat} (hk : k < S.nb) {l : List Nat} (hU : L.U g) (hg : PieceAt w g l) (hl : l.length = S.sz) (hb : (S.cache k).length + 1 ≤ 9382499223500) :
    Calls Tryd.prog 78 #[.map (some L.cb), .int .i64 (k : Int), sl g l.length] w fun e w' => e = .returned (.tuple #[]) ∧ ∃ U', Rep w' { L with U := U' } { S with cache := updF S.cache k (S.cache k ++ [l]) } ∧ Grow w w' L.U U' ∧ ∀ b m, PieceAt w b m → PieceAt w' b m := by
  obtain ⟨A, D, ho, hc⟩ := hR
  obtain ⟨i0, hi, hz0, hz1, hz2⟩ := info_parts info_bytes
  have hr := look_run ho hc hk
  have hnb := hc.nb2
  obtain ⟨gs, r1, r2, r3, r4, r5⟩ := hc.row k hk
  generalize hxs : (List.range (S.cache k).length).map (fun i => sl (gs.getD i 0) ((S.cache k).getD i []).length) = xs at *
  have hkey : keyOf Tryd.prog 3 (.int .i64 (k : Int)) = some (kL k) := keyOf_int_mk Tryd.underlying3 (wf_k (by omega))
  have hcb : ∃ es c, w.heap[L.cb]? = some (.map es c) := by obtain ⟨es, c, h, _⟩ := ho; exact ⟨es, c, h⟩
  have hrb : some L.cb ≠ (A k).ownBlock := fun e => by
    obtain ⟨cs, h⟩ := (hc.row k hk).cellsAt e.symm
    obtain ⟨es, c, h'⟩ := hcb
    rw [h'] at h; simp at h
  have HC := hide hc
  have HO := hide ho
  have HL := hide hl
  clear hl
  have HG := hide hg
  have HCB := hide hcb
  have r2a := r2.alloc (.cells #[sl g l.length] 29)
  have HR2 := hide r2
  clear hc r3 r4 r5 hxs hg hcb ho r2
  generalize hn : (S.cache k).length = n at *
  have hn' := hide hn
  generalize hv : A k = v at *
  have hv' := hide hv
  clear hn hv
  unfold sl
  unfold sl at r2a
  go_enter Tryd.func78, Tryd.ntmps78
  go_wp2_with (at_builtin; refine wpList_push_wide _ rfl (.tmp 10) (.tmp 12) 52 rfl 29 i0 (.slice none 0 0) Tryd.underlying52 hi hz0 hz1 hz2 rfl _ _ _ rfl r2a ⟨w.heap.size, 0, none⟩ 1 (.slice (some ⟨g, 0, none⟩) l.length l.length) rfl (cell_one_new _ _ _) (by simp [Value.oneCell']) (by omega) ?_)
  intro v' w1 hown hgr hloc
  have ho1 : w1.ownsMap Tryd.prog 3 Rv L.cb 8192 D := (HO.out.alloc _).kept hgr hrb
  go_wp2_with (at_mapUpdate; refine wpList_mapUpdate_own _ rfl _ _ _ 56 rfl 3 52 kInt Tryd.underlying56 Rv L.cb 8192 D rfl ho1 (by decide) _ _ (kL k) rfl rfl hkey (.held v') [] rfl ?_)
  intro w2 ho2 hg2
  go_wp2
  go_end0
  have hsz1 := hgr.size
  have hsz2 := hg2.size
  simp only [World.size_alloc] at hsz1
  have hs : w.heap.size ≤ w2.heap.size := by omega
  have hcbl : L.cb < w.heap.size := HO.out.lt
  have KEEP : ∀ b, b < w.heap.size → b ≠ L.cb → some b ≠ v.ownBlock → w2.heap[b]? = w.heap[b]? := fun b hb h1 h2 => by
    rw [hg2.block b (by omega) (by simpa using h1), hgr.block b (by simp; omega) h2]
    exact Below.heap_alloc _ _ b hb
  have hvc : v'.ownBlock = none ∨ v'.ownBlock ≠ some L.cb := .inr fun e => by
    rcases hloc with e2 | e2
    · exact hrb (e.symm.trans e2)
    · rw [e2] at e
      simp at e
      omega
  have hUv : ∀ b, v.ownBlock = some b → L.U b := by
    obtain ⟨gs, r1, r2, r3, r4, r5⟩ := HC.out.row k hk
    rw [hv'.out] at r4
    exact r4
  have hc2 := HC.out.putRow (w2 := w2) hk HCB.out hU HG.out HL.out HO.out.isMap v' hs (by rw [hv'.out]; exact KEEP) (by
    rw [hv'.out, hn'.out]
    intro xs' h'
    rw [ownsRow_unique h' HR2.out]
    exact hown.kept hg2 hvc) (by
    rw [hv'.out]
    rcases hloc with e | e
    · exact .inl e
    · exact .inr ⟨_, e, by simp⟩)
  refine ⟨rfl, _, ⟨_, _, ?_, hc2⟩, ⟨hg2.os.trans hgr.os, hg2.tape.trans hgr.tape, hg2.output.trans hgr.output, hs, fun b hb hu => KEEP b hb (fun e => hu (e ▸ HC.out.uC)) (fun e => hu (hUv b e.symm)), fun b hb hu => ?_, fun b hu => .inl hu⟩, fun b m hp => hp.kept (KEEP b hp.lt (fun e => ?_) (fun e => ?_))⟩
  · have ht := ownsMap_tight ho2
    exact ht.mono (Nat.le_trans (size_le_nb ho2 hc2.keys) hc2.nb2)
  · rcases hu with hu | hu
    · exact hu
    · omega
  · obtain ⟨es, c, hcb⟩ := HCB.out
    have := hp.1
    rw [e, hcb] at this
    simp at this
  · obtain ⟨cs, hcs⟩ := (HC.out.row k hk).cellsAt (by rw [hv'.out]; exact e.symm)
    have := hp.1
    rw [hcs] at this
    simp at this

theorem clay_any {w : World} {L : Lay} {S : St} (hR : Rep w L S) {k g : Nat} (hk : k < S.nb) {l : List Nat} (hU : L.U g) (hg : PieceAt w g l) (hl : l.length = S.sz) (hb : (S.cache k).length + 1 ≤ 9382499223500) :
    Calls Tryd.prog 78 #[.map (some L.cb), .int .i64 (k : Int), sl g l.length] w fun e w' => e = .returned (.tuple #[]) ∧ ∃ U', Rep w' { L with U := U' } { S with cache := updF S.cache k (S.cache k ++ [l]) } ∧ Grow w w' L.U U' :=
  (clay_any' hR hk hU hg hl hb).mono fun e w' ⟨h1, U', h2, h3, _⟩ => ⟨h1, U', h2, h3⟩

def St.pushed (S : St) (k : Nat) (l : List Nat) : St := { S with cache := updF S.cache k (S.cache k ++ [l]) }
def St.laid (S : St) (k : Nat) (o : Option (List Nat)) : St := { S with med := updF S.med k o }
theorem layC : ∀ (v : Value) (w : World), (method 230 56 v "replica/disk.lay").run Tryd.prog w = .ok (78, v) w := fun v w => by kernel_rfl
theorem layM : ∀ (v : Value) (w : World), (method 230 53 v "replica/disk.lay").run Tryd.prog w = .ok (76, v) w := fun v w => by kernel_rfl
theorem lookC : ∀ (v : Value) (w : World), (method 230 56 v "replica/disk.look").run Tryd.prog w = .ok (79, v) w := fun v w => by kernel_rfl
theorem lookM : ∀ (v : Value) (w : World), (method 230 53 v "replica/disk.look").run Tryd.prog w = .ok (77, v) w := fun v w => by kernel_rfl

theorem step_nb (S : St) : S.step.nb = S.nb := by unfold St.step; split <;> (try split) <;> (try split) <;> rfl
theorem step_sz (S : St) : S.step.sz = S.sz := by unfold St.step; split <;> (try split) <;> (try split) <;> rfl
theorem step_cache (S : St) : S.step.cache = S.cache := by unfold St.step; split <;> (try split) <;> (try split) <;> rfl
theorem step_med (S : St) : S.step.med = S.med := by unfold St.step; split <;> (try split) <;> (try split) <;> rfl

/-- a refusal: an error of a block, new -/
def Refusal (w w' : World) (U : Nat → Prop) (e : Ending) (b n : Int) : Prop := ∃ g, e = .returned (errV g) ∧ w.heap.size ≤ g ∧ w'.heap[g]? = some (berr b n) ∧ ¬ U g

theorem refusal_alloc {w w1 : World} {L : Lay} {S : St} (hR : Rep w1 L S) (hs : w.heap.size ≤ w1.heap.size) (b n : Int) : Refusal w (w1.alloc (berr b n)) L.U (.returned (errV w1.heap.size)) b n :=
  ⟨_, rfl, hs, Go.heap_alloc_new w1 _, fun hu => absurd (hR.uLt _ hu) (by omega)⟩
theorem Grow.alloc {w w1 : World} {U U' : Nat → Prop} (h : Grow w w1 U U') (o : Obj) : Grow w (w1.alloc o) U U' := h.trans (Grow.ofBelow U' ((Below.refl _ _).alloc (Nat.le_refl _) o))
theorem Rep.alloc {w : World} {L : Lay} {S : St} (h : Rep w L S) (o : Obj) : Rep (w.alloc o) L S := h.below ((Below.refl _ _).alloc (Nat.le_refl _) o)

theorem Rep.pieceNe {w : World} {L : Lay} {S : St} (hR : Rep w L S) {g : Nat} {l : List Nat} (hg : PieceAt w g l) : g ≠ L.p := fun e => by
  obtain ⟨A, D, ho, hc⟩ := hR
  have h1 := hc.hp
  have h2 := hg.1
  rw [e, h1] at h2
  simp at h2

theorem write_c' {w : World} {L : Lay} {S : St} (hR : Rep w L S) {k g : Nat} (hk : k < S.nb) {l : List Nat} (hU : L.U g) (hg : PieceAt w g l) (hl : l.length = S.sz) (hb : (S.cache k).length + 1 ≤ 9382499223500) :
    Calls Tryd.prog 34 #[PD L, .iface 56 (.map (some L.cb)), .int .i64 (k : Int), sl g l.length] w fun e w' =>
      (S.stepOk = true ∧ e = .returned .nilIface ∧ ∃ U', Rep w' { L with U := U' } (S.step.pushed k l) ∧ Grow w w' L.U U' ∧ ∀ b m, PieceAt w b m → PieceAt w' b m) ∨
      (S.stepOk = false ∧ Refusal w w' L.U e k 22 ∧ Rep w' L S.step ∧ Grow w w' L.U L.U) := by
  have HR := hide hR
  have HG := hide hg
  have HL := hide hl
  clear hR hg hl
  have hm := layC
  cases hok : S.stepOk
  · go_enter Tryd.func34, Tryd.ntmps34
    go_wp2_with (first
      | (go_at_call 41; refine (step_any HR.out).mono ?_; rintro e w1 ⟨rfl, hR1, hG1, -, hk1⟩; rw [hok])
      | (go_at_call 24; refine (refused_any _ _ _).mono ?_; rintro e w' ⟨rfl, rfl⟩))
    go_ret
    exact .inr ⟨by trivial, refusal_alloc hR1 hG1.size _ _, hR1.alloc _, hG1.alloc _⟩
  · go_enter Tryd.func34, Tryd.ntmps34
    go_wp2_with (first
      | (go_at_call 41; refine (step_any HR.out).mono ?_; rintro e w1 ⟨rfl, hR1, hG1, -, hk1⟩; rw [hok])
      | (go_at_call 78; refine (clay_any' hR1 (by rw [step_nb]; exact hk) hU (HG.out.kept (hk1 _ (HR.out.pieceNe HG.out))) (by rw [step_sz]; exact HL.out) (by rw [step_cache]; exact hb)).mono ?_; rintro e w' ⟨rfl, U', hR2, hG2, hP2⟩; have HP2 := hide hP2; clear hP2))
    go_ret
    exact .inl ⟨by trivial, rfl, U', hR2, hG1.trans hG2, fun b m hp => HP2.out b m (hp.kept (hk1 _ (HR.out.pieceNe hp)))⟩

theorem write_c {w : World} {L : Lay} {S : St} (hR : Rep w L S) {k g : Nat} (hk : k < S.nb) {l : List Nat} (hU : L.U g) (hg : PieceAt w g l) (hl : l.length = S.sz) (hb : (S.cache k).length + 1 ≤ 9382499223500) :
    Calls Tryd.prog 34 #[PD L, .iface 56 (.map (some L.cb)), .int .i64 (k : Int), sl g l.length] w fun e w' =>
      (S.stepOk = true ∧ e = .returned .nilIface ∧ ∃ U', Rep w' { L with U := U' } (S.step.pushed k l) ∧ Grow w w' L.U U') ∨
      (S.stepOk = false ∧ Refusal w w' L.U e k 22 ∧ Rep w' L S.step ∧ Grow w w' L.U L.U) :=
  (write_c' hR hk hU hg hl hb).mono fun e w' h => h.elim (fun ⟨h1, h2, U', h3, h4, _⟩ => .inl ⟨h1, h2, U', h3, h4⟩) (fun h => .inr h)

theorem write_m {w : World} {L : Lay} {S : St} (hR : Rep w L S) {k g : Nat} (hk : k < S.nb) {l : List Nat} (hU : L.U g) (hg : PieceAt w g l) (hl : l.length = S.sz) :
    Calls Tryd.prog 34 #[PD L, .iface 53 (medV L S), .int .i64 (k : Int), sl g l.length] w fun e w' =>
      (S.stepOk = true ∧ e = .returned .nilIface ∧ Rep w' L (S.step.laid k (some l)) ∧ Grow w w' L.U L.U) ∨
      (S.stepOk = false ∧ Refusal w w' L.U e k 22 ∧ Rep w' L S.step ∧ Grow w w' L.U L.U) := by
  have HR := hide hR
  have HG := hide hg
  have HL := hide hl
  clear hR hg hl
  have hm := layM
  cases hok : S.stepOk
  · go_enter Tryd.func34, Tryd.ntmps34
    go_wp2_with (first
      | (go_at_call 41; refine (step_any HR.out).mono ?_; rintro e w1 ⟨rfl, hR1, hG1, -, hk1⟩; rw [hok])
      | (go_at_call 24; refine (refused_any _ _ _).mono ?_; rintro e w' ⟨rfl, rfl⟩))
    go_ret
    exact .inr ⟨by trivial, refusal_alloc hR1 hG1.size _ _, hR1.alloc _, hG1.alloc _⟩
  · have hmv : medV L S = medV L S.step := by unfold medV; rw [step_nb]
    rw [hmv]
    clear hmv
    unfold sl
    go_enter Tryd.func34, Tryd.ntmps34
    go_wp2_with (first
      | (go_at_call 41; refine (step_any HR.out).mono ?_; rintro e w1 ⟨rfl, hR1, hG1, -, hk1⟩; rw [hok])
      | (go_at_call 76; have hR1' := hR1; obtain ⟨A, D, ho, hc⟩ := hR1'; refine (mlay_any hc (by rw [step_nb]; exact hk) _ _ _).mono ?_; rintro e w' ⟨rfl, rfl⟩; clear hc ho))
    go_ret
    have hP := HG.out.kept (hk1 _ (HR.out.pieceNe HG.out))
    obtain ⟨h1, h2, h3⟩ := hR1.setMed (k := k) (by rw [step_nb]; exact hk) (sl g l.length) (some l) ⟨g, rfl, hP, hU⟩ (fun m e => by cases e; rw [step_sz]; exact HL.out)
    exact .inl ⟨by trivial, rfl, h1, hG1.trans h2⟩
end Go.Proofs.YtepgiomgkgfioaaDoor.K
