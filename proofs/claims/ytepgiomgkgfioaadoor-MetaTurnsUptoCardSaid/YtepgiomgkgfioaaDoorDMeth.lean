import Derived.Test.YtepgiomgkgfioaaDoorDOps
namespace Go.Proofs.YtepgiomgkgfioaaDoor.K
open Go.RowKit Go.Maps
set_option linter.unusedVariables false
set_option linter.unusedSimpArgs false
set_option maxRecDepth 20000

def St.dropped (S : St) (k : Nat) : St := { S with cache := updF S.cache k [] }
def St.addRd (S : St) : St := { S with rd := wrap64 (S.rd + 1) }
def St.addWr (S : St) : St := { S with wr := wrap64 (S.wr + 1) }
def St.addTh (S : St) : St := { S with th := wrap64 (S.th + 1) }
def St.addFl (S : St) : St := { S with fl := wrap64 (S.fl + 1) }
def St.write (S : St) (b : Int) (l : List Nat) : St := S.putSt b l.length fun T => (T.pushed b.toNat l).addWr
def St.through (S : St) (b : Int) (l : List Nat) : St := S.putSt b l.length fun T => ((T.laid b.toNat (some l)).dropped b.toNat).addTh

theorem ErrIs.kept {w w' w2 : World} {U U2 : Nat → Prop} {v : Value} {b n : Int} (h : ErrIs w w' U v b n) (hk : ∀ g, ¬ U g → g < w'.heap.size → w2.heap[g]? = w'.heap[g]?) (hU : ∀ g, g < w'.heap.size → U2 g → U g) : ErrIs w w2 U2 v b n := by
  rcases h with h | ⟨hn, g, h1, h2, h3, h4⟩
  · exact .inl h
  · have hlt := (Array.getElem?_eq_some_iff.1 h3).1
    exact .inr ⟨hn, g, h1, h2, (hk g h4 hlt).trans h3, fun hu => h4 (hU g hlt hu)⟩

theorem eqIn_in (d : Nat) (ty : TypeId) (v : Value) (W : World) : (Op.equalIn (d + 1) 40 (.iface ty v) .nilIface).run Tryd.prog W = .ok false W := by
  simp [Op.equalIn, run_underlying Tryd.underlying40]
theorem eqIn_nn (d : Nat) (W : World) : (Op.equalIn (d + 1) 40 .nilIface .nilIface).run Tryd.prog W = .ok true W := by
  simp [Op.equalIn, run_underlying Tryd.underlying40]
theorem ifaceNe (ty : TypeId) (v : Value) (W : World) : (binOp .neq 40 (.iface ty v) .nilIface).run Tryd.prog W = .ok (.bool true) W := by
  simp only [binOp]
  simp [Op.equal, Op.maxDepth, eqIn_in 9999 ty v W]
theorem nilNe (W : World) : (binOp .neq 40 .nilIface .nilIface).run Tryd.prog W = .ok (.bool false) W := by
  simp only [binOp]
  simp [Op.equal, Op.maxDepth, eqIn_nn 9999 W]
theorem ifaceEq (ty : TypeId) (v : Value) (W : World) : (binOp .eql 40 (.iface ty v) .nilIface).run Tryd.prog W = .ok (.bool false) W := by
  simp only [binOp]
  simp [Op.equal, Op.maxDepth, eqIn_in 9999 ty v W]
theorem nilEq (W : World) : (binOp .eql 40 .nilIface .nilIface).run Tryd.prog W = .ok (.bool true) W := by
  simp only [binOp]
  simp [Op.equal, Op.maxDepth, eqIn_nn 9999 W]

theorem rcell {w : World} {L : Lay} {U' : Nat → Prop} {S : St} (hR : Rep w { L with U := U' } S) (i : Nat) : w.cell? ⟨L.p, i, none⟩ = (diskRow L S)[i]? := by
  obtain ⟨A, D, ho, hc⟩ := hR
  exact dcell hc.hp i
theorem rfree {w : World} {L : Lay} {U' : Nat → Prop} {S : St} (hR : Rep w { L with U := U' } S) (i : Nat) : w.frozen? ⟨L.p, i, none⟩ = false := by
  obtain ⟨A, D, ho, hc⟩ := hR
  exact dfree hc.hp i
theorem Rep.fz {w : World} {L : Lay} {S : St} (hR : Rep w L S) : -1 ≤ S.fuse ∧ S.fuse ≤ 9223372036854775807 := by
  obtain ⟨A, D, ho, hc⟩ := hR
  exact hc.fz
theorem Rep.nb {w : World} {L : Lay} {S : St} (hR : Rep w L S) : 1 ≤ S.nb ∧ S.nb ≤ 8192 := by
  obtain ⟨A, D, ho, hc⟩ := hR
  exact ⟨hc.nb1, hc.nb2⟩
theorem Rep.szs {w : World} {L : Lay} {S : St} (hR : Rep w L S) : S.sz = 128 ∨ S.sz = 256 ∨ S.sz = 512 ∨ S.sz = 1024 := by
  obtain ⟨A, D, ho, hc⟩ := hR
  exact hc.sz

/-- what a writing call leaves: the error, the disk -/
def PutPost (w : World) (L : Lay) (b n : Int) (S' : St) (e : Ending) (w' : World) : Prop := ∃ u U', e = .returned u ∧ ErrIs w w' U' u b n ∧ Rep w' { L with U := U' } S' ∧ Grow w w' L.U U'
theorem PutPost.mk {w : World} {L : Lay} {b n : Int} {S' : St} {w' : World} (u : Value) (U' : Nat → Prop) (h1 : ErrIs w w' U' u b n) (h2 : Rep w' { L with U := U' } S') (h3 : Grow w w' L.U U') : PutPost w L b n S' (.returned u) w' := ⟨u, U', rfl, h1, h2, h3⟩

theorem Rep.dropped {w : World} {L : Lay} {A : Nat → Value} {D : DataW Value} {S : St} (ho : w.ownsMap Tryd.prog 3 Rv L.cb 8192 D) (hc : Core w L A D S) {k : Nat} (hk : k < S.nb) {w' : World} (ho' : w'.ownsMap Tryd.prog 3 Rv L.cb 8192 (D.del (kL k))) (ht : w.mapTurned w' L.cb) :
    Rep w' L (S.dropped k) ∧ Grow w w' L.U L.U ∧ w'.heap.size = w.heap.size ∧ ∀ b, b ≠ L.cb → w'.heap[b]? = w.heap[b]? := by
  have hg := ht.grown
  have hs : w'.heap.size = w.heap.size := by
    obtain ⟨es, c, es', c', hb, rfl⟩ := ht
    simp [ChangeMaps.setBlock]
  have KEEP : ∀ b, b ≠ L.cb → w'.heap[b]? = w.heap[b]? := fun b hb => by
    by_cases hlt : b < w.heap.size
    · exact hg.block b hlt (by simpa using hb)
    · rw [Array.getElem?_eq_none (by omega), Array.getElem?_eq_none (by omega)]
  have hcb : ∃ es c, w.heap[L.cb]? = some (.map es c) := by obtain ⟨es, c, h, _⟩ := ho; exact ⟨es, c, h⟩
  exact ⟨⟨_, _, ho', hc.drop hk hcb KEEP (by omega)⟩, ⟨hg.os, hg.tape, hg.output, by omega, fun b hb hu => KEEP b fun e => hu (e ▸ hc.uC), fun _ _ h => h, fun _ h => h⟩, hs, KEEP⟩

theorem key_k {k : Nat} (hk : k < 9223372036854775808) : keyOf Tryd.prog 3 (.int .i64 (k : Int)) = some (kL k) := keyOf_int_mk Tryd.underlying3 (wf_k hk)

/-- 'delete(d.cache, block)' -/
theorem wpList_dropD {ops : Array Oper} {rest : List Oper} {o : Oper} {a : Act} {w : World} {Q : Exit → Act → World → Prop} (hgd : o.guard = none) (m x : Operand) (ho : o.op = Op.call { callee := Callee.builtin Builtin.delete, args := #[m, x], argTypes := #[56, 3] })
    (L : Lay) (S : St) (k : Nat) (hm : a.eval m = .map (some L.cb)) (hx : a.eval x = .int .i64 (k : Int)) (hk : k < S.nb) (hR : Rep w L S)
    (h : ∀ w', Rep w' L (S.dropped k) → Grow w w' L.U L.U → wpList Tryd.prog ops Q rest (a.put o.dst (.tuple #[])) w') : wpList Tryd.prog ops Q (o :: rest) a w := by
  obtain ⟨A, D, hown, hc⟩ := hR
  have := hc.nb2
  refine wpList_delete_own w hgd m x 56 3 ho 52 kInt Tryd.underlying56 Rv L.cb 8192 D hm hown _ (kL k) hx (key_k (by omega)) ?_
  intro w' ho' ht
  obtain ⟨h1, h2, _, _⟩ := Rep.dropped hown hc hk ho' ht
  exact h w' h1 h2

theorem Through_any {w : World} {L : Lay} {S : St} (hR : Rep w L S) (b : Int) (v : Value) {l : List Nat} (hv : BSl w v l) :
    Calls Tryd.prog 8 #[PD L, .int .i64 b, v] w fun e w' => PutPost w L b (S.putErr b l.length) (S.through b l) e w' := by
  have HR := hide hR
  have HV := hide hv
  obtain ⟨A, D, ho, hc⟩ := hR
  have hp := hc.hp
  have c2 : w.cell? ⟨L.p, 2, none⟩ = some (medV L S) := dcell hp 2
  clear ho hc hp hv
  have HPUT := hide (put_m HR.out b v HV.out)
  have q1 := ifaceNe
  have q2 := nilNe
  unfold PD at HPUT ⊢
  unfold medV at HPUT c2
  by_cases h0 : S.putErr b l.length = 0
  · have hrng : 0 ≤ b ∧ b < S.nb := by
      by_cases h : 0 ≤ b ∧ b < S.nb
      · exact h
      · simp [St.putErr, h] at h0
    obtain ⟨k, rfl⟩ : ∃ k : Nat, b = (k : Int) := ⟨b.toNat, by omega⟩
    have e1 : S.through k l = ((S.step.laid k (some l)).dropped k).addTh := by rw [St.through, St.putSt, if_pos h0]; rfl
    have e2 : (S.putSt k l.length fun T => T.laid (k : Int).toNat (some l)) = S.step.laid k (some l) := by rw [St.putSt, if_pos h0]; rfl
    have hk : k < (S.step.laid k (some l)).nb := by show k < S.step.nb; rw [step_nb]; omega
    rw [e2, h0] at HPUT
    rw [e1, h0]
    clear e1 e2 h0 hrng
    generalize S.step.laid k (some l) = T at *
    go_enter Tryd.func8, Tryd.ntmps8
    go_wp2_with (first
      | (go_at_call 20; refine HPUT.out.mono ?_; rintro e w1 ⟨u, U', rfl, (⟨-, rfl⟩ | ⟨hn, -⟩), hR1, hG1⟩; have c3 : w1.cell? ⟨L.p, 3, none⟩ = some (.map (some L.cb)) := rcell hR1 3)
      | (at_delete; refine wpList_dropD rfl (.tmp 23) (.tmp 24) rfl { L with U := U' } T k rfl rfl hk hR1 ?_; intro w2 hR2 hG2; have c8 : w2.cell? ⟨L.p, 8, none⟩ = some (.int .i64 (T.dropped k).th) := rcell hR2 8; have f8 := rfree hR2 8))
    · go_ret
      obtain ⟨h1, h2, h3⟩ := hR2.store 8 (.int .i64 (wrap64 ((T.dropped k).th + 1))) T.off T.fuse T.rd T.wr (wrap64 ((T.dropped k).th + 1)) T.fl hR1.fz rfl
      exact PutPost.mk _ U' (.inl ⟨rfl, rfl⟩) h1 (hG1.trans (hG2.trans h2))
    · exact absurd rfl hn
  · have e1 : S.through b l = (S.putSt b l.length fun T => T.laid b.toNat (some l)) := by rw [St.through, St.putSt, St.putSt, if_neg h0, if_neg h0]
    rw [e1]
    clear e1
    generalize (S.putSt b l.length fun T => T.laid b.toNat (some l)) = T at *
    generalize S.putErr b l.length = n at *
    go_enter Tryd.func8, Tryd.ntmps8
    go_wp2_with (go_at_call 20; refine HPUT.out.mono ?_; rintro e w1 ⟨u, U', rfl, (⟨hn, -⟩ | ⟨hn, g, rfl, hE⟩), hR1, hG1⟩)
    · exact absurd hn h0
    · go_ret
      exact PutPost.mk _ U' (.inr ⟨hn, g, rfl, hE⟩) hR1 hG1

def St.spoilErr (S : St) (b : Int) : Int := if 0 ≤ b ∧ b < S.nb then 0 else 2
def St.spoil (S : St) (b : Int) : St := if 0 ≤ b ∧ b < S.nb then S.laid b.toNat none else S

theorem Spoil_any {w : World} {L : Lay} {S : St} (hR : Rep w L S) (b : Int) :
    Calls Tryd.prog 10 #[PD L, .int .i64 b] w fun e w' => PutPost w L b (S.spoilErr b) (S.spoil b) e w' := by
  have HR := hide hR
  obtain ⟨A, D, ho, hc⟩ := hR
  have hp := hc.hp
  have c2 : w.cell? ⟨L.p, 2, none⟩ = some (medV L S) := dcell hp 2
  have HP := hide hp
  have HC := hide hc
  clear ho hc hp
  unfold PD
  by_cases h1 : 0 ≤ b ∧ b < S.nb
  · have e1 : S.spoilErr b = 0 := if_pos h1
    have e2 : S.spoil b = S.laid b.toNat none := if_pos h1
    rw [e1, e2]
    obtain ⟨k, rfl⟩ : ∃ k : Nat, b = (k : Int) := ⟨b.toNat, by omega⟩
    have hd : decide (0 ≤ (k : Int) ∧ (k : Int) < S.nb) = true := by simp [h1]
    have hk : k < S.nb := by omega
    clear h1 e1 e2
    go_enter Tryd.func10, Tryd.ntmps10
    go_wp2_with (first
      | (go_at_call 23; refine (has_any HP.out _).mono ?_; rintro e w' ⟨rfl, rfl⟩; rw [hd])
      | (go_at_call 25; refine (mspoil_any HC.out hk).mono ?_; rintro e w' ⟨rfl, rfl⟩))
    go_ret
    obtain ⟨h1, h2, h3⟩ := HR.out.setMed hk nilS none rfl (fun l e => by simp at e)
    exact PutPost.mk _ L.U (.inl ⟨rfl, rfl⟩) h1 h2
  · have e1 : S.spoilErr b = 2 := if_neg h1
    have e2 : S.spoil b = S := if_neg h1
    rw [e1, e2]
    have hd : decide (0 ≤ b ∧ b < S.nb) = false := by simp [h1]
    clear h1 e1 e2
    go_enter Tryd.func10, Tryd.ntmps10
    go_wp2_with (first
      | (go_at_call 23; refine (has_any HP.out _).mono ?_; rintro e w' ⟨rfl, rfl⟩; rw [hd])
      | (go_at_call 24; refine (refused_any _ _ _).mono ?_; rintro e w' ⟨rfl, rfl⟩))
    go_ret
    exact PutPost.mk _ L.U (errIs_alloc HR.out (Nat.le_refl _) _ _ (by decide)) (HR.out.alloc _) ((Grow.refl _ _).alloc _)

def St.fused (S : St) (n : Int) : St := { S with fuse := if n < -1 then -1 else n }
theorem Fuse_any {w : World} {L : Lay} {S : St} (hR : Rep w L S) (n : Int) (hn : -9223372036854775808 ≤ n ∧ n ≤ 9223372036854775807) :
    Calls Tryd.prog 6 #[PD L, .int .i64 n] w fun e w' => e = .returned (.tuple #[]) ∧ Rep w' L (S.fused n) ∧ Grow w w' L.U L.U ∧ w'.heap.size = w.heap.size := by
  have HR := hide hR
  obtain ⟨A, D, ho, hc⟩ := hR
  have c5 : w.cell? ⟨L.p, 5, none⟩ = some (.int .i64 S.fuse) := dcell hc.hp 5
  have f5 := dfree hc.hp 5
  clear ho hc
  unfold PD
  by_cases h : n < -1
  · have e1 : S.fused n = { S with fuse := -1 } := by simp [St.fused, h]
    rw [e1]
    go_enter Tryd.func6, Tryd.ntmps6
    go_wp2
    go_end0
    obtain ⟨h1, h2, h3⟩ := HR.out.store 5 (.int .i64 (-1)) S.off (-1) S.rd S.wr S.th S.fl (by omega) rfl
    exact ⟨rfl, h1, h2, h3⟩
  · have e1 : S.fused n = { S with fuse := n } := by simp [St.fused, h]
    rw [e1]
    go_enter Tryd.func6, Tryd.ntmps6
    go_wp2
    go_end0
    obtain ⟨h1, h2, h3⟩ := HR.out.store 5 (.int .i64 n) S.off n S.rd S.wr S.th S.fl (by omega) rfl
    exact ⟨rfl, h1, h2, h3⟩
end Go.Proofs.YtepgiomgkgfioaaDoor.K
