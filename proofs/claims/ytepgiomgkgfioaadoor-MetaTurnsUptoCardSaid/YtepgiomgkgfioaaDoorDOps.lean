import Derived.Test.YtepgiomgkgfioaaDoorDPut
namespace Go.Proofs.YtepgiomgkgfioaaDoor.K
open Go.RowKit Go.Maps
set_option linter.unusedVariables false
set_option linter.unusedSimpArgs false
set_option maxRecDepth 20000

/-- the error that a writing step of one block answers -/
def St.putErr (S : St) (b : Int) (n : Nat) : Int := if ¬ (0 ≤ b ∧ b < S.nb) then 2 else if n ≠ S.sz then 3 else if S.stepOk = false then 22 else 0
def St.putSt (S : St) (b : Int) (n : Nat) (f : St → St) : St := if S.putErr b n = 0 then f S.step else if S.putErr b n = 22 then S.step else S
def ErrIs (w w' : World) (U : Nat → Prop) (v : Value) (b n : Int) : Prop := (n = 0 ∧ v = .nilIface) ∨ (n ≠ 0 ∧ ∃ g, v = errV g ∧ w.heap.size ≤ g ∧ w'.heap[g]? = some (berr b n) ∧ ¬ U g)

theorem errIs_alloc {w w1 : World} {L : Lay} {S : St} (hR : Rep w1 L S) (hs : w.heap.size ≤ w1.heap.size) (b n : Int) (hn : n ≠ 0) {g : Nat} (hg : g = w1.heap.size := by simp) : ErrIs w (w1.alloc (berr b n)) L.U (errV g) b n := by
  subst hg
  exact .inr ⟨hn, _, rfl, hs, Go.heap_alloc_new w1 _, fun hu => absurd (hR.uLt _ hu) (by omega)⟩
theorem ErrIs.of {w w' : World} {U : Nat → Prop} {v : Value} {b n : Int} (h : Refusal w w' U (.returned v) b n) (hn : n ≠ 0) : ErrIs w w' U v b n := by
  obtain ⟨g, e, h1, h2, h3⟩ := h
  exact .inr ⟨hn, g, by cases e; rfl, h1, h2, h3⟩

theorem rep_piece {w : World} {L : Lay} {S : St} (hR : Rep w L S) (l : List Nat) : Rep (w.alloc (.cells (l.map byteV).toArray 5)) { L with U := fun b => L.U b ∨ b = w.heap.size } S ∧ Grow w (w.alloc (.cells (l.map byteV).toArray 5)) L.U (fun b => L.U b ∨ b = w.heap.size) := by
  refine ⟨(hR.alloc _).wider (fun b h => .inl h) fun b h => ?_, ?_⟩
  · rcases h with h | h
    · have := hR.uLt b h; simp; omega
    · simp; omega
  · have h0 := Grow.ofBelow L.U ((Below.refl _ w).alloc (Nat.le_refl _) (.cells (l.map byteV).toArray 5))
    exact ⟨h0.os, h0.tape, h0.output, h0.size, h0.keep, fun b hb h => h.elim id fun e => by omega, fun b h => .inl h⟩

theorem put_c {w : World} {L : Lay} {S : St} (hR : Rep w L S) (b : Int) (v : Value) {l : List Nat} (hv : BSl w v l) (hb : ∀ k, (S.cache k).length + 1 ≤ 9382499223500) :
    Calls Tryd.prog 20 #[PD L, .iface 56 (.map (some L.cb)), .int .i64 b, v] w fun e w' => ∃ u U', e = .returned u ∧ ErrIs w w' U' u b (S.putErr b l.length) ∧ Rep w' { L with U := U' } (S.putSt b l.length fun T => T.pushed b.toNat l) ∧ Grow w w' L.U U' := by
  have HR := hide hR
  have HV := hide hv
  obtain ⟨A, D, ho, hc⟩ := hR
  have hp := hc.hp
  have hsz := hc.sz
  have c1 : w.cell? ⟨L.p, 1, none⟩ = some (.int .i64 (S.sz : Int)) := dcell hp 1
  have HP := hide hp
  clear ho hc hp
  obtain ⟨a, cap, rfl, hl, hm, hn, h256, _⟩ := hv
  unfold maxLen at hm
  clear hn h256
  by_cases h1 : 0 ≤ b ∧ b < S.nb
  · by_cases h2 : l.length = S.sz
    · obtain ⟨k, rfl⟩ : ∃ k : Nat, b = (k : Int) := ⟨b.toNat, by omega⟩
      have hk : k < S.nb := by omega
      have hkn : ((k : Int)).toNat = k := by simp
      rw [hkn]
      have hd : decide (0 ≤ (k : Int) ∧ (k : Int) < S.nb) = true := by simp [h1]
      obtain ⟨hR0, hG0⟩ := rep_piece HR.out l
      have HR0 := hide hR0
      have HG0 := hide hG0
      have H2 := hide h2
      have h1' := h1
      clear hR0 hG0 h1
      have hle : l.length ≤ 140737488355328 := by omega
      have hl0 : 0 < l.length := by omega
      rw [← h2] at c1
      have hP : PieceAt (w.alloc (.cells (l.map byteV).toArray 5)) w.heap.size l := ⟨Go.heap_alloc_new w _, HV.out.lt256, by unfold maxLen; omega, hl0⟩
      have HW := hide (write_c (L := { L with U := fun b => L.U b ∨ b = w.heap.size }) HR0.out (g := w.heap.size) (k := k) hk (.inr rfl) hP H2.out (hb k))
      clear hP
      clear hsz h2
      unfold PD at HW ⊢
      go_enter Tryd.func20, Tryd.ntmps20
      go_wp2_with (first
        | (go_at_call 23; refine (has_any HP.out _).mono ?_; rintro e w' ⟨rfl, rfl⟩; rw [hd])
        | (go_at_call 35; refine (copied_any _ l _ HV.out hle hl0).mono ?_; rintro e w' ⟨rfl, -, rfl⟩)
        | (go_at_call 34; refine HW.out.mono ?_; rintro e w2 (⟨hok, rfl, U', hR2, hG2⟩ | ⟨hok, ⟨ge, rfl, hge1, hge2, hge3⟩, hR2, hG2⟩)))
      · go_ret
        have e1 : S.putErr k l.length = 0 := by simp [St.putErr, h1', H2.out, hok]
        refine ⟨_, U', rfl, .inl ⟨e1, rfl⟩, ?_, HG0.out.trans hG2⟩
        rw [St.putSt, if_pos e1]
        exact hR2
      · go_ret
        have e1 : S.putErr k l.length = 22 := by simp [St.putErr, h1', H2.out, hok]
        refine ⟨_, _, rfl, ?_, ?_, HG0.out.trans hG2⟩
        · rw [e1]
          exact .inr ⟨by decide, ge, rfl, by simp at hge1; omega, hge2, hge3⟩
        · rw [St.putSt, if_neg (by rw [e1]; decide), if_pos e1]
          exact hR2
    · have hd : decide (0 ≤ b ∧ b < S.nb) = true := by simp [h1]
      have e1 : S.putErr b l.length = 3 := by simp [St.putErr, h1, h2]
      have e2 : (S.putSt b l.length fun T => T.pushed b.toNat l) = S := by rw [St.putSt, e1, if_neg (by decide), if_neg (by decide)]
      rw [e1, e2]
      have h2' : ¬ (l.length : Int) = (S.sz : Int) := by omega
      clear hsz h2 e1 e2 h1
      unfold PD
      go_enter Tryd.func20, Tryd.ntmps20
      go_wp2_with (first
        | (go_at_call 23; refine (has_any HP.out _).mono ?_; rintro e w' ⟨rfl, rfl⟩; rw [hd])
        | (go_at_call 24; refine (refused_any _ _ _).mono ?_; rintro e w' ⟨rfl, rfl⟩))
      go_ret
      exact ⟨_, _, rfl, errIs_alloc HR.out (Nat.le_refl _) _ _ (by decide), HR.out.alloc _, (Grow.refl _ _).alloc _⟩
  · have hd : decide (0 ≤ b ∧ b < S.nb) = false := by simp [h1]
    have e1 : S.putErr b l.length = 2 := by simp [St.putErr, h1]
    have e2 : (S.putSt b l.length fun T => T.pushed b.toNat l) = S := by rw [St.putSt, e1, if_neg (by decide), if_neg (by decide)]
    rw [e1, e2]
    clear hsz e1 e2 h1
    unfold PD
    go_enter Tryd.func20, Tryd.ntmps20
    go_wp2_with (first
      | (go_at_call 23; refine (has_any HP.out _).mono ?_; rintro e w' ⟨rfl, rfl⟩; rw [hd])
      | (go_at_call 24; refine (refused_any _ _ _).mono ?_; rintro e w' ⟨rfl, rfl⟩))
    go_ret
    exact ⟨_, _, rfl, errIs_alloc HR.out (Nat.le_refl _) _ _ (by decide), HR.out.alloc _, (Grow.refl _ _).alloc _⟩
theorem put_m {w : World} {L : Lay} {S : St} (hR : Rep w L S) (b : Int) (v : Value) {l : List Nat} (hv : BSl w v l) :
    Calls Tryd.prog 20 #[PD L, .iface 53 (medV L S), .int .i64 b, v] w fun e w' => ∃ u U', e = .returned u ∧ ErrIs w w' U' u b (S.putErr b l.length) ∧ Rep w' { L with U := U' } (S.putSt b l.length fun T => T.laid b.toNat (some l)) ∧ Grow w w' L.U U' := by
  have HR := hide hR
  have HV := hide hv
  obtain ⟨A, D, ho, hc⟩ := hR
  have hp := hc.hp
  have hsz := hc.sz
  have c1 : w.cell? ⟨L.p, 1, none⟩ = some (.int .i64 (S.sz : Int)) := dcell hp 1
  have HP := hide hp
  clear ho hc hp
  obtain ⟨a, cap, rfl, hl, hm, hn, h256, _⟩ := hv
  unfold maxLen at hm
  clear hn h256
  by_cases h1 : 0 ≤ b ∧ b < S.nb
  · by_cases h2 : l.length = S.sz
    · obtain ⟨k, rfl⟩ : ∃ k : Nat, b = (k : Int) := ⟨b.toNat, by omega⟩
      have hk : k < S.nb := by omega
      have hkn : ((k : Int)).toNat = k := by simp
      rw [hkn]
      have hd : decide (0 ≤ (k : Int) ∧ (k : Int) < S.nb) = true := by simp [h1]
      obtain ⟨hR0, hG0⟩ := rep_piece HR.out l
      have HR0 := hide hR0
      have HG0 := hide hG0
      have H2 := hide h2
      have h1' := h1
      clear hR0 hG0 h1
      have hle : l.length ≤ 140737488355328 := by omega
      have hl0 : 0 < l.length := by omega
      rw [← h2] at c1
      have hP : PieceAt (w.alloc (.cells (l.map byteV).toArray 5)) w.heap.size l := ⟨Go.heap_alloc_new w _, HV.out.lt256, by unfold maxLen; omega, hl0⟩
      have HW := hide (write_m (L := { L with U := fun b => L.U b ∨ b = w.heap.size }) HR0.out (g := w.heap.size) (k := k) hk (.inr rfl) hP H2.out)
      clear hP
      clear hsz h2
      unfold PD at HW ⊢
      go_enter Tryd.func20, Tryd.ntmps20
      go_wp2_with (first
        | (go_at_call 23; refine (has_any HP.out _).mono ?_; rintro e w' ⟨rfl, rfl⟩; rw [hd])
        | (go_at_call 35; refine (copied_any _ l _ HV.out hle hl0).mono ?_; rintro e w' ⟨rfl, -, rfl⟩)
        | (go_at_call 34; refine HW.out.mono ?_; rintro e w2 (⟨hok, rfl, hR2, hG2⟩ | ⟨hok, ⟨ge, rfl, hge1, hge2, hge3⟩, hR2, hG2⟩)))
      · go_ret
        have e1 : S.putErr k l.length = 0 := by simp [St.putErr, h1', H2.out, hok]
        refine ⟨_, _, rfl, .inl ⟨e1, rfl⟩, ?_, HG0.out.trans hG2⟩
        rw [St.putSt, if_pos e1]
        exact hR2
      · go_ret
        have e1 : S.putErr k l.length = 22 := by simp [St.putErr, h1', H2.out, hok]
        refine ⟨_, _, rfl, ?_, ?_, HG0.out.trans hG2⟩
        · rw [e1]
          exact .inr ⟨by decide, ge, rfl, by simp at hge1; omega, hge2, hge3⟩
        · rw [St.putSt, if_neg (by rw [e1]; decide), if_pos e1]
          exact hR2
    · have hd : decide (0 ≤ b ∧ b < S.nb) = true := by simp [h1]
      have e1 : S.putErr b l.length = 3 := by simp [St.putErr, h1, h2]
      have e2 : (S.putSt b l.length fun T => T.laid b.toNat (some l)) = S := by rw [St.putSt, e1, if_neg (by decide), if_neg (by decide)]
      rw [e1, e2]
      have h2' : ¬ (l.length : Int) = (S.sz : Int) := by omega
      clear hsz h2 e1 e2 h1
      unfold PD
      go_enter Tryd.func20, Tryd.ntmps20
      go_wp2_with (first
        | (go_at_call 23; refine (has_any HP.out _).mono ?_; rintro e w' ⟨rfl, rfl⟩; rw [hd])
        | (go_at_call 24; refine (refused_any _ _ _).mono ?_; rintro e w' ⟨rfl, rfl⟩))
      go_ret
      exact ⟨_, _, rfl, errIs_alloc HR.out (Nat.le_refl _) _ _ (by decide), HR.out.alloc _, (Grow.refl _ _).alloc _⟩
  · have hd : decide (0 ≤ b ∧ b < S.nb) = false := by simp [h1]
    have e1 : S.putErr b l.length = 2 := by simp [St.putErr, h1]
    have e2 : (S.putSt b l.length fun T => T.laid b.toNat (some l)) = S := by rw [St.putSt, e1, if_neg (by decide), if_neg (by decide)]
    rw [e1, e2]
    clear hsz e1 e2 h1
    unfold PD
    go_enter Tryd.func20, Tryd.ntmps20
    go_wp2_with (first
      | (go_at_call 23; refine (has_any HP.out _).mono ?_; rintro e w' ⟨rfl, rfl⟩; rw [hd])
      | (go_at_call 24; refine (refused_any _ _ _).mono ?_; rintro e w' ⟨rfl, rfl⟩))
    go_ret
    exact ⟨_, _, rfl, errIs_alloc HR.out (Nat.le_refl _) _ _ (by decide), HR.out.alloc _, (Grow.refl _ _).alloc _⟩
end Go.Proofs.YtepgiomgkgfioaaDoor.K
