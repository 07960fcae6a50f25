import Derived.Test.YtophcdfaflehcaaDoorWLoop
namespace Go.Proofs.YtophcdfaflehcaaDoor
open Go.RowKit Go.Shelf
attribute [local go_sem] Oper.semAt_some
set_option linter.unusedVariables false
set_option linter.unusedSimpArgs false
set_option maxRecDepth 20000

theorem ORow.uniq {w : World} {v : Value} {l l' : List Int} (h : ORow w v l) (h' : ORow w v l') : l = l' := by
  rcases h with ⟨rfl, rfl⟩ | ⟨g, off, cap, cur, rfl, hg, h1, h2, h3, h4⟩
  · rcases h' with ⟨_, rfl⟩ | ⟨g, off, cap, cur, e, _⟩
    · rfl
    · cases e
  · rcases h' with ⟨e, _⟩ | ⟨g', off', cap', cur', e, hg', k1, k2, k3, k4⟩
    · cases e
    · simp only [Value.slice.injEq, Option.some.injEq, Addr.mk.injEq] at e
      obtain ⟨⟨rfl, rfl, -⟩, e2, rfl⟩ := e
      rw [hg] at hg'
      simp only [Option.some.injEq, Obj.cells.injEq] at hg'
      obtain ⟨rfl, -, -⟩ := hg'
      rw [← e2] at k4
      rw [k4] at h4
      exact (List.map_inj_right (fun a b e => by unfold iV at e; simpa using e)).1 h4.symm
theorem WR.uniq {w : World} {p : Nat} {v v' : Value} {l l' : List Int} (h : WR w p v l) (h' : WR w p v' l') : v = v' ∧ l = l' := by
  have e := h.row
  rw [h'.row] at e
  simp only [Option.some.injEq, Obj.cells.injEq] at e
  have e1 : v' = v := by simpa using e.1
  subst e1
  exact ⟨rfl, h.list.uniq h'.list⟩

theorem Rest_any (w : World) (p : Nat) :
    Calls Tryd.prog 13 #[.pointer (some ⟨p, 0, none⟩)] w fun r w' => r = .returned (.func (.func 24) #[] #[.pointer (some ⟨w.heap.size, 0, none⟩)]) ∧ w' = w.alloc (.cells #[.pointer (some ⟨p, 0, none⟩)] 23) := by
  go_enter Tryd.func13, Tryd.ntmps13
  go_wp2
  go_ret
  exact ⟨rfl, rfl⟩
/-- where the loop stands: how many are left at most; what is in hand -/
abbrev RSt := Nat × Option Int
def rsEnc (x : Int) : Array Value := #[.int .i64 x]
def rsStep (s : RSt) (x : Int) (s' : RSt) (_W : World) : Prop := s.2 = some x ∧ s' = (s.1, none)
def rsEnd (p : Nat) (s : RSt) (W : World) : Prop := s.2 = none ∧ ∃ v, WR W p v []
def rsInv (p b : Nat) (s : RSt) (W : World) : Prop := s.2 = none → (∃ v L, WR W p v L ∧ L.length ≤ s.1) ∧ W.cell? ⟨b, 0, none⟩ = some (.pointer (some ⟨p, 0, none⟩))
def rsMv (p : Nat) (s s' : RSt) (W W' : World) : Prop := ∃ k x v v' L, s = (k, none) ∧ s' = (L.length, some x) ∧ WR W p v (x :: L) ∧ WR W' p v' L ∧ v'.ownBlock = v.ownBlock ∧ Chg (fun b => b = p) W W'
theorem enters_rest : ∀ args w, (callFunc 24 args).run Tryd.prog w = .ok (.enter 24 args) w := enters_of Tryd.func24 (by kernel_rfl) rfl

/-- how many a walker has left, off its cell -/
def lenAt (p : Nat) (W : World) : Nat := match W.cell? ⟨p, 0, none⟩ with
  | some (.slice _ n _) => n
  | _ => 0
theorem WR.lenAt {w : World} {p : Nat} {v : Value} {l : List Int} (h : WR w p v l) : lenAt p w = l.length := by
  obtain ⟨a, c, rfl⟩ := h.list.form
  unfold Go.Proofs.YtophcdfaflehcaaDoor.lenAt
  rw [cell_of_row _ _ _ _ _ _ h.row]
  rfl
set_option maxHeartbeats 1000000 in
theorem rest_seq (m b p k0 : Nat) :
    SeqMv Fence.wide m Tryd.prog 24 #[.pointer (some ⟨b, 0, none⟩)] rsEnc rsStep (rsEnd p) (rsInv p b) (rsMv p) (k0, none) := by
  intro l J Jx W hInv hJ hJx hM hY h0
  refine callsIn_of_wp Tryd.func24 rfl trivial ?_ rfl
  simp only [Tryd.ntmps24, List.size_toArray, List.length_cons, List.length_nil, Nat.reduceAdd, Nat.reduceSub, Array.replicate_succ, Array.replicate_zero, List.push_toArray, List.append_toArray, List.nil_append, List.cons_append]
  gi_wp2
  gi_loopw [] (fun wr => ∃ k : Nat, J (k, none) wr) (fun wr => lenAt p wr)
  case atStart => exact ⟨k0, h0⟩
  case round =>
    obtain ⟨k, hj⟩ := hrel
    obtain ⟨⟨v, L, hW, hL⟩, hc⟩ := hInv _ wr hj rfl
    cases L with
    | nil =>
      have HN := hide (next_none hW)
      have HE : Hid (rsEnd p (k, none) wr) := hide ⟨rfl, v, hW⟩
      have HJ := hide hj
      clear hW hY hInv h0 hj hM
      gi_wp2_with ((refine ⟨trivial, fun h => by simp [Fence.wide] at h, ?_⟩; gi_at_call 12; refine (callsIn_wide.2 HN.out).mono ?_; rintro e w' ⟨rfl, rfl⟩))
      refine ⟨(fun f h => nomatch h), ?_⟩
      gi_wp2
      refine bodyPost_ret (results_none rfl _ _ _) rfl ?_
      exact ⟨⟨_, rfl⟩, .inl ⟨_, HE.out, HJ.out⟩⟩
    | cons x L =>
      have HN := hide (next_some hW)
      have HLA := hide hW.lenAt
      have HM : Hid (∀ w', (∃ v', WR w' p v' L ∧ v'.ownBlock = v.ownBlock) → Chg (fun k => k = p) wr w' → J (L.length, some x) w') := hide fun w' ⟨v', h1, h2⟩ h3 => hM _ _ _ _ hj ⟨k, x, v, v', L, rfl, rfl, hW, h1, h2, h3⟩
      have HY := hide fun w' (h : J (L.length, some x) w') => hY _ x (L.length, none) w' h ⟨rfl, rfl⟩
      have HI := hide hInv
      clear hW hY hInv h0 hj hM
      gi_wp2_with ((refine ⟨trivial, fun h => by simp [Fence.wide] at h, ?_⟩; gi_at_call 12; refine (callsIn_wide.2 HN.out).mono ?_; rintro e w' ⟨rfl, hv', hc'⟩; have hJ' := HM.out _ hv' hc'; obtain ⟨fn, tmps, assign, body, hy, hR2⟩ := HY.out _ hJ'; simp only [rsEnc] at hy; clear hJ' hv' hc'))
      refine ⟨fun h => by simp [Fence.wide] at h, hR2.mono ?_⟩
      rintro r W3 (⟨rfl, hJ3⟩ | ⟨rfl, hJx3⟩)
      · gi_wp2
        go_roundw
        case rel => exact ⟨_, hJ3⟩
        case measure =>
          obtain ⟨⟨v3, L3, h3, h4⟩, -⟩ := HI.out _ _ hJ3 rfl
          rw [HLA.out, h3.lenAt]
          simp at h4 ⊢
          omega
      · gi_wp2
        refine bodyPost_ret (results_none rfl _ _ _) rfl ?_
        exact ⟨⟨_, rfl⟩, .inr hJx3⟩
end Go.Proofs.YtophcdfaflehcaaDoor
