import Derived.Test.YtijfnacplikibaaKInv
namespace Go.Proofs.Ytijfnacplikibaa
open Go.RowKit
set_option linter.unusedVariables false
set_option linter.unusedSimpArgs false
set_option maxRecDepth 20000

/-- what one call of a script leaves: lists, waiting -/
def cal (n : Nat) (L : LL) (ws wt kind e md o : Int) : LL × Int :=
  if kind = 1 then ((acq n L ws wt e o md).L, (acq n L ws wt e o md).wt) else if kind = 2 then ((rls n L wt e o).L, (rls n L wt e o).wt)
  else if kind = 3 then ((drp n L wt o n).L, (drp n L wt o n).wt) else (L, wt)
theorem cal_wf {n : Nat} {L : LL} {ws wt : Int} {B : Nat} (h : WF n L ws wt B) (kind e md o : Int) : WF n (cal n L ws wt kind e md o).1 ws (cal n L ws wt kind e md o).2 (B + 1) := by
  unfold cal
  split
  · exact acq_wf h e o md
  · split
    · exact (rls_wf h e o).mono (Nat.le_succ _)
    · split
      · exact (drp_wf h o n).mono (Nat.le_succ _)
      · exact h.mono (Nat.le_succ _)
theorem cal_ok {n : Nat} {L : LL} (h : Ok n L) (ws wt kind e md o : Int) : Ok n (cal n L ws wt kind e md o).1 := by
  unfold cal
  split
  · exact ok_acq h ws wt e o md
  · split
    · exact ok_rls h wt e o
    · split
      · exact ok_drp h wt o n
      · exact h
def opRow (kind : Int) (snd : Bool) (e md o : Int) : Array Value := #[.int .i64 kind, .bool snd, .int .i64 e, .int .i64 md, .int .i64 o]
set_option maxHeartbeats 2000000 in
theorem call_any (w : World) (p b : Nat) (n : Nat) (V : Nat → Value) (L : LL) (ws wt : Int) (kind : Int) (snd : Bool) (e md o : Int) (B : Nat) (h : TRep w p b 0 n V L ws wt) (hw : WF n L ws wt B) (hB : B ≤ 3900000000000) :
    Calls Try.prog 11 #[.pointer (some ⟨p, 0, none⟩), .agg (opRow kind snd e md o)] w fun e' w' => e' = .returned (.tuple #[]) ∧ ∃ V', TRep w' p b 0 n V' (cal n L ws wt kind e md o).1 ws (cal n L ws wt kind e md o).2 ∧ Tr (fun _ => False) w w' (TU p b n V) (TU p b n V') := by
  have hb0 := (Below.refl w.heap.size w).alloc (Nat.le_refl _) (.cells (opRow kind snd e md o) 30)
  have HB := hide hb0
  have HT := hide (h.below hb0)
  have HD := hide ((h.below hb0).kept (w' := (w.alloc (.cells (opRow kind snd e md o) 30)).drew) fun _ _ => rfl)
  have HA := hide fun x (hx : TRep x p b 0 n V L ws wt) => Acquire_any x p b n V L ws wt e md o B hx hw (by omega)
  have HR := hide fun x (hx : TRep x p b 0 n V L ws wt) => Release_any x p b n V L ws wt e o B hx hw hB
  have HDr := hide fun x (hx : TRep x p b 0 n V L ws wt) => Drop_any x p b n V L ws wt o B hx hw hB
  have HT0 : Hid (Tr (fun _ => False) w (w.alloc (.cells (opRow kind snd e md o) 30)) (TU p b n V) (TU p b n V)) := hide (Tr.ofBelow hb0)
  have HT1 : Hid (Tr (fun _ => False) w (w.alloc (.cells (opRow kind snd e md o) 30)).drew (TU p b n V) (TU p b n V)) := hide (Tr.ofBelow (below_drewN hb0 1))
  unfold opRow at *
  clear h hb0 hw
  by_cases k1 : kind = 1
  · subst k1
    have ec : cal n L ws wt 1 e md o = ((acq n L ws wt e o md).L, (acq n L ws wt e o md).wt) := if_pos rfl
    rw [ec]
    generalize acq n L ws wt e o md = A at *
    clear ec HR HDr
    go_enter Try.func11, Try.ntmps11
    go_wp2_with (go_at_call 12; refine (HA.out _ HT.out).mono ?_; rintro e' w2 ⟨rfl, V', hT2, hTr2⟩; have HT2 := hide hT2; have HR2 := hide (HT0.out.trans hTr2); clear hT2 hTr2 HA)
    go_end0
    exact ⟨rfl, V', HT2.out, HR2.out⟩
  · have z1 : (kind == 1) = false := by simpa using k1
    by_cases k2 : kind = 2
    · subst k2
      have ec : cal n L ws wt 2 e md o = ((rls n L wt e o).L, (rls n L wt e o).wt) := rfl
      rw [ec]
      generalize rls n L wt e o = A at *
      clear ec HA HDr k1 z1
      go_enter Try.func11, Try.ntmps11
      go_wp2_with (go_at_call 16; refine (HR.out _ HT.out).mono ?_; rintro e' w2 ⟨v, V', rfl, hTL⟩; have HT2 := hide hTL.t; have HR2 := hide (HT0.out.trans hTL.tr); clear hTL HR)
      go_end0
      exact ⟨rfl, V', HT2.out, HR2.out⟩
    · have z2 : (kind == 2) = false := by simpa using k2
      by_cases k3 : kind = 3
      · subst k3
        have ec : cal n L ws wt 3 e md o = ((drp n L wt o n).L, (drp n L wt o n).wt) := rfl
        rw [ec]
        generalize drp n L wt o n = A at *
        clear ec HA HR k1 z1 k2 z2
        go_enter Try.func11, Try.ntmps11
        go_wp2_with (go_at_call 19; refine (HDr.out _ HT.out).mono ?_; rintro e' w2 ⟨v, V', rfl, hTL⟩; have HT2 := hide hTL.t; have HR2 := hide (HT0.out.trans hTL.tr); clear hTL HDr)
        go_end0
        exact ⟨rfl, V', HT2.out, HR2.out⟩
      · have z3 : (kind == 3) = false := by simpa using k3
        have ec : cal n L ws wt kind e md o = (L, wt) := by unfold cal; rw [if_neg k1, if_neg k2, if_neg k3]
        rw [ec]
        clear ec HA HR HDr k1 k2 k3
        go_enter Try.func11, Try.ntmps11
        go_wp2_with fail
        go_end0
        exact ⟨rfl, V, HT.out, HT0.out⟩
end Go.Proofs.Ytijfnacplikibaa
