import Derived.Test.YtglajdmkbckjjabDoorBMeth
namespace Go.Proofs.YtglajdmkbckjjabDoor
open Go.RowKit Go.Shelf
attribute [local go_sem] Oper.semAt_some
set_option linter.unusedVariables false
set_option linter.unusedSimpArgs false
set_option maxRecDepth 20000

theorem BRep.uniq {w : World} {L : BL} {n B B' : Nat} (h : BRep w L n B) (h' : BRep w L n B') : B = B' := by
  have hlen : ∀ {B : Nat}, BRep w L n B → B < 2 ^ (64 * nW n) := fun h => Nat.lt_of_lt_of_le h.hB (Nat.pow_le_pow_right (by decide) (by unfold nW; omega))
  refine wd_ext (m := nW n) (fun k hk => ?_) (hlen h) (hlen h')
  have e := (h.cl hk).symm.trans (h'.cl hk)
  simp only [Option.some.injEq, Value.int.injEq, true_and] at e
  omega

theorem Runs_any (w : World) (L : BL) :
    Calls Tryd.prog 27 #[PB L] w fun r w' => r = .returned (.func (.func 54) #[] #[.pointer (some ⟨w.heap.size, 0, none⟩)]) ∧ w' = w.alloc (.cells #[PB L] 44) := by
  unfold PB
  go_enter Tryd.func27, Tryd.ntmps27
  go_wp2
  go_ret
  exact ⟨rfl, rfl⟩

/-- a run: where it begins, where it ends -/
def rnEnc (x : Nat × Nat) : Array Value := #[.int .i64 (x.1 : Int), .int .i64 ((x.2 : Int) - (x.1 : Int))]
def rnStep (L : BL) (n : Nat) (s : Nat) (x : Nat × Nat) (s' : Nat) (W : World) : Prop := ∃ B, BRep W L n B ∧ nx B n s = some x.1 ∧ x.2 = (nc B n x.1).getD n ∧ s' = x.2
def rnEnd (L : BL) (n : Nat) (s : Nat) (W : World) : Prop := ∃ B, BRep W L n B ∧ nx B n s = none
def rnInv (L : BL) (n b : Nat) (s : Nat) (W : World) : Prop := (∃ B, BRep W L n B) ∧ TabAt W ∧ W.cell? ⟨b, 0, none⟩ = some (PB L)
theorem run_ends {B n s i : Nat} (hs : s ≤ n) (h : nx B n s = some i) : s ≤ i ∧ i < (nc B n i).getD n ∧ (nc B n i).getD n ≤ n := by
  obtain ⟨h1, h2, h3, h4⟩ := fnd_is _ _ _ h
  cases hc : nc B n i with
  | none => simp only [Option.getD]; omega
  | some e =>
    obtain ⟨k1, k2, k3, k4⟩ := fnd_is _ _ _ hc
    simp only [Option.getD]
    refine ⟨h1, ?_, by omega⟩
    rcases Nat.lt_or_ge i e with hh | hh
    · exact hh
    · have : e = i := by omega
      rw [this, h3] at k3
      simp at k3

set_option maxHeartbeats 1000000 in
theorem runs_seq (m b : Nat) (L : BL) (n : Nat) :
    SeqSt Fence.wide m Tryd.prog 54 #[.pointer (some ⟨b, 0, none⟩)] rnEnc (rnStep L n) (rnEnd L n) (rnInv L n b) 0 := by
  intro l J Jx W hInv hJ hJx hY h0
  refine callsIn_of_wp Tryd.func54 rfl trivial ?_ rfl
  simp only [Tryd.ntmps54, List.size_toArray, List.length_cons, List.length_nil, Nat.reduceAdd, Nat.reduceSub, Array.replicate_succ, Array.replicate_zero, List.push_toArray, List.append_toArray, List.nil_append, List.cons_append]
  gi_wp2
  gi_loopw [3] (fun p wr => ∃ s : Nat, p = .int .i64 (s : Int) ∧ s ≤ n ∧ J s wr) (fun p wr => n - (intOf p).toNat)
  case atStart => exact ⟨0, rfl, Nat.zero_le _, h0⟩
  case round =>
    obtain ⟨s, rfl, hs, hj⟩ := hrel
    obtain ⟨⟨B, hR⟩, hT, hc⟩ := hInv s wr hj
    have hn := hR.n2
    have hN := Next_any hR hT (s : Int)
    rw [Int.toNat_natCast] at hN
    cases hx : nx B n s with
    | none =>
      rw [hx] at hN
      have HE : Hid (rnEnd L n s wr) := hide ⟨B, hR, hx⟩
      have HN := hide hN
      have HJ := hide hj
      simp only [orN] at HN
      clear hN hx hR hT hY hInv h0 hj
      unfold PB at *
      gi_wp2_with ((refine ⟨trivial, fun h => by simp [Fence.wide] at h, ?_⟩; gi_at_call 43; refine (callsIn_wide.2 HN.out).mono ?_; rintro e w' ⟨rfl, rfl⟩))
      refine bodyPost_ret (results_none rfl _ _ _) rfl ?_
      exact ⟨⟨_, rfl⟩, .inl ⟨s, HE.out, HJ.out⟩⟩
    | some i =>
      rw [hx] at hN
      obtain ⟨r1, r2, r3⟩ := run_ends hs hx
      have hE := endOfRun_any hR hT i
      have hYs := hY s (i, (nc B n i).getD n) _ wr hj ⟨B, hR, hx, rfl, rfl⟩
      generalize (nc B n i).getD n = en at *
      have HN := hide hN
      have HE := hide hE
      simp only [orN] at HN
      obtain ⟨fn, tmps, assign, body, hy, hR2⟩ := hYs
      simp only [rnEnc] at hy
      have HY := hide hY
      have HI := hide hInv
      clear hN hE hx hR hT hY hInv h0 hj
      unfold PB at *
      gi_wp2_with (first
        | (refine ⟨trivial, fun h => by simp [Fence.wide] at h, ?_⟩; gi_at_call 43; refine (callsIn_wide.2 HN.out).mono ?_; rintro e w' ⟨rfl, rfl⟩)
        | (refine ⟨trivial, fun h => by simp [Fence.wide] at h, ?_⟩; gi_at_call 55; refine (callsIn_wide.2 HE.out).mono ?_; rintro e w' ⟨rfl, rfl⟩))
      refine ⟨fun h => by simp [Fence.wide] at h, hR2.mono ?_⟩
      rintro r W3 (⟨rfl, hJ3⟩ | ⟨rfl, hJx3⟩)
      · gi_wp2
        go_roundw
        case rel => exact ⟨en, rfl, r3, hJ3⟩
        case measure => simp [intOf]; omega
      · gi_wp2
        refine bodyPost_ret (results_none rfl _ _ _) rfl ?_
        exact ⟨⟨_, rfl⟩, .inr hJx3⟩
end Go.Proofs.YtglajdmkbckjjabDoor
