import Derived.Test.YtophcdfaflehcaaDoorBSetR
namespace Go.Proofs.YtophcdfaflehcaaDoor
open Go.RowKit Go.Shelf
attribute [local go_sem] Oper.semAt_some
set_option linter.unusedVariables false
set_option linter.unusedSimpArgs false
set_option maxRecDepth 20000

theorem nx_facts {B n a i : Nat} (h : nx B n a = some i) (ha : a ≤ n) : a ≤ i ∧ i < n ∧ B.testBit i = true ∧ ∀ j, a ≤ j → j < i → B.testBit j = false := by
  obtain ⟨h1, h2, h3, h4⟩ := fnd_is _ _ _ h
  exact ⟨h1, by omega, h3, h4⟩
theorem nx_no {B n a : Nat} (h : nx B n a = none) : ∀ j, a ≤ j → j < n → B.testBit j = false := fun j h1 h2 => fnd_isNone _ _ h j h1 (by omega)
theorem BRep.uniq {w : World} {L : BL} {n B B' : Nat} (h : BRep w L n B) (h' : BRep w L n B') : B = B' := by
  have hlen : ∀ {B : Nat}, BRep w L n B → B < 2 ^ (64 * nW n) := fun h => Nat.lt_of_lt_of_le h.hB (Nat.pow_le_pow_right (by decide) (by unfold nW; omega))
  refine wd_ext (m := nW n) (fun k hk => ?_) (hlen h) (hlen h')
  have e := (h.cl hk).symm.trans (h'.cl hk)
  simp only [Option.some.injEq, Value.int.injEq, true_and] at e
  omega
theorem All_any (w : World) (L : BL) :
    Calls Tryd.prog 22 #[PB L] w fun r w' => r = .returned (.func (.func 32) #[] #[.pointer (some ⟨w.heap.size, 0, none⟩)]) ∧ w' = w.alloc (.cells #[PB L] 56) := by
  unfold PB
  go_enter Tryd.func22, Tryd.ntmps22
  go_wp2
  go_ret
  exact ⟨rfl, rfl⟩
def alEnc (x : Nat) : Array Value := #[.int .i64 (x : Int)]
def alStep (L : BL) (n : Nat) (s : Nat) (x : Nat) (s' : Nat) (W : World) : Prop := ∃ B, BRep W L n B ∧ nx B n s = some x ∧ s' = x + 1
def alEnd (L : BL) (n : Nat) (s : Nat) (W : World) : Prop := ∃ B, BRep W L n B ∧ nx B n s = none
def alInv (L : BL) (n b : Nat) (s : Nat) (W : World) : Prop := (∃ B, BRep W L n B) ∧ TabAt W ∧ W.cell? ⟨b, 0, none⟩ = some (PB L)
theorem enters_all : ∀ args w, (callFunc 32 args).run Tryd.prog w = .ok (.enter 32 args) w := enters_of Tryd.func32 (by kernel_rfl) rfl

set_option maxHeartbeats 1000000 in
theorem all_seq (m b : Nat) (L : BL) (n : Nat) :
    SeqSt Fence.wide m Tryd.prog 32 #[.pointer (some ⟨b, 0, none⟩)] alEnc (alStep L n) (alEnd L n) (alInv L n b) 0 := by
  intro l J Jx W hInv hJ hJx hY h0
  refine callsIn_of_wp Tryd.func32 rfl trivial ?_ rfl
  simp only [Tryd.ntmps32, List.size_toArray, List.length_cons, List.length_nil, Nat.reduceAdd, Nat.reduceSub, Array.replicate_succ, Array.replicate_zero, List.push_toArray, List.append_toArray, List.nil_append, List.cons_append]
  gi_wp2
  gi_loopw [3] (fun p wr => ∃ s : Nat, p = .int .i64 (s : Int) ∧ s ≤ n ∧ J s wr) (fun p wr => n - (intOf p).toNat)
  case atStart => exact ⟨0, rfl, Nat.zero_le _, h0⟩
  case round =>
    obtain ⟨s, rfl, hs, hj⟩ := hrel
    obtain ⟨⟨B, hR⟩, hT, hc⟩ := hInv s wr hj
    have hn := hR.n2
    have hN := Next_any hR hT (s : Int)
    rw [Int.toNat_natCast] at hN
    cases hx : nx B n s with
    | none =>
      rw [hx] at hN
      have HE : Hid (alEnd L n s wr) := hide ⟨B, hR, hx⟩
      have HN := hide hN
      have HJ := hide hj
      simp only [orN] at HN
      clear hN hx hR hT hY hInv h0 hj
      unfold PB at *
      gi_wp2_with ((refine ⟨trivial, fun h => by simp [Fence.wide] at h, ?_⟩; gi_at_call 28; refine (callsIn_wide.2 HN.out).mono ?_; rintro e w' ⟨rfl, rfl⟩))
      refine ⟨(fun f h => nomatch h), ?_⟩
      gi_wp2
      refine bodyPost_ret (results_none rfl _ _ _) rfl ?_
      exact ⟨⟨_, rfl⟩, .inl ⟨s, HE.out, HJ.out⟩⟩
    | some i =>
      rw [hx] at hN
      obtain ⟨r1, r2, r3, r4⟩ := nx_facts hx hs
      have hYs := hY s i _ wr hj ⟨B, hR, hx, rfl⟩
      have HN := hide hN
      simp only [orN] at HN
      obtain ⟨fn, tmps, assign, body, hy, hR2⟩ := hYs
      simp only [alEnc] at hy
      have HY := hide hY
      have HI := hide hInv
      clear hN hx hR hT hY hInv h0 hj r3 r4
      have hneg : ¬ (i : Int) < 0 := by omega
      unfold PB at *
      gi_wp2_with (first
        | (refine ⟨trivial, fun h => by simp [Fence.wide] at h, ?_⟩; gi_at_call 28; refine (callsIn_wide.2 HN.out).mono ?_; rintro e w' ⟨rfl, rfl⟩))
      refine ⟨fun h => by simp [Fence.wide] at h, hR2.mono ?_⟩
      rintro r W3 (⟨rfl, hJ3⟩ | ⟨rfl, hJx3⟩)
      · gi_wp2
        go_roundw
        case rel => exact ⟨i + 1, by go_num, r2, hJ3⟩
        case measure => simp [intOf]; omega
      · gi_wp2
        refine bodyPost_ret (results_none rfl _ _ _) rfl ?_
        exact ⟨⟨_, rfl⟩, .inr hJx3⟩
end Go.Proofs.YtophcdfaflehcaaDoor
