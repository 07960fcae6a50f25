import Derived.Test.YtcjilmafdpnfeaaDoorWRefG
namespace Go.Proofs.YtcjilmafdpnfeaaDoor
open Go.RowKit
open Num
set_option linter.unusedVariables false
set_option linter.unusedSimpArgs false

theorem num_any (w : World) (x : Int) : Calls Tryd.prog 8 #[.int .i64 x] w fun e w' => e = .returned (.int .i64 x) ∧ w' = w := by
  go_enter Tryd.func8, Tryd.ntmps8
  go_wp2
  go_ret
  exact ⟨rfl, rfl⟩

theorem spoil_nil (w : World) : Calls Tryd.prog 10 #[.slice none 0 0] w fun e w' => e = .returned (.tuple #[]) ∧ w' = w := by
  go_enter Tryd.func10, Tryd.ntmps10
  go_wp2
  go_loop [2] (fun i => i = .int .i64 0) (fun _ => 0)
  case atStart => rfl
  case round =>
    obtain rfl := hrel
    go_wp2
    go_end0
    exact ⟨rfl, rfl⟩

/-- spoil, of bytes of one's own: only their block is written -/
theorem spoil_own (w : World) (base : Nat) (v : Value) (l : List Nat) (hl : l.length ≤ 140737488355328) (h : Own w base v l) : Calls Tryd.prog 10 #[v] w fun e w' => e = .returned (.tuple #[]) ∧ Below base w w' ∧ w'.heap.size = w.heap.size ∧ (∀ j, v.ownBlock ≠ some j → w'.heap[j]? = w.heap[j]?) := by
  rcases h.1.2 with ⟨rfl, h0⟩ | ⟨g, cap, cur, rfl, h1, hg, r⟩
  · refine (spoil_nil w).mono ?_
    rintro e w' ⟨rfl, rfl⟩
    exact ⟨rfl, Below.refl _ _, rfl, fun _ _ => rfl⟩
  · refine (spoil_any g cap l.length l base w (Nat.le_refl _) (by omega) h1 h).mono ?_
    rintro e w' ⟨rfl, _, h3, h4, h5⟩
    exact ⟨rfl, h3, h4, fun j hj => h5 j (fun e => hj (by simp [Value.ownBlock, e]))⟩

/-- 'given', of a roomy list that may be written elsewhere later -/
theorem given_all (g cap n : Nat) (base : Nat) (v : Value) (l m : List Nat) (w : World) (h : BSl w v l) (hn : n = (l ++ m).length) (ho : Own w base (.slice (some ⟨g, 0, none⟩) n cap) (l ++ m)) :
    Calls Tryd.prog 6 #[.slice (some ⟨g, 0, none⟩) n cap, v] w fun e w' => ∃ ao co, e = .returned (.slice ao l.length co) ∧ w' = w ∧ ∀ y, Own y base (.slice (some ⟨g, 0, none⟩) n cap) (l ++ m) → BSl y (.slice ao l.length co) l := by
  subst hn
  have hs : (l ++ m).length ≤ cap ∧ cap ≤ maxLen := by
    rcases ho.1.2 with ⟨h0, _⟩ | ⟨g', cap', cur, h0, hb, hg, hn, hmm, _⟩
    · simp at h0
    · simp only [Value.slice.injEq, Option.some.injEq, Addr.mk.injEq, and_true, true_and] at h0
      obtain ⟨rfl, rfl⟩ := h0
      exact ⟨hn, hmm⟩
  have hle : l.length ≤ (l ++ m).length := by simp
  refine (given_any g cap _ v l w h hle hs.1 hs.2).mono ?_
  rintro e w' ⟨⟨rfl, rfl⟩ | rfl, rfl⟩
  · exact ⟨none, 0, rfl, rfl, fun y _ => ⟨none, 0, rfl, Nat.le_refl _, by unfold maxLen; omega, fun _ => rfl, by simp, by simp⟩⟩
  · refine ⟨_, _, rfl, rfl, fun y hy => ?_⟩
    have := hy.part l.length hle
    rw [List.take_left] at this
    exact this

end Go.Proofs.YtcjilmafdpnfeaaDoor
