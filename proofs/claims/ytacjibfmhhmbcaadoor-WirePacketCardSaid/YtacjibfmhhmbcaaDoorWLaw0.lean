import Derived.Test.YtacjibfmhhmbcaaDoorWRefG
namespace Go.Proofs.YtacjibfmhhmbcaaDoor
open Go.RowKit
open Num
set_option linter.unusedVariables false
set_option linter.unusedSimpArgs false

theorem num_any (w : World) (x : Int) : Calls Tryd.prog 9 #[.int .i64 x] w fun e w' => e = .returned (.int .i64 x) ∧ w' = w := by
  go_enter Tryd.func9, Tryd.ntmps9
  go_wp2
  go_ret
  exact ⟨rfl, rfl⟩

theorem spoil_nil (w : World) : Calls Tryd.prog 17 #[.slice none 0 0] w fun e w' => e = .returned (.tuple #[]) ∧ w' = w := by
  go_enter Tryd.func17, Tryd.ntmps17
  go_wp2
  go_loop [2] (fun i => i = .int .i64 0) (fun _ => 0)
  case atStart => rfl
  case round =>
    obtain rfl := hrel
    go_wp2
    go_end0
    exact ⟨rfl, rfl⟩

/-- spoil, of bytes of one's own: only their block is written -/
theorem spoil_own (w : World) (base : Nat) (v : Value) (l : List Nat) (hl : l.length ≤ 140737488355328) (h : Own w base v l) : Calls Tryd.prog 17 #[v] w fun e w' => e = .returned (.tuple #[]) ∧ Below base w w' ∧ w'.heap.size = w.heap.size ∧ (∀ j, v.ownBlock ≠ some j → w'.heap[j]? = w.heap[j]?) := by
  rcases h.1.2 with ⟨rfl, h0⟩ | ⟨g, cap, cur, rfl, h1, hg, r⟩
  · refine (spoil_nil w).mono ?_
    rintro e w' ⟨rfl, rfl⟩
    exact ⟨rfl, Below.refl _ _, rfl, fun _ _ => rfl⟩
  · refine (spoil_any g cap l.length l base w (Nat.le_refl _) (by omega) h1 h).mono ?_
    rintro e w' ⟨rfl, _, h3, h4, h5⟩
    exact ⟨rfl, h3, h4, fun j hj => h5 j (fun e => hj (by simp [Value.ownBlock, e]))⟩

set_option maxHeartbeats 1000000 in
theorem sameFrame_eq (w : World) (k : Int) (a b c d : Nat) (v1 v2 : Value) (l : List Nat) (h1 : BSl w v1 l) (h2 : BSl w v2 l) :
    Calls Tryd.prog 38 #[frV k a b c d v1, frV k a b c d v2] w fun e w' => e = .returned (.bool true) ∧ Below w.heap.size w w' := by
  unfold frV
  have HB := fun o1 o2 => (((Below.refl w.heap.size w).alloc (Nat.le_refl _) o1).alloc (by simp) o2)
  have HS := hide fun o1 o2 => same_eq v1 v2 l _ (h1.below (HB o1 o2)) (h2.below (HB o1 o2))
  have HBB := hide HB
  clear HB
  obtain ⟨pa, pcap, rfl, hl1, hl2, hl3, _, _⟩ := id h1
  obtain ⟨pa2, pcap2, rfl, hl1', hl2', hl3', _, _⟩ := id h2
  unfold maxLen at hl2 hl2'
  clear h1 h2 hl3 hl3'
  rename_i dead1 dead2 dead3 dead4
  clear dead1 dead2 dead3 dead4
  go_enter Tryd.func38, Tryd.ntmps38
  go_wp2_with (go_at_call 14; refine (HS.out _ _).mono ?_; rintro e w' ⟨rfl, n, rfl⟩)
  go_ret
  exact ⟨rfl, below_drewN (HBB.out _ _) n⟩
/-- 'given', of a roomy list that may be written elsewhere later -/
theorem given_all (g cap n : Nat) (base : Nat) (v : Value) (l m : List Nat) (w : World) (h : BSl w v l) (hn : n = (l ++ m).length) (ho : Own w base (.slice (some ⟨g, 0, none⟩) n cap) (l ++ m)) :
    Calls Tryd.prog 11 #[.slice (some ⟨g, 0, none⟩) n cap, v] w fun e w' => ∃ ao co, e = .returned (.slice ao l.length co) ∧ w' = w ∧ ∀ y, Own y base (.slice (some ⟨g, 0, none⟩) n cap) (l ++ m) → BSl y (.slice ao l.length co) l := by
  subst hn
  have hs : (l ++ m).length ≤ cap ∧ cap ≤ maxLen := by
    rcases ho.1.2 with ⟨h0, _⟩ | ⟨g', cap', cur, h0, hb, hg, hn, hmm, _⟩
    · simp at h0
    · simp only [Value.slice.injEq, Option.some.injEq, Addr.mk.injEq, and_true, true_and] at h0
      obtain ⟨rfl, rfl⟩ := h0
      exact ⟨hn, hmm⟩
  have hle : l.length ≤ (l ++ m).length := by simp
  refine (given_any g cap _ v l w h hle hs.1 hs.2).mono ?_
  rintro e w' ⟨⟨rfl, rfl⟩ | rfl, rfl⟩
  · exact ⟨none, 0, rfl, rfl, fun y _ => ⟨none, 0, rfl, Nat.le_refl _, by unfold maxLen; omega, fun _ => rfl, by simp, by simp⟩⟩
  · refine ⟨_, _, rfl, rfl, fun y hy => ?_⟩
    have := hy.part l.length hle
    rw [List.take_left] at this
    exact this

end Go.Proofs.YtacjibfmhhmbcaaDoor
