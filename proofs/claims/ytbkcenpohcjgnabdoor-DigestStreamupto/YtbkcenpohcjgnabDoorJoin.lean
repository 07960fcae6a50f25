import Derived.Test.YtbkcenpohcjgnabDoorByt
import Derived.Test.YtbkcenpohcjgnabDoorShaMac
import Derived.Lib.SmallJoins
namespace Go.Proofs.YtbkcenpohcjgnabDoor
open Go.RowKit
open Num
set_option linter.unusedVariables false
set_option linter.unusedSimpArgs false

theorem Own.kept' {w w' : World} {base : Nat} {v : Value} {l : List Nat} (h : Own w base v l) (hb : Below w.heap.size w w') : Own w' base v l := h.kept hb

set_option maxHeartbeats 400000 in
/-- the first of the two appends -/
theorem join_any (va vb : Value) (a b : List Nat) (w : World) (ha : BSl w va a) (hb : BSl w vb b) (hr : a.length + b.length ≤ 140737488355328) :
    Calls Tryd.prog 18 #[va, vb] w fun e w' => ∃ v', e = .returned v' ∧ Own w' w.heap.size v' (a ++ b) ∧ Below w.heap.size w w' := by
  obtain ⟨i0, hi, hz0, hz1, hz2⟩ := info_parts Tryd.info5
  have hmade : (w.alloc (.cells #[] 5)).ownsRow w.heap.size 5 1 (.slice (some ⟨w.heap.size, 0, none⟩) 0 0) 0 [] := World.ownsRow_made w #[] 0 (Nat.le_refl _) (by unfold maxLen; omega) rfl
  have HB := hide hb
  have HA := hide ha
  have HAB := hide ha.bytes
  have HBB := hide hb.bytes
  have h' := ha
  obtain ⟨pa, capa, rfl, hla, hma, hna, _, _⟩ := h'
  have HBW := hide ((Below.refl w.heap.size w).alloc (Nat.le_refl _) (.cells #[] 5))
  cases pa with
  | none =>
    have hc : capa = 0 := hna rfl
    have hl0 : a = [] := List.eq_nil_of_length_eq_zero (by omega)
    subst hl0
    subst hc
    clear ha hb hna
    have hb' := HB.out
    obtain ⟨pb, capb, rfl, hlb, hmb, hnb, _, _⟩ := hb'
    cases pb with
    | none =>
      have hc : capb = 0 := hnb rfl
      have hl0 : b = [] := List.eq_nil_of_length_eq_zero (by omega)
      subst hl0
      subst hc
      clear hnb
      go_enter Tryd.func18, Tryd.ntmps18
      go_wp2
      go_ret
      exact ⟨_, rfl, ⟨hmade, by simp⟩, HBW.out⟩
    | some ad =>
      have hnews := (HB.out.below HBW.out).news
      have hone := byteV_oneCell b
      have hnl : (b.map byteV).length = b.length * 1 := by simp
      clear hnb
      go_enter Tryd.func18, Tryd.ntmps18
      go_wp2_with (at_builtin; refine wpList_append_own _ rfl _ _ 22 rfl w.heap.size 5 i0 (.int .u8 0) 1 1 Tryd.underlying22 hi hz0 hz1 hz2 rfl (by decide) _ _ _ rfl hmade ad b.length capb (b.map byteV) rfl hnl hnews hone (by omega) (by omega) (by simp) ?_)
      intro v' w1 hown hg _
      clear hnews hone hnl hmade
      go_wp2
      go_ret
      exact ⟨_, rfl, ⟨hown, by simpa using HBB.out⟩, HBW.out.grown hg (by simp) (by simp [Value.ownBlock])⟩
  | some ad =>
    have hnews := (HA.out.below HBW.out).news
    have hone := byteV_oneCell a
    have hnl : (a.map byteV).length = a.length * 1 := by simp
    clear ha hb hna
    go_enter Tryd.func18, Tryd.ntmps18
    go_wp2_with (at_builtin; refine wpList_append_own _ rfl (.tmp 6) (.tmp 7) 22 rfl w.heap.size 5 i0 (.int .u8 0) 1 1 Tryd.underlying22 hi hz0 hz1 hz2 rfl (by decide) _ _ _ rfl hmade ad a.length capa (a.map byteV) rfl hnl hnews hone (by omega) (by omega) (by simp) ?_)
    intro v' w1 hown hg hiff
    have HB1 : Hid (Below w.heap.size w w1) := HBW.out.grown hg (by simp) (by simp [Value.ownBlock])
    have hown : w1.ownsRow w.heap.size 5 1 v' a.length (a.map byteV) := by simpa using hown
    have hne : ¬ v' = .slice none 0 0 := by simpa using hiff
    obtain ⟨g, cap', rfl⟩ := (Joins.ownsRow_forms hown).resolve_left (fun h => hne h.1)
    have HOW := hide hown
    clear hnews hone hnl hmade hiff hg hne hown HBW
    have hb' := HB.out
    obtain ⟨pb, capb, rfl, hlb, hmb, hnb, _, _⟩ := hb'
    cases pb with
    | none =>
      have hc : capb = 0 := hnb rfl
      have hl0 : b = [] := List.eq_nil_of_length_eq_zero (by omega)
      subst hl0
      subst hc
      clear hnb
      have hs : a.length ≤ cap' ∧ cap' ≤ maxLen := by
        rcases HOW.out.2 with ⟨h0, _⟩ | ⟨g', cap2, cur, h0, hbg, hg0, hn, hmm, _⟩
        · cases h0
        · simp only [Value.slice.injEq, Option.some.injEq, Addr.mk.injEq] at h0
          obtain ⟨_, _, rfl⟩ := h0
          exact ⟨hn, hmm⟩
      have hs1 := hs.1
      have hs2 := hs.2
      unfold maxLen at hs2
      go_wp2
      go_ret
      exact ⟨_, rfl, by rw [List.append_nil]; exact ⟨HOW.out, HAB.out⟩, HB1.out⟩
    | some bd =>
      have hnews := (HB.out.below HB1.out).news
      have hone := byteV_oneCell b
      have hnl : (b.map byteV).length = b.length * 1 := by simp
      have hsz := HB1.out.size
      clear hnb
      go_wp2_with (at_builtin; refine wpList_append_own _ rfl (.tmp 9) (.tmp 10) 22 rfl w.heap.size 5 i0 (.int .u8 0) 1 1 Tryd.underlying22 hi hz0 hz1 hz2 rfl (by decide) _ _ _ rfl HOW.out bd b.length capb (b.map byteV) rfl hnl hnews hone (by unfold maxLen; omega) (by omega) hsz ?_)
      intro v2 w2 hown2 hg2 _
      have hgw : w.heap.size ≤ g := by
        rcases HOW.out.2 with ⟨h0, _⟩ | ⟨g', cap2, cur, h0, hbg, _⟩
        · cases h0
        · simp only [Value.slice.injEq, Option.some.injEq, Addr.mk.injEq] at h0
          omega
      have HB2 : Hid (Below w.heap.size w w2) := HB1.out.grown hg2 hsz (by simp [Value.ownBlock]; omega)
      have HO2 : Hid (Own w2 w.heap.size v2 (a ++ b)) := ⟨by rw [List.length_append, List.map_append]; exact hown2, fun x hx => (List.mem_append.1 hx).elim (HAB.out x) (HBB.out x)⟩
      clear hnews hone hnl hown2 hg2
      go_wp2
      go_ret
      exact ⟨_, rfl, HO2.out, HB2.out⟩
end Go.Proofs.YtbkcenpohcjgnabDoor
