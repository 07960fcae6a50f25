import Derived.Test.YtlkccencilhacaaAHot
import Derived.Test.YtlkccencilhacaaAOld
namespace Go.Proofs.Ytlkccencilhacaa
open Go.RowKit Go.Sort
set_option linter.unusedVariables false
set_option linter.unusedSimpArgs false
set_option maxRecDepth 20000

set_option maxHeartbeats 1000000 in
theorem took_in {base : Nat} {w : World} {v : Value} {L : List Us} {j : Nat} {u : Us} (h : BkR base w v L) (hl : L.length ≤ 2000) (hj : L[j]? = some u) (hu : ∀ k v', L[k]? = some v' → v'.key = u.key → k = j) (hg : u.got ≤ 1000000000000000) :
    Calls Try.prog 27 #[v, .int .i64 u.key] w fun e w' => e = .returned v ∧ BkR base w' v (L.set j { u with got := u.got + 1 }) ∧ Chg (fun b => v.ownBlock = some b) w w' := by
  have HF := hide (findK_any h hl u.key)
  have HR : Hid (∀ r, FRes L u.key r → r = (j : Int)) := hide fun r hr => by
    rcases hr with ⟨i, v', h1, h2, rfl⟩ | ⟨h1, -⟩
    · rw [hu i v' h1 h2]
    · exact absurd rfl (h1 u (List.mem_of_getElem? hj))
  obtain ⟨g, cap, cs, rfl, hb, hg1, q0, q1, q2, q3⟩ := h.at hj
  have HFIN : Hid (BkR base (w.setCell ⟨g, j * 4 + 1, none⟩ (.int .i64 ((u.got : Int) + 1))) (.slice (some ⟨g, 0, none⟩) L.length cap) (L.set j { u with got := u.got + 1 })) := hide (h.set hj (by omega) (by simp [Us.cells]))
  have HCH : Hid (Chg (fun b => (Value.slice (some ⟨g, 0, none⟩) L.length cap).ownBlock = some b) w (w.setCell ⟨g, j * 4 + 1, none⟩ (.int .i64 ((u.got : Int) + 1)))) := hide ⟨rfl, rfl, rfl, Nat.le_of_eq (World.size_setCell ..).symm, fun b hb hn => Go.heap_setCell_other _ _ _ _ (fun e => hn (by simp [Value.ownBlock, e]))⟩
  have f1 : w.frozen? ⟨g, j * 4 + 1, none⟩ = false := frozen_of_row _ _ _ _ 66 hg1
  have hjl := (List.getElem?_eq_some_iff.1 hj).1
  have hjb : 0 ≤ (j : Int) ∧ (j : Int) < (L.length : Int) := ⟨by omega, by omega⟩
  obtain ⟨hjb1, hjb2⟩ := hjb
  have hnl : ((j : Int) < 0) = False := by simp
  obtain ⟨a', cap', e', h1', h2'⟩ := h.form
  simp only [Value.slice.injEq] at e'
  unfold maxLen at h2'
  obtain ⟨-, -, rfl⟩ := e'
  clear h hj hu hg1
  generalize L.length = n at *
  generalize u.key = key at *
  generalize u.got = gt at *
  go_enter Try.func27, Try.ntmps27
  go_wp2_with (go_at_call 28; refine HF.out.mono ?_; rintro e y ⟨r, rfl, rfl, hr⟩; have hrj := HR.out r hr; subst hrj; clear hr HF HR)
  go_ret
  exact ⟨rfl, HFIN.out, HCH.out⟩
set_option maxHeartbeats 1000000 in
theorem took_new {base : Nat} {w : World} {v : Value} {L : List Us} {key : Int} (h : BkR base w v L) (hl : L.length ≤ 2000) (hbs : base ≤ w.heap.size) (hn : ∀ u ∈ L, u.key ≠ key) :
    Calls Try.prog 27 #[v, .int .i64 key] w fun e w' => ∃ v', e = .returned v' ∧ BkR base w' v' (L ++ [⟨key, 1, 0, 0⟩]) ∧ Chg (fun b => v.ownBlock = some b) w w' := by
  obtain ⟨i0, hi, hz0, hz1, hz2⟩ := info_parts info_use
  have HF := hide (findK_any h hl key)
  have HR : Hid (∀ r, FRes L key r → r = -1) := hide fun r hr => by
    rcases hr with ⟨i, v', h1, h2, rfl⟩ | ⟨-, h1⟩
    · exact absurd h2 (hn v' (List.mem_of_getElem? h1))
    · exact h1
  obtain ⟨a, cap, rfl, h1, h2⟩ := h.form
  unfold maxLen at h2
  have HA := hide (show (w.alloc (.cells #[.int .i64 key, .int .i64 1, .int .i64 0, .int .i64 0] 66)).ownsRow base 66 4 (.slice a L.length cap) L.length (flat L) from h.kept fun g e => (((Below.refl w.heap.size w).alloc (Nat.le_refl _) _).block g (h.lt g e).2))
  have HFN : Hid (∀ x v', x.ownsRow base 66 4 v' (L.length + 1) (flat L ++ [.int .i64 key, .int .i64 1, .int .i64 0, .int .i64 0]) → BkR base x v' (L ++ [⟨key, 1, 0, 0⟩])) := hide fun x v' hx => by
    unfold BkR
    rw [List.length_append, flat_snoc]
    exact hx
  clear h hn
  generalize hN : L.length = N at *
  clear hN
  go_enter Try.func27, Try.ntmps27
  have hbs2 : base ≤ (w.alloc (.cells #[.int .i64 key, .int .i64 1, .int .i64 0, .int .i64 0] 66)).heap.size := by simp; omega
  have HBS := hide hbs2
  clear hbs2
  have HCH : Hid (∀ x, (w.alloc (.cells #[.int .i64 key, .int .i64 1, .int .i64 0, .int .i64 0] 66)).grownBy x (Value.slice a N cap).ownBlock → Chg (fun b => (Value.slice a N cap).ownBlock = some b) w x) := hide fun x hx => by
    obtain ⟨q1, q2, q3, q4, q5⟩ := hx
    refine ⟨q1, q2, q3, ?_, fun b hb hn => ?_⟩
    · simp at q4; omega
    · rw [q5 b (by simp; omega) (fun e => hn e.symm)]
      exact RowKit.Below.heap_alloc _ _ _ hb
  go_wp2_with (first
    | (go_at_call 28; refine HF.out.mono ?_; rintro e y ⟨r, rfl, hyw, hr⟩; have hrj := HR.out r hr; subst hrj; subst hyw; clear hr HF HR)
    | (at_builtin; (refine wpList_append_own_wide _ rfl (.tmp 11) (.tmp 14) 61 rfl base 66 i0 (.agg #[.int .i64 0, .int .i64 0, .int .i64 0, .int .i64 0]) 4 32 Try.underlying61 hi hz0 hz1 hz2 rfl (by decide) _ _ _ rfl HA.out ⟨_, 0, none⟩ 1 1 [.int .i64 key, .int .i64 1, .int .i64 0, .int .i64 0] rfl rfl (cells_new4 _ _ _ _ _ _) (by simp [Value.oneCell']) (by unfold maxLen; omega) (by omega) HBS.out ?_)))
  intro v' x o1 o2 o3
  have HO1 := hide o1
  have HO2 := hide (HCH.out _ o2)
  clear o1 o2 o3
  go_wp2_with fail
  go_ret
  exact ⟨_, rfl, HFN.out _ _ HO1.out, HO2.out⟩
end Go.Proofs.Ytlkccencilhacaa
