import Derived.Test.YtlpmpicmpklaoacGreatDSeen
namespace Go.Proofs.YtlpmpicmpklaoacGreat
open Go.RowKit Go.Maps
set_option linter.unusedVariables false
set_option linter.unusedSimpArgs false
set_option maxRecDepth 20000

theorem row_form {w : World} {e : TypeId} {v : Value} {n : Nat} {xs : List Value} (h : w.ownsRow 0 e 1 v n xs) (hn : 0 < n) : ∃ g cap, v = .slice (some ⟨g, 0, none⟩) n cap ∧ n ≤ cap ∧ cap ≤ maxLen ∧ ∀ i u, xs[i]? = some u → w.cell? ⟨g, i, none⟩ = some u := by
  rcases h.2 with ⟨_, h0⟩ | ⟨g, cap, cur, rfl, _, hh, hn1, hm, _⟩
  · omega
  · refine ⟨g, cap, rfl, hn1, hm, fun i u hu => ?_⟩
    have hi : i < xs.length := (List.getElem?_eq_some_iff.1 hu).1
    rw [h.cellAt i (by have := h.1; omega)]
    exact hu

set_option maxHeartbeats 400000 in
theorem sameInts_eq (v1 v2 : Value) (es : List Int) (w : World) (hn : 0 < es.length) (h1 : w.ownsRow 0 3 1 v1 es.length (es.map intV)) (h2 : w.ownsRow 0 3 1 v2 es.length (es.map intV)) :
    Calls Tryz.prog 35 #[v1, v2] w fun e w' => e = .returned (.bool true) ∧ ∃ n, w' = w.drewN n := by
  obtain ⟨g1, c1, rfl, hl1, hm1, k1⟩ := row_form h1 hn
  obtain ⟨g2, c2, rfl, hl2, hm2, k2⟩ := row_form h2 hn
  have HK1 := hide k1
  have HK2 := hide k2
  clear k1 k2 h1 h2
  unfold maxLen at hm1 hm2
  go_enter Tryz.func35, Tryz.ntmps35
  go_wp2
  go_loopw [5] (fun i wr => ∃ k : Nat, k ≤ es.length ∧ i = .int .i64 k ∧ ∃ n, wr = w.drewN n) (fun i _ => es.length - (intOf i).toNat)
  case atStart => exact ⟨0, Nat.zero_le _, rfl, 0, rfl⟩
  case round =>
    obtain ⟨k, hk, rfl, n, rfl⟩ := hrel
    by_cases hlt : k < es.length
    · have hg : (es.map intV)[k]? = some (.int .i64 (es.getD k 0)) := by
        rw [List.getElem?_map, getD_get 0 hlt]; rfl
      have x1 := HK1.out k _ hg
      have x2 := HK2.out k _ hg
      clear hg
      generalize es.getD k 0 = x at *
      go_wp2
      go_quiet (fail)
      go_wp2
      go_roundw
      case rel => exact ⟨k + 1, by omega, by go_num, _, rfl⟩
      case measure => simp [intOf]; omega
    · go_wp2
      go_ret
      exact ⟨rfl, n, rfl⟩

theorem SeenV.bsl {w : World} {U : Nat → Prop} {v : Value} {o : Option (List Nat)} (h : SeenV w U v o) : BSl w v (o.getD []) := by
  cases o with
  | none =>
    have h' : v = nilS := h
    rw [h']
    exact ⟨none, 0, rfl, Nat.le_refl _, by unfold maxLen; omega, fun _ => rfl, by simp, by simp⟩
  | some l =>
    obtain ⟨g, rfl, hp, _⟩ := h
    exact hp.bsl

end Go.Proofs.YtlpmpicmpklaoacGreat
