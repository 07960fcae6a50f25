import Derived.Test.YtlpmpicmpklaoabDSeen
namespace Go.Proofs.Ytlpmpicmpklaoab
open Go.RowKit Go.Maps
set_option linter.unusedVariables false
set_option linter.unusedSimpArgs false
set_option maxRecDepth 20000

theorem row_form {w : World} {e : TypeId} {v : Value} {n : Nat} {xs : List Value} (h : w.ownsRow 0 e 1 v n xs) (hn : 0 < n) : ∃ g cap, v = .slice (some ⟨g, 0, none⟩) n cap ∧ n ≤ cap ∧ cap ≤ maxLen ∧ ∀ i u, xs[i]? = some u → w.cell? ⟨g, i, none⟩ = some u := by
  rcases h.2 with ⟨_, h0⟩ | ⟨g, cap, cur, rfl, _, hh, hn1, hm, _⟩
  · omega
  · refine ⟨g, cap, rfl, hn1, hm, fun i u hu => ?_⟩
    have hi : i < xs.length := (List.getElem?_eq_some_iff.1 hu).1
    rw [h.cellAt i (by have := h.1; omega)]
    exact hu

set_option maxHeartbeats 400000 in
theorem sameInts_eq (v1 v2 : Value) (es : List Int) (w : World) (hn : 0 < es.length) (h1 : w.ownsRow 0 3 1 v1 es.length (es.map intV)) (h2 : w.ownsRow 0 3 1 v2 es.length (es.map intV)) :
    Calls Try.prog 28 #[v1, v2] w fun e w' => e = .returned (.bool true) ∧ ∃ n, w' = w.drewN n := by
  obtain ⟨g1, c1, rfl, hl1, hm1, k1⟩ := row_form h1 hn
  obtain ⟨g2, c2, rfl, hl2, hm2, k2⟩ := row_form h2 hn
  have HK1 := hide k1
  have HK2 := hide k2
  clear k1 k2 h1 h2
  unfold maxLen at hm1 hm2
  go_enter Try.func28, Try.ntmps28
  go_wp2
  go_loopw [5] (fun i wr => ∃ k : Nat, k ≤ es.length ∧ i = .int .i64 k ∧ ∃ n, wr = w.drewN n) (fun i _ => es.length - (intOf i).toNat)
  case atStart => exact ⟨0, Nat.zero_le _, rfl, 0, rfl⟩
  case round =>
    obtain ⟨k, hk, rfl, n, rfl⟩ := hrel
    by_cases hlt : k < es.length
    · have hg : (es.map intV)[k]? = some (.int .i64 (es.getD k 0)) := by
        rw [List.getElem?_map, getD_get 0 hlt]; rfl
      have x1 := HK1.out k _ hg
      have x2 := HK2.out k _ hg
      clear hg
      generalize es.getD k 0 = x at *
      go_wp2
      go_quiet (fail)
      go_wp2
      go_roundw
      case rel => exact ⟨k + 1, by omega, by go_num, _, rfl⟩
      case measure => simp [intOf]; omega
    · go_wp2
      go_ret
      exact ⟨rfl, n, rfl⟩

theorem SeenV.bsl {w : World} {U : Nat → Prop} {v : Value} {o : Option (List Nat)} (h : SeenV w U v o) : BSl w v (o.getD []) := by
  cases o with
  | none =>
    have h' : v = nilS := h
    rw [h']
    exact ⟨none, 0, rfl, Nat.le_refl _, by unfold maxLen; omega, fun _ => rfl, by simp, by simp⟩
  | some l =>
    obtain ⟨g, rfl, hp, _⟩ := h
    exact hp.bsl

set_option maxHeartbeats 1000000 in
theorem sameSeen_eq {w : World} {U1 U2 : Nat → Prop} {b1 e1 b2 e2 : Value} {xs : List (Option (List Nat))} {es : List Int} (hn : 0 < xs.length) (h1 : SeenAt w U1 b1 e1 xs es) (h2 : SeenAt w U2 b2 e2 xs es) :
    Calls Try.prog 12 #[.agg #[b1, e1], .agg #[b2, e2]] w fun e w' => e = .returned (.bool true) ∧ Below w.heap.size w w' := by
  obtain ⟨v1, o1, s1⟩ := h1.vals
  obtain ⟨v2, o2, s2⟩ := h2.vals
  have hle := h1.len
  have i1 := h1.ints
  have i2 := h2.ints
  obtain ⟨g1, c1, rfl, hl1, hm1, k1⟩ := row_form o1 hn
  obtain ⟨g2, c2, rfl, hl2, hm2, k2⟩ := row_form o2 hn
  have hv1 : v1.length = xs.length := by have := o1.1; omega
  have hv2 : v2.length = xs.length := by have := o2.1; omega
  have hB2 : ∀ m, Below w.heap.size w (((w.alloc (.cells #[.slice (some ⟨g1, 0, none⟩) xs.length c1, e1] 40)).alloc (.cells #[.slice (some ⟨g2, 0, none⟩) xs.length c2, e2] 40)).drewN m) := fun m => below_drewN (((Below.refl _ _).alloc (Nat.le_refl _) _).alloc (by simp) _) m
  have HB2 := hide hB2
  rw [← hle] at i1 i2
  have HSI : Hid (∀ m, Calls Try.prog 28 #[e1, e2] (((w.alloc (.cells #[.slice (some ⟨g1, 0, none⟩) xs.length c1, e1] 40)).alloc (.cells #[.slice (some ⟨g2, 0, none⟩) xs.length c2, e2] 40)).drewN m) fun e w' => e = .returned (.bool true) ∧ ∃ n, w' = (((w.alloc (.cells #[.slice (some ⟨g1, 0, none⟩) xs.length c1, e1] 40)).alloc (.cells #[.slice (some ⟨g2, 0, none⟩) xs.length c2, e2] 40)).drewN m).drewN n) := hide fun m =>
    sameInts_eq e1 e2 es _ (by omega) (ownsRow_keptIf i1 fun g hg => (hB2 m).block g (i1.lt g hg).2) (ownsRow_keptIf i2 fun g hg => (hB2 m).block g (i2.lt g hg).2)
  have HSB : Hid (∀ k (hk : k < xs.length) u1 u2, v1[k]? = some u1 → v2[k]? = some u2 → ∀ m, Calls Try.prog 13 #[u1, u2] (((w.alloc (.cells #[.slice (some ⟨g1, 0, none⟩) xs.length c1, e1] 40)).alloc (.cells #[.slice (some ⟨g2, 0, none⟩) xs.length c2, e2] 40)).drewN m) fun e w' => e = .returned (.bool true) ∧ ∃ n, w' = (((w.alloc (.cells #[.slice (some ⟨g1, 0, none⟩) xs.length c1, e1] 40)).alloc (.cells #[.slice (some ⟨g2, 0, none⟩) xs.length c2, e2] 40)).drewN m).drewN n) := hide fun k hk u1 u2 hu1 hu2 m => by
    have x1 := (s1 k u1 xs[k] hu1 (List.getElem?_eq_getElem hk)).bsl
    have x2 := (s2 k u2 xs[k] hu2 (List.getElem?_eq_getElem hk)).bsl
    have := same_any u1 u2 _ _ _ (x1.below (hB2 m)) (x2.below (hB2 m))
    simpa using this
  have HK : Hid (∀ k, k < xs.length → ∃ u1 u2, v1[k]? = some u1 ∧ v2[k]? = some u2 ∧ ∀ m, (((w.alloc (.cells #[.slice (some ⟨g1, 0, none⟩) xs.length c1, e1] 40)).alloc (.cells #[.slice (some ⟨g2, 0, none⟩) xs.length c2, e2] 40)).drewN m).cell? ⟨g1, k, none⟩ = some u1 ∧ (((w.alloc (.cells #[.slice (some ⟨g1, 0, none⟩) xs.length c1, e1] 40)).alloc (.cells #[.slice (some ⟨g2, 0, none⟩) xs.length c2, e2] 40)).drewN m).cell? ⟨g2, k, none⟩ = some u2) := hide fun k hk => by
    have y1 : v1[k]? = some v1[k] := List.getElem?_eq_getElem (by omega)
    have y2 : v2[k]? = some v2[k] := List.getElem?_eq_getElem (by omega)
    have z1 := k1 k _ y1
    have z2 := k2 k _ y2
    exact ⟨_, _, y1, y2, fun m => ⟨by rw [(hB2 m).cell (World.block_lt_of_cell? w _ z1)]; exact z1, by rw [(hB2 m).cell (World.block_lt_of_cell? w _ z2)]; exact z2⟩⟩
  have HN : Hid (∀ m, (((w.alloc (.cells #[.slice (some ⟨g1, 0, none⟩) xs.length c1, e1] 40)).alloc (.cells #[.slice (some ⟨g2, 0, none⟩) xs.length c2, e2] 40)).drewN m).cell? ⟨w.heap.size, 0, none⟩ = some (.slice (some ⟨g1, 0, none⟩) xs.length c1) ∧ (((w.alloc (.cells #[.slice (some ⟨g1, 0, none⟩) xs.length c1, e1] 40)).alloc (.cells #[.slice (some ⟨g2, 0, none⟩) xs.length c2, e2] 40)).drewN m).cell? ⟨w.heap.size + 1, 0, none⟩ = some (.slice (some ⟨g2, 0, none⟩) xs.length c2)) := hide fun m => by
    constructor <;> simp
  unfold maxLen at hm1 hm2
  clear hB2 s1 s2 o1 o2 i1 i2 h1 h2 k1 k2 hle
  go_enter Try.func12, Try.ntmps12
  go_wp2_with (go_at_call 28; refine (HSI.out 0).mono ?_; rintro e w' ⟨rfl, n0, rfl⟩)
  generalize hW : (w.alloc (.cells #[.slice (some ⟨g1, 0, none⟩) xs.length c1, e1] 40)).alloc (.cells #[.slice (some ⟨g2, 0, none⟩) xs.length c2, e2] 40) = W at *
  clear hW
  go_loopw [5] (fun i wr => ∃ k : Nat, k ≤ xs.length ∧ i = .int .i64 k ∧ ∃ n, wr = W.drewN n) (fun i _ => xs.length - (intOf i).toNat)
  case atStart => exact ⟨0, Nat.zero_le _, rfl, _, rfl⟩
  case round =>
    obtain ⟨k, hk, rfl, n, rfl⟩ := hrel
    obtain ⟨y1, y2⟩ := HN.out n
    by_cases hlt : k < xs.length
    · obtain ⟨u1, u2, hu1, hu2, hcc⟩ := HK.out k hlt
      have HC := hide (HSB.out k hlt u1 u2 hu1 hu2)
      obtain ⟨z1, z2⟩ := hcc (n + 1)
      obtain ⟨y3, y4⟩ := HN.out (n + 1)
      clear hcc hu1 hu2
      go_wp2_with fail
      go_region_held3 (fun w' => w'.cell? ⟨w.heap.size, 0, none⟩ = some (.slice (some ⟨g1, 0, none⟩) xs.length c1) ∧ w'.cell? ⟨w.heap.size + 1, 0, none⟩ = some (.slice (some ⟨g2, 0, none⟩) xs.length c2) ∧ w'.cell? ⟨g1, k, none⟩ = some u1 ∧ w'.cell? ⟨g2, k, none⟩ = some u2) (first | exact ⟨by assumption, by assumption, by assumption, by assumption⟩ | go_keep)
        (first
          | (go_at_call 13; refine (HC.out _).mono ?_; rintro e w' ⟨rfl, j, rfl⟩))
      go_wp2
      go_roundw
      case rel => exact ⟨k + 1, by omega, by go_num, _, rfl⟩
      case measure => simp [intOf]; omega
    · go_wp2
      go_ret
      exact ⟨rfl, HB2.out n⟩
end Go.Proofs.Ytlpmpicmpklaoab
