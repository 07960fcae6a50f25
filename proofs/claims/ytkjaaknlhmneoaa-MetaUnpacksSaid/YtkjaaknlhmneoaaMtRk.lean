import Derived.Test.YtkjaaknlhmneoaaMtAp
namespace Go.Proofs.Ytkjaaknlhmneoaa
open Go.RowKit
open Num
set_option linter.unusedVariables false
set_option linter.unusedSimpArgs false
set_option maxRecDepth 20000

/-- a list of blocks, all of them from a block on -/
def RBB (base : Nat) (w : World) (v : Value) (m s : Nat) (B : Nat → List Nat) : Prop := ∃ O cap, v = .slice (some ⟨O, 0, none⟩) m cap ∧ m ≤ cap ∧ cap ≤ maxLen ∧ base ≤ O ∧ O < w.heap.size ∧ ∀ k, k < m → ∃ g, base ≤ g ∧ w.cell? ⟨O, k, none⟩ = some (.slice (some ⟨g, 0, none⟩) s s) ∧ w.heap[g]? = some (.cells ((B k).map byteV).toArray 5 (0, 0))
theorem RBB.rb {base : Nat} {w : World} {v : Value} {m s : Nat} {B : Nat → List Nat} (h : RBB base w v m s B) : RB w v m s B := by
  obtain ⟨O, cap, h1, h2, h3, h4, h5, h6⟩ := h
  exact ⟨O, cap, h1, h2, h3, fun k hk => by obtain ⟨g, _, g2, g3⟩ := h6 k hk; exact ⟨g, g2, g3⟩⟩
theorem RBB.stay {base : Nat} {w w' : World} {v : Value} {m s : Nat} {B : Nat → List Nat} (h : RBB base w v m s B) (hz : w.heap.size ≤ w'.heap.size) (hk : ∀ b, base ≤ b → b < w.heap.size → w'.heap[b]? = w.heap[b]?) : RBB base w' v m s B := by
  obtain ⟨O, cap, h1, h2, h3, h4, h5, h6⟩ := h
  refine ⟨O, cap, h1, h2, h3, h4, by omega, fun k hk' => ?_⟩
  obtain ⟨g, g1, g2, g3⟩ := h6 k hk'
  exact ⟨g, g1, (World.cell?_of_block (hk O h4 h5)).trans g2, (hk g g1 (Array.getElem?_eq_some_iff.1 g3).1).trans g3⟩
theorem RBB.below {base : Nat} {w w' : World} {v : Value} {m s : Nat} {B : Nat → List Nat} (h : RBB base w v m s B) (hb : Below w.heap.size w w') : RBB base w' v m s B := h.stay hb.size fun b _ hlt => hb.block b hlt
theorem RI.done {w wr : World} {v : Value} {ws : List Nat} {s i K : Nat} {gs : List Nat} (h : RI w wr v ws s i K gs) (hK : 0 < K) : RBB w.heap.size wr v K s (bpL ws s i) := by
  rcases id h.own.2 with ⟨_, h0⟩ | ⟨g, cap, cur, rfl, _, hh, h3, h4, _⟩
  · omega
  · refine ⟨g, cap, rfl, h3, h4, h.vb g rfl, (Array.getElem?_eq_some_iff.1 hh).1, fun k hk => ?_⟩
    obtain ⟨b1, b2⟩ := h.blk k hk
    refine ⟨gs.getD k 0, b2, ?_, b1⟩
    have := h.own.cells (g := g) rfl k (.slice (some ⟨gs.getD k 0, 0, none⟩) s s) (by
      rw [List.getElem?_map, List.getD_eq_getElem?_getD, List.getElem?_eq_getElem (by rw [h.len]; exact hk)]; rfl)
    rw [Addr.add_lit, Nat.zero_add] at this
    exact this
/-- what the round reads -/
theorem set_cells {w wr : World} {v : Value} {ws : List Nat} {s j Q T R D : Nat} {gs : List Nat} (h : RI w wr v ws s j (Q + 1) gs) (hs : 0 < s) (hD : 8 * s = D) (hQ : j / D = Q) (hT : j % D = T) (hR : R < s) : ∃ g cl, v = .slice (some ⟨g, 0, none⟩) (Q + 1) cl ∧ Q + 1 ≤ cl ∧ cl ≤ maxLen ∧ g < wr.heap.size ∧ wr.cell? ⟨g, Q, none⟩ = some (.slice (some ⟨gs.getD Q 0, 0, none⟩) s s) ∧ wr.cell? ⟨gs.getD Q 0, T / 8, none⟩ = some (.int .u8 (pby ws j (j / 8) : Nat)) ∧ wr.frozen? ⟨gs.getD Q 0, T / 8, none⟩ = false := by
  rcases id h.own.2 with ⟨_, h0⟩ | ⟨g, cap, cur, rfl, _, hh, h3, h4, _⟩
  · omega
  · obtain ⟨b1, b2⟩ := h.blk Q (by omega)
    refine ⟨g, cap, rfl, h3, h4, (Array.getElem?_eq_some_iff.1 hh).1, ?_, ?_, frozen_of_row _ _ _ _ _ b1⟩
    · have := h.own.cells (g := g) rfl Q (.slice (some ⟨gs.getD Q 0, 0, none⟩) s s) (by
        rw [List.getElem?_map, List.getD_eq_getElem?_getD, List.getElem?_eq_getElem (by rw [h.len]; omega)]; rfl)
      rw [Addr.add_lit, Nat.zero_add] at this
      exact this
    · have hg := bpL_get (ws := ws) (s := s) (i := j) hs
      obtain ⟨p1, p2, p3⟩ := place8 (i := j) hs
      subst hD
      rw [hT] at hg p2
      rw [hQ] at hg
      rw [cell_of_row _ _ _ _ _ _ b1, List.getElem?_toArray, List.getElem?_map]
      rw [List.getD_eq_getElem?_getD] at hg
      rw [List.getElem?_eq_getElem (by rw [bpL_len]; exact p2)] at hg ⊢
      simp only [Option.getD_some] at hg
      rw [Option.map_some, hg]
      rfl
set_option maxHeartbeats 4000000 in
theorem rpack_ok (w : World) (n s : Nat) (v : Value) (ws : List Nat) (hv : USl w v ws) (hs : okSz (s : Int) = true) (h1 : 1 ≤ n) (h2 : n ≤ 65536) (hl : ws.length = (n + 63) / 64) (hu : ∀ j, n ≤ j → j < 64 * ws.length → wbit ws j = false) : Calls Try.prog 22 #[.int .i64 (n : Int), v, .int .i64 (s : Int)] w fun e w' => ∃ u, e = .returned (.tuple #[u, .int .i64 0]) ∧ RBB w.heap.size w' u ((n - 1) / (8 * s) + 1) s (bkT ws s (ws.length * 8)) ∧ Below w.heap.size w w' := by
  have HD := hide fun x => domain_any x (n : Int) (s : Int)
  rw [hs, decide_eq_true (by omega), decide_eq_true (by omega)] at HD
  have HU := hide fun x => rup_any x (n : Int) 64 (by omega) (by omega) (by omega) (by omega)
  rw [show ((n : Int) + 64 - 1) / 64 = (((n + 63) / 64 : Nat) : Int) by omega] at HU
  have HBT : Hid (∀ y, Below w.heap.size w y → ∀ i, i < 64 * ws.length → Calls Try.prog 47 #[v, .int .i64 (i : Int)] y fun e w' => e = .returned (.bool (wbit ws i)) ∧ w' = y) := hide fun y hy i hi => bit_any y v ws (hv.below hy) i (by omega) (by omega)
  have hnl : n ≤ 64 * ws.length := by omega
  have hLb : ws.length ≤ 1024 := by omega
  obtain ⟨a, cap, rfl, q1, q2, q3, q4⟩ := hv
  clear q3 q4
  unfold maxLen at q2
  rw [← hl] at HU
  have HEN : Hid (bpL ws s n = bkT ws s (ws.length * 8)) := hide (funext fun k => bpL_end hu s k)
  have hs2 : 0 < s ∧ s ≤ 1024 := by
    have := okSz_pos hs
    omega
  have HUB := hide hu
  clear hl hu
  rw [← HEN.out]
  generalize ws.length = L at *
  have hne : ((L : Int) != (L : Int)) = false := by simp
  go_enter Try.func22, Try.ntmps22
  go_wp2_with (first
    | (go_at_call 46; refine (HD.out _).mono ?_; rintro e w1 ⟨rfl, hw1⟩; have hws := hw1.symm; clear hw1; subst hws)
    | (go_at_call 37; refine (HU.out _).mono ?_; rintro e w1 ⟨rfl, hw1⟩; have hws := hw1.symm; clear hw1; subst hws))
  go_loopw [9] (fun x wr => ∃ i : Nat, n ≤ i ∧ i ≤ 64 * L ∧ x = .int .i64 (i : Int) ∧ wr = w) (fun x _ => 64 * L - (intOf x).toNat)
  case atStart => exact ⟨n, Nat.le_refl _, hnl, rfl, rfl⟩
  case round =>
    obtain ⟨i, hi1, hi2, rfl, hwr⟩ := hrel
    have hws := hwr.symm
    subst hws
    clear hwr
    by_cases hlt : i < 64 * L
    · have HB := hide (HBT.out w (Below.refl _ _) i hlt)
      rw [HUB.out i hi1 hlt] at HB
      have i1 : (i : Int) < 64 * (L : Int) := by omega
      go_wp2_with (go_at_call 47; refine HB.out.mono ?_; rintro e w1 ⟨rfl, hw1⟩; have hws := hw1.symm; clear hw1; subst hws)
      go_roundw
      case rel => exact ⟨i + 1, by omega, by omega, by go_num, by trivial⟩
      case measure => simp [intOf]; omega
    · have i1 : ¬ (i : Int) < 64 * (L : Int) := by omega
      go_wp2_with fail
      have HST := hide (RI.start ws s 0 (Below.refl w.heap.size w))
      go_loopw [11, 12] (fun l x wr => ∃ (j : Nat) (gs : List Nat), j ≤ n ∧ x = .int .i64 (j : Int) ∧ RI w wr l ws s j (kb s j) gs) (fun _ x _ => n - (intOf x).toNat)
      case atStart => exact ⟨0, [], Nat.zero_le _, rfl, by rw [kb_zero hs2.1]; exact HST.out⟩
      case round =>
        obtain ⟨j, gs, hj, rfl, hri⟩ := hrel
        have HR := hide hri
        clear hri HST
        by_cases hjn : j < n
        · have j1 : (j : Int) < (n : Int) := by omega
          obtain ⟨D, hD⟩ : ∃ D, 8 * s = D := ⟨_, rfl⟩
          have hDb : 0 < D ∧ D ≤ 8192 := by omega
          have hw8 : IntKind.i64.wrap (8 * (s : Int)) = (D : Int) := by rw [← hD]; simp [IntKind.wrap, IntKind.bits, IntKind.signed]; omega
          have hD0 : ¬ (D : Int) = 0 := by omega
          obtain ⟨T, hT⟩ : ∃ T, j % D = T := ⟨_, rfl⟩
          obtain ⟨Q, hQ⟩ : ∃ Q, j / D = Q := ⟨_, rfl⟩
          have hTl : T < D := by rw [← hT]; exact Nat.mod_lt _ hDb.1
          have hQl : Q ≤ 65536 := by rw [← hQ]; exact Nat.le_trans (Nat.div_le_self _ _) (by omega)
          have t1 : (j : Int) % (D : Int) = (T : Int) := by rw [← hT]; rfl
          have t2 : (j : Int).tmod (D : Int) = (T : Int) := by rw [Int.tmod_eq_emod_of_nonneg (by omega)]; exact t1
          have t3 : IntKind.i64.wrap (T : Int) = (T : Int) := by simp [IntKind.wrap, IntKind.bits, IntKind.signed]; omega
          have q1 : (j : Int) / (D : Int) = (Q : Int) := by rw [← hQ]; rfl
          have q2 : (j : Int).tdiv (D : Int) = (Q : Int) := by rw [Int.tdiv_eq_ediv_of_nonneg (by omega)]; exact q1
          have q4 : IntKind.i64.wrap ((j : Int) / (D : Int)) = (Q : Int) := by rw [q1]; simp [IntKind.wrap, IntKind.bits, IntKind.signed]; omega
          have q5 : IntKind.i64.wrap ((j : Int).tdiv (D : Int)) = (Q : Int) := by rw [q2]; simp [IntKind.wrap, IntKind.bits, IntKind.signed]; omega
          have hDn : ¬ D = 0 := by omega
          have q3 : IntKind.i64.wrap (Q : Int) = (Q : Int) := by simp [IntKind.wrap, IntKind.bits, IntKind.signed]; omega
          have HBJ := hide (HBT.out _ HR.out.bel j (by omega))
          obtain ⟨R, hR⟩ : ∃ R, T / 8 = R := ⟨_, rfl⟩
          obtain ⟨B8, hB8⟩ : ∃ B8, T % 8 = B8 := ⟨_, rfl⟩
          have r1 : (T : Int) / 8 = (R : Int) := by omega
          have r2 : (T : Int).tdiv 8 = (R : Int) := by rw [Int.tdiv_eq_ediv_of_nonneg (by omega)]; exact r1
          have r3 : IntKind.i64.wrap (R : Int) = (R : Int) := by simp [IntKind.wrap, IntKind.bits, IntKind.signed]; omega
          have r4 : IntKind.i64.wrap ((T : Int) / 8) = (R : Int) := by rw [r1]; exact r3
          have m1 : (T : Int) % 8 = (B8 : Int) := by omega
          have m2 : (T : Int).tmod 8 = (B8 : Int) := by rw [Int.tmod_eq_emod_of_nonneg (by omega)]; exact m1
          have m3 : IntKind.i64.wrap (B8 : Int) = (B8 : Int) := by simp [IntKind.wrap, IntKind.bits, IntKind.signed]; omega
          have m4 : IntKind.i64.wrap ((T : Int) % 8) = (B8 : Int) := by rw [m1]; exact m3
          have hB7 : B8 ≤ 7 := by omega
          obtain ⟨P, hP⟩ : ∃ P : Nat, 2 ^ B8 = P := ⟨_, rfl⟩
          have hPl : P ≤ 128 := by rw [← hP]; exact Nat.pow_le_pow_right (n := 2) (j := 7) (by decide) hB7
          have hsh : Op.shift .shl .u8 (1 : Int) .i64 (B8 : Int) = (pure (.int .u8 (P : Int)) : Sem Value) := by
            rw [shift_shl .u8 .i64 (1 : Int) (B8 : Int) (by omega) (by simp [IntKind.bits]; omega), Int.toNat_natCast]
            congr 2
            rw [Int.one_mul, show ((2 : Int) ^ B8) = ((P : Nat) : Int) by rw [← hP, Int.natCast_pow]; rfl]
            simp [IntKind.wrap, IntKind.bits, IntKind.signed]; omega
          obtain ⟨p1, p2, p3⟩ := place8 (i := j) hs2.1
          rw [hD, hQ, hT, hR] at p1
          rw [hD, hT, hR] at p2
          rw [hD, hT, hB8] at p3
          have hjR : R < s := p2
          obtain ⟨X, hX⟩ : ∃ X, pby ws j (j / 8) = X := ⟨_, rfl⟩
          have hXl : X < 256 := by rw [← hX]; exact pby_lt _ _ _
          cases hbb : wbit ws j with
          | false =>
            rw [hbb] at HBJ
            by_cases hm : T = 0
            · have hm0 : ((T : Int) == 0) = true := by simp; omega
              subst hm
              have hkb : kb s j = Q := by rw [kb_at hs2.1 (by rw [hD]; exact hT), hD, hQ]
              rw [hkb] at HR
              obtain ⟨i0, hi0, hz0, hz1, hz2⟩ := info_parts Try.infoBy
              have hmk := made_bytes s (by omega) wr
              obtain ⟨ZB, hZB⟩ : ∃ ZB, ((List.replicate s 0).map byteV).toArray = ZB := ⟨_, rfl⟩
              rw [hZB] at hmk
              have HZB := hide hZB
              clear hZB
              have bx := ((Below.refl wr.heap.size wr).alloc (Nat.le_refl _) (.cells ZB 5)).alloc (by simp) (.cells #[.slice (some ⟨wr.heap.size, 0, none⟩) s s] 45)
              have HBX := hide bx
              have HOX := hide (HR.out.moved bx).own
              have HGX : Hid (((wr.alloc (.cells ZB 5)).alloc (.cells #[.slice (some ⟨wr.heap.size, 0, none⟩) s s] 45)).heap[wr.heap.size]? = some (.cells ZB 5 (0, 0))) := hide ((Below.heap_alloc _ _ _ (by simp)).trans (Go.heap_alloc_new wr _))
              have HNX : Hid (∀ k u, [Value.slice (some ⟨wr.heap.size, 0, none⟩) s s][k]? = some u → ((wr.alloc (.cells ZB 5)).alloc (.cells #[.slice (some ⟨wr.heap.size, 0, none⟩) s s] 45)).cell? ((⟨wr.heap.size + 1, 0, none⟩ : Addr).add k) = some u) := hide fun k u hu => by
                have hk : k = 0 := by
                  have := (List.getElem?_eq_some_iff.1 hu).1
                  simp at this; exact this
                subst hk
                have e1 : (wr.alloc (.cells ZB 5)).heap.size = wr.heap.size + 1 := by simp
                rw [Addr.add_lit, Nat.zero_add, ← e1, cell_of_row _ _ _ _ _ _ (Go.heap_alloc_new _ _)]
                simpa using hu
              clear bx
              clear HBJ
              go_wp2_with (first
                | (at_builtin; refine wpList_append1 _ rfl (.tmp 47) (.tmp 50) 36 rfl 45 i0 (.slice none 0 0) 24 Try.underlying36 hi0 hz0 hz1 hz2 rfl _ Q _ rfl HOX.out ⟨wr.heap.size + 1, 0, none⟩ 1 (.slice (some ⟨wr.heap.size, 0, none⟩) s s) rfl HNX.out rfl (by unfold maxLen; omega) (by omega) ?_; intro v' y ho hc; have HR2 := hide (HR.out.push hs2.1 (by rw [hD, hQ]) (by rw [hD]; exact hT) HBX.out (by rw [HZB.out]; exact HGX.out) ho hc); have HBJ := hide (HBT.out _ HR2.out.bel j (by omega)); rw [hbb] at HBJ; clear ho hc HOX HNX HGX HBX hmk)
                | (go_at_call 47; refine HBJ.out.mono ?_; rintro e w1 ⟨rfl, hw1⟩; have hws := hw1.symm; clear hw1; subst hws))
              go_roundw
              case rel => exact ⟨j + 1, gs ++ [wr.heap.size], by omega, by go_num, by rw [kb_next hs2.1, hD, hQ]; exact HR2.out.skip hs2.1 hbb⟩
              case measure => simp [intOf]; omega
            · have hm0 : ¬ T = 0 := hm
              clear hm
              go_wp2_with (go_at_call 47; refine HBJ.out.mono ?_; rintro e w1 ⟨rfl, hw1⟩; have hws := hw1.symm; clear hw1; subst hws)
              go_roundw
              case rel => exact ⟨j + 1, gs, by omega, by go_num, by rw [kb_next hs2.1]; have := HR.out.skip hs2.1 hbb; rw [kb_in hs2.1 (by rw [hD, hT]; exact hm0)] at this; exact this⟩
              case measure => simp [intOf]; omega
          | true =>
            rw [hbb] at HBJ
            have hXP : pby ws (j + 1) (j / 8) = X + P := by rw [pby_bit, hbb, hX, ← p3, hP]; simp
            have hXP8 : X + P < 256 := by rw [← hXP]; exact pby_lt _ _ _
            have e8 : ((X : Int) + 2 ^ (j % 8)) % 256 = ((X + P : Nat) : Int) := by
              have : ((2 : Int) ^ (j % 8)) = ((P : Nat) : Int) := by rw [← hP, p3, Int.natCast_pow]; rfl
              rw [this]; omega
            have had : IntKind.u8.wrap ((X : Int) + (P : Int)) = ((X + P : Nat) : Int) := by simp [IntKind.wrap, IntKind.bits, IntKind.signed]; omega
            by_cases hm : T = 0
            · have hm0 : ((T : Int) == 0) = true := by simp; omega
              subst hm
              have hR0 : R = 0 := by omega
              subst hR0
              have hB0 : B8 = 0 := by omega
              subst hB0
              have hP1 : P = 1 := by rw [← hP]
              subst hP1
              have z1 : (j : Int) % (D : Int) = 0 := t1
              have z2 : (j : Int).tmod (D : Int) = 0 := t2
              have hsh0 : Op.shift .shl .u8 (1 : Int) .i64 (0 : Int) = (pure (.int .u8 (1 : Int)) : Sem Value) := hsh
              have had0 : IntKind.u8.wrap ((X : Int) + 1) = (X : Int) + 1 := had
              clear r1 r2 r3 r4 m1 m2 m3 m4 hsh t1 t2 t3 had e8 hm0 hP p3 p1 hB8
              have hm0 : ((0 : Int) == 0) = true := rfl
              have hkb : kb s j = Q := by rw [kb_at hs2.1 (by rw [hD]; exact hT), hD, hQ]
              rw [hkb] at HR
              obtain ⟨i0, hi0, hz0, hz1, hz2⟩ := info_parts Try.infoBy
              have hmk := made_bytes s (by omega) wr
              obtain ⟨ZB, hZB⟩ : ∃ ZB, ((List.replicate s 0).map byteV).toArray = ZB := ⟨_, rfl⟩
              rw [hZB] at hmk
              have HZB := hide hZB
              clear hZB
              have bx := ((Below.refl wr.heap.size wr).alloc (Nat.le_refl _) (.cells ZB 5)).alloc (by simp) (.cells #[.slice (some ⟨wr.heap.size, 0, none⟩) s s] 45)
              have HBX := hide bx
              have HOX := hide (HR.out.moved bx).own
              have HGX : Hid (((wr.alloc (.cells ZB 5)).alloc (.cells #[.slice (some ⟨wr.heap.size, 0, none⟩) s s] 45)).heap[wr.heap.size]? = some (.cells ZB 5 (0, 0))) := hide ((Below.heap_alloc _ _ _ (by simp)).trans (Go.heap_alloc_new wr _))
              have HNX : Hid (∀ k u, [Value.slice (some ⟨wr.heap.size, 0, none⟩) s s][k]? = some u → ((wr.alloc (.cells ZB 5)).alloc (.cells #[.slice (some ⟨wr.heap.size, 0, none⟩) s s] 45)).cell? ((⟨wr.heap.size + 1, 0, none⟩ : Addr).add k) = some u) := hide fun k u hu => by
                have hk : k = 0 := by
                  have := (List.getElem?_eq_some_iff.1 hu).1
                  simp at this; exact this
                subst hk
                have e1 : (wr.alloc (.cells ZB 5)).heap.size = wr.heap.size + 1 := by simp
                rw [Addr.add_lit, Nat.zero_add, ← e1, cell_of_row _ _ _ _ _ _ (Go.heap_alloc_new _ _)]
                simpa using hu
              clear bx
              clear HBJ
              go_wp2_with (first
                | (at_builtin; refine wpList_append1 _ rfl (.tmp 47) (.tmp 50) 36 rfl 45 i0 (.slice none 0 0) 24 Try.underlying36 hi0 hz0 hz1 hz2 rfl _ Q _ rfl HOX.out ⟨wr.heap.size + 1, 0, none⟩ 1 (.slice (some ⟨wr.heap.size, 0, none⟩) s s) rfl HNX.out rfl (by unfold maxLen; omega) (by omega) ?_; intro v' y ho hc; have HR2 := hide (HR.out.push hs2.1 (by rw [hD, hQ]) (by rw [hD]; exact hT) HBX.out (by rw [HZB.out]; exact HGX.out) ho hc); have HSET := hide (HR2.out.set hs2.1 (by rw [hD, hQ])); rw [hD, hQ, hT, hR, hXP, show ((X + 1 : Nat) : Int) = (X : Int) + 1 from rfl] at HSET; have HBJ := hide (HBT.out _ HR2.out.bel j (by omega)); rw [hbb] at HBJ; clear ho hc HOX HNX HGX HBX hmk)
                | (go_at_call 47; refine HBJ.out.mono ?_; rintro e w1 ⟨rfl, hw1⟩; have hws := hw1.symm; clear hw1; subst hws))
              obtain ⟨g, cl, hvv, hcl, hclm, hgm, cg1, cg2, cf2⟩ := set_cells HR2.out hs2.1 hD hQ hT hjR
              subst hvv
              rw [show 0 / 8 = 0 from rfl, hX] at cg2
              rw [show 0 / 8 = 0 from rfl] at cf2
              generalize (gs ++ [wr.heap.size]).getD Q 0 = G at *
              have b1 : (0 : Int) ≤ (Q : Int) := by omega
              have b2 : (Q : Int) < (Q : Int) + 1 := by omega
              have b4 : (0 : Int) < (s : Int) := by omega
              have b5 : 0 < s := hs2.1
              have b6 : IntKind.i64.wrap 0 = 0 := rfl
              refine wp_still_tail 15 (by kernel_rfl) (by kernel_rfl) ?_
              simp only [List.take_succ_cons, List.take_zero, List.drop_succ_cons, List.drop_zero]
              repeat still_step
              refine wpStill_nil ?_
              go_wp2_with fail
              go_roundw
              case rel => exact ⟨j + 1, gs ++ [wr.heap.size], by omega, by go_num, by rw [kb_next hs2.1, hD, hQ]; exact HSET.out.moved (Below.refl _ _).drew⟩
              case measure => simp [intOf]; omega
            · have hm0 : ¬ T = 0 := hm
              clear hm
              have hkb : kb s j = Q + 1 := by rw [kb_in hs2.1 (by rw [hD, hT]; exact hm0), hD, hQ]
              rw [hkb] at HR
              have HSET := hide (HR.out.set hs2.1 (by rw [hD, hQ]))
              rw [hD, hQ, hT, hR, hXP, Int.natCast_add] at HSET
              go_wp2_with (go_at_call 47; refine HBJ.out.mono ?_; rintro e w1 ⟨rfl, hw1⟩; have hws := hw1.symm; clear hw1; subst hws)
              obtain ⟨g, cl, hvv, hcl, hclm, hgm, cg1, cg2, cf2⟩ := set_cells HR.out hs2.1 hD hQ hT hjR
              subst hvv
              rw [hR, hX] at cg2
              rw [hR] at cf2
              generalize gs.getD Q 0 = G at *
              have b1 : (0 : Int) ≤ (Q : Int) := by omega
              have b2 : (Q : Int) < (Q : Int) + 1 := by omega
              have b3 : (0 : Int) ≤ (R : Int) := by omega
              have b4 : (R : Int) < (s : Int) := by omega
              refine wp_still_tail 15 (by kernel_rfl) (by kernel_rfl) ?_
              simp only [List.take_succ_cons, List.take_zero, List.drop_succ_cons, List.drop_zero]
              repeat still_step
              refine wpStill_nil ?_
              go_wp2_with fail
              go_roundw
              case rel => exact ⟨j + 1, gs, by omega, by go_num, by rw [kb_next hs2.1, hD, hQ]; exact HSET.out.moved (Below.refl _ _).drew⟩
              case measure => simp [intOf]; omega
        · obtain rfl : j = n := by omega
          have hkn : kb s j = (j - 1) / (8 * s) + 1 := by
            obtain ⟨t, rfl⟩ : ∃ t, j = t + 1 := ⟨j - 1, by omega⟩
            rw [kb_next hs2.1]; rfl
          rw [hkn] at HR
          have HFI := hide (HR.out.done (Nat.succ_pos _))
          have HBE := hide HR.out.bel
          go_wp2_with fail
          (try simp only [Exit.inBlock, Exit.then]); refine bodyPost_ret (results_tmp2 rfl _ _ _) rfl ?_
          exact ⟨_, rfl, HFI.out, HBE.out⟩
end Go.Proofs.Ytkjaaknlhmneoaa
