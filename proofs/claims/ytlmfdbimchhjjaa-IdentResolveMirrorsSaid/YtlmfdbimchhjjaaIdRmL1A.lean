import Derived.Test.YtlmfdbimchhjjaaIdRm
import Derived.Test.YtlmfdbimchhjjaaIdRmM
namespace Go.Proofs.Ytlmfdbimchhjjaa
open Go.RowKit
set_option linter.unusedVariables false
set_option linter.unusedSimpArgs false
set_option maxRecDepth 20000

theorem h1a_drew {W : World} {g : Nat} {o : Obj} (h : W.heap[g]? = some o) : W.drew.heap[g]? = some o := h
theorem h1aA (w : World) (O X Y Z : Obj) : ((((w.alloc O).alloc X).alloc Y).alloc Z).heap[w.heap.size + 1 + 1 + 1]? = some Z := by
  have := Go.heap_alloc_new (((w.alloc O).alloc X).alloc Y) Z
  rwa [show (((w.alloc O).alloc X).alloc Y).heap.size = w.heap.size + 1 + 1 + 1 by simp] at this
theorem h1aB (w : World) (O X Y Z : Obj) : ((((w.alloc O).alloc Z).alloc X).alloc Y).heap[w.heap.size + 1]? = some Z := heap_snd4 _ _ _ _ _
set_option maxHeartbeats 8000000 in
theorem rmir_n1A (w : World) (k r s0 s1 s2 ro rp mo mp fo fp ak ar ae : Int) (hs : resv k r 1 s0 s1 s2 ro rp mo mp (fd fo) (fd fp) = (ak, ar, ae)) (hs2 : resv (mirK k) r 0 s0 s1 s2 rp ro mp mo (fd fp) (fd fo) = (mirK ak, ar, ae)) (hl : (ae ≠ 0 ∧ ak = 0 ∧ ar = 0) ∨ (ae = 0 ∧ k ≠ 5 ∧ k ≠ 6 ∧ ak = k ∧ ar = r)) : Calls Try.prog 6 #[.agg #[.int .i64 k, .int .i64 r, .int .i64 1, .int .i64 s0, .int .i64 s1, .int .i64 s2, .int .i64 ro, .int .i64 rp, .int .i64 mo, .int .i64 mp, .int .u32 fo, .int .u32 fp]] w fun e w' => e = .returned (.bool true) ∧ Below w.heap.size w w' := by
  have H0 := hide fun w => mirror_any w k r
  have H1 := hide fun w => resolveM_any w (k) (r) (1) (s0) (s1) (s2) (ro) (rp) (mo) (mp) (fo) (fp)
  have H2 := hide fun w => resolveM_any w (mirK k) (r) (0) (s0) (s1) (s2) (rp) (ro) (mp) (mo) (fp) (fo)
  rw [hs] at H1
  rw [hs2] at H2
  have H3 := hide fun w => turned_any w ak ar (mirK ak) ar
  rw [show trn ak ar (mirK ak) ar = true by simp [trn]] at H3
  have HNU := hide num_any
  generalize mirK ak = bk at *
  generalize mirK k = mk at *
  unfold setV vd at *
  dsimp only at *
  clear hs hs2
  have HL := hide hl
  clear hl
  have HPx := hide (hp_new w (.cells #[.int .i64 k, .int .i64 r, .int .i64 1, .int .i64 s0, .int .i64 s1, .int .i64 s2, .int .i64 ro, .int .i64 rp, .int .i64 mo, .int .i64 mp, .int .u32 fo, .int .u32 fp] 36))
  obtain ⟨c0, c1, c2, c3, c4, c5, c6, c7, c8, c9, c10, c11, cz⟩ := hp_cells12 HPx.out
  go_enter Try.func6, Try.ntmps6
  go_wp2_with fail
  go_region_held3 (fun w' => w'.cell? ⟨w.heap.size, 0, none⟩ = some (.int .i64 k) ∧ w'.cell? ⟨w.heap.size, 1, none⟩ = some (.int .i64 r) ∧ w'.cell? ⟨w.heap.size, 2, none⟩ = some (.int .i64 1) ∧ w'.cell? ⟨w.heap.size, 3, none⟩ = some (.int .i64 s0) ∧ w'.cell? ⟨w.heap.size, 4, none⟩ = some (.int .i64 s1) ∧ w'.cell? ⟨w.heap.size, 5, none⟩ = some (.int .i64 s2) ∧ w'.cell? ⟨w.heap.size, 6, none⟩ = some (.int .i64 ro) ∧ w'.cell? ⟨w.heap.size, 7, none⟩ = some (.int .i64 rp) ∧ w'.cell? ⟨w.heap.size, 8, none⟩ = some (.int .i64 mo) ∧ w'.cell? ⟨w.heap.size, 9, none⟩ = some (.int .i64 mp) ∧ w'.cell? ⟨w.heap.size, 10, none⟩ = some (.int .u32 fo) ∧ w'.cell? ⟨w.heap.size, 11, none⟩ = some (.int .u32 fp)) (first | exact ⟨c0, c1, c2, c3, c4, c5, c6, c7, c8, c9, c10, c11⟩ | go_keep)
    ((go_at_call 12; refine (H0.out _).mono ?_; rintro e w2 ⟨rfl, A1, A2, rfl⟩))
  all_goals
    (try simp only [Exit.then])
    clear c0 c1 c2 c3 c4 c5 c6 c7 c8 c9 c10 c11 cz HPx H0
    (try simp only [show IntKind.i64.wrap 1 = 1 from rfl, show IntKind.i64.wrap 0 = 0 from rfl])
    rcases HL.out with ⟨hae, rfl, rfl⟩ | ⟨rfl, h5, h6, rfl, rfl⟩
    · clear HL
      go_wp2_with (first
        | (go_at_call 16; (with_reducible refine (H1.out _).mono ?_); rintro e w2 ⟨rfl, hb⟩; have HX2 := hide (hp_below (h1a_drew (hp_alloc (hp_alloc2 (hp_new w (.cells #[.int .i64 k, .int .i64 r, .int .i64 1, .int .i64 s0, .int .i64 s1, .int .i64 s2, .int .i64 ro, .int .i64 rp, .int .i64 mo, .int .i64 mp, .int .u32 fo, .int .u32 fp] 36)) _ _) _)) hb); (first | have HY2 : Hid (w2.heap[w.heap.size + 1 + 1 + 1]? = some (.cells #[.int .i64 mk, .int .i64 r, .int .i64 0, .int .i64 s0, .int .i64 s1, .int .i64 s2, .int .i64 rp, .int .i64 ro, .int .i64 mp, .int .i64 mo, .int .u32 fp, .int .u32 fo] 36)) := hide (hp_below (h1a_drew (h1aA _ _ _ _ _)) hb) | have HY2 : Hid (w2.heap[w.heap.size + 1]? = some (.cells #[.int .i64 mk, .int .i64 r, .int .i64 0, .int .i64 s0, .int .i64 s1, .int .i64 s2, .int .i64 rp, .int .i64 ro, .int .i64 mp, .int .i64 mo, .int .u32 fp, .int .u32 fo] 36)) := hide (hp_below (h1a_drew (h1aB _ _ _ _ _)) hb)); have HB2 := hide (bel_to (bl4 (Below.refl w.heap.size w) _ _ _ _).drew hb); obtain ⟨c0, c1, c2, c3, c4, c5, c6, c7, c8, c9, c10, c11, cx⟩ := hp_cells12 HX2.out; obtain ⟨d0, d1, d2, d3, d4, d5, d6, d7, d8, d9, d10, d11, dx⟩ := hp_cells12 HY2.out; clear hb H1)
        | (go_at_call 16; (with_reducible refine (H2.out _).mono ?_); rintro e w3 ⟨rfl, hb⟩; have HX3 := hide (hp_below (hp_alloc HX2.out _) hb); have HA3 := hide (hp_below (hp_new w2 _) hb); have HB3 := hide (bel_to (bl1 HB2.out _) hb); obtain ⟨c0, c1, c2, c3, c4, c5, c6, c7, c8, c9, c10, c11, cx⟩ := hp_cells12 HX3.out; obtain ⟨e0, e1, e2⟩ := hp_cells2 HA3.out; clear hb H2 HX2 HY2 HB2)
        | (go_at_call 15; (with_reducible refine (H3.out _).mono ?_); rintro e w4 ⟨rfl, B1, B2, h9⟩; have hb : Below _ _ w4 := (by rw [h9]; exact bel_2); have HX4 := hide (hp_below (hp_alloc HX3.out _) hb); have HA4 := hide (hp_below (hp_alloc HA3.out _) hb); have HB4 := hide (bel_to (bl1 HB3.out _) hb); obtain ⟨c0, c1, c2, c3, c4, c5, c6, c7, c8, c9, c10, c11, cx⟩ := hp_cells12 HX4.out; obtain ⟨e0, e1, e2⟩ := hp_cells2 HA4.out; clear hb h9 H3 HX3 HA3 HB3)
        | (go_at_call 14; refine (HNU.out _ _).mono ?_; rintro e w6 ⟨rfl, rfl⟩))
      all_goals
        go_ret
        exact ⟨by first | rfl | simp, by first | exact HB4.out | exact bl1 HB5.out _ | exact HB5.out⟩
    · clear HL
      have g5 : (ak == 5) = false := beq_false_of_ne h5
      have g6 : (ak == 6) = false := beq_false_of_ne h6
      clear h5 h6
      go_wp2_with (first
        | (go_at_call 16; (with_reducible refine (H1.out _).mono ?_); rintro e w2 ⟨rfl, hb⟩; have HX2 := hide (hp_below (h1a_drew (hp_alloc (hp_alloc2 (hp_new w (.cells #[.int .i64 ak, .int .i64 ar, .int .i64 1, .int .i64 s0, .int .i64 s1, .int .i64 s2, .int .i64 ro, .int .i64 rp, .int .i64 mo, .int .i64 mp, .int .u32 fo, .int .u32 fp] 36)) _ _) _)) hb); (first | have HY2 : Hid (w2.heap[w.heap.size + 1 + 1 + 1]? = some (.cells #[.int .i64 mk, .int .i64 ar, .int .i64 0, .int .i64 s0, .int .i64 s1, .int .i64 s2, .int .i64 rp, .int .i64 ro, .int .i64 mp, .int .i64 mo, .int .u32 fp, .int .u32 fo] 36)) := hide (hp_below (h1a_drew (h1aA _ _ _ _ _)) hb) | have HY2 : Hid (w2.heap[w.heap.size + 1]? = some (.cells #[.int .i64 mk, .int .i64 ar, .int .i64 0, .int .i64 s0, .int .i64 s1, .int .i64 s2, .int .i64 rp, .int .i64 ro, .int .i64 mp, .int .i64 mo, .int .u32 fp, .int .u32 fo] 36)) := hide (hp_below (h1a_drew (h1aB _ _ _ _ _)) hb)); have HB2 := hide (bel_to (bl4 (Below.refl w.heap.size w) _ _ _ _).drew hb); obtain ⟨c0, c1, c2, c3, c4, c5, c6, c7, c8, c9, c10, c11, cx⟩ := hp_cells12 HX2.out; obtain ⟨d0, d1, d2, d3, d4, d5, d6, d7, d8, d9, d10, d11, dx⟩ := hp_cells12 HY2.out; clear hb H1)
        | (go_at_call 16; (with_reducible refine (H2.out _).mono ?_); rintro e w3 ⟨rfl, hb⟩; have HX3 := hide (hp_below (hp_alloc HX2.out _) hb); have HA3 := hide (hp_below (hp_new w2 _) hb); have HB3 := hide (bel_to (bl1 HB2.out _) hb); obtain ⟨c0, c1, c2, c3, c4, c5, c6, c7, c8, c9, c10, c11, cx⟩ := hp_cells12 HX3.out; obtain ⟨e0, e1, e2⟩ := hp_cells2 HA3.out; clear hb H2 HX2 HY2 HB2)
        | (go_at_call 15; (with_reducible refine (H3.out _).mono ?_); rintro e w4 ⟨rfl, B1, B2, h9⟩; have hb : Below _ _ w4 := (by rw [h9]; exact bel_2); have HX4 := hide (hp_below (hp_alloc HX3.out _) hb); have HA4 := hide (hp_below (hp_alloc HA3.out _) hb); have HB4 := hide (bel_to (bl1 HB3.out _) hb); obtain ⟨c0, c1, c2, c3, c4, c5, c6, c7, c8, c9, c10, c11, cx⟩ := hp_cells12 HX4.out; obtain ⟨e0, e1, e2⟩ := hp_cells2 HA4.out; clear hb h9 H3 HX3 HA3 HB3)
        | (go_at_call 14; refine (HNU.out _ _).mono ?_; rintro e w6 ⟨rfl, rfl⟩))
      all_goals
        go_ret
        exact ⟨by first | rfl | simp, by first | exact HB4.out | exact bl1 HB5.out _ | exact HB5.out⟩
end Go.Proofs.Ytlmfdbimchhjjaa
