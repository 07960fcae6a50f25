import Derived.Test.YtafjldmfghokaaaABook2
namespace Go.Proofs.Ytafjldmfghokaaa
open Go.RowKit Go.Sort
set_option linter.unusedVariables false
set_option linter.unusedSimpArgs false
set_option maxRecDepth 20000

theorem num_any (w : World) (e : Int) : Calls Try.prog 12 #[.int .i64 e] w fun r w' => r = .returned (.int .i64 e) ∧ w' = w := by
  go_enter Try.func12, Try.ntmps12
  go_wp2
  go_ret
  exact ⟨rfl, rfl⟩
theorem newI_no (w : World) (n : Int) (h : ¬ (1 ≤ n ∧ n ≤ 16)) : Calls Try.prog 11 #[.int .i64 n] w fun e w' => e = .returned (.tuple #[.pointer none, .int .i64 1]) ∧ w' = w := by
  have HV := hide (validSlots_any w n)
  rw [decide_eq_false h] at HV
  go_enter Try.func11, Try.ntmps11
  go_wp2_with (first
    | (go_at_call 40; refine HV.out.mono ?_; rintro e w2 ⟨rfl, rfl⟩))
  go_ret2
  exact ⟨rfl, rfl⟩
theorem newI_any (w : World) (n : Nat) (h1 : 1 ≤ n) (h2 : n ≤ 16) : Calls Try.prog 11 #[.int .i64 (n : Int)] w fun e w' => e = .returned (.tuple #[.pointer (some ⟨w.heap.size + 1, 0, none⟩), .int .i64 0]) ∧ LRep w' (w.heap.size + 1) w.heap.size (.slice none 0 0) (.slice none 0 0) (.slice none 0 0) ⟨n, [], [], [], []⟩ ∧ Below w.heap.size w w' := by
  have HV := hide (validSlots_any w (n : Int))
  rw [decide_eq_true (by omega)] at HV
  have hmm := fun W : World => run_makeMap (P := Try.prog) 86 W
  have HF : Hid (LRep ((w.alloc (.map #[] 0)).alloc (.cells #[.int .i64 (n : Int), .map (some w.heap.size), .slice none 0 0, .slice none 0 0, .slice none 0 0] 88)) (w.heap.size + 1) w.heap.size (.slice none 0 0) (.slice none 0 0) (.slice none 0 0) ⟨n, [], [], [], []⟩ ∧ Below w.heap.size w ((w.alloc (.map #[] 0)).alloc (.cells #[.int .i64 (n : Int), .map (some w.heap.size), .slice none 0 0, .slice none 0 0, .slice none 0 0] 88))) := hide (by
    have hb := ((Below.refl w.heap.size w).alloc (Nat.le_refl _) (.map #[] 0)).alloc (by simp) (.cells #[.int .i64 (n : Int), .map (some w.heap.size), .slice none 0 0, .slice none 0 0, .slice none 0 0] 88)
    refine ⟨⟨?_, (MP.new w).kept (Below.heap_alloc _ _ _ (by simp)), ⟨rfl, .inl ⟨rfl, rfl⟩⟩, ⟨rfl, .inl ⟨rfl, rfl⟩⟩, ⟨rfl, .inl ⟨rfl, rfl⟩⟩, fun b e => by simp [Value.ownBlock] at e, fun b e => by simp [Value.ownBlock] at e⟩, hb⟩
    have := Go.heap_alloc_new (w.alloc (.map #[] 0)) (.cells #[.int .i64 (n : Int), .map (some w.heap.size), .slice none 0 0, .slice none 0 0, .slice none 0 0] 88)
    rw [World.size_alloc] at this
    exact this)
  go_enter Try.func11, Try.ntmps11
  go_wp2_with (first
    | (go_at_call 40; refine HV.out.mono ?_; rintro e w2 ⟨rfl, rfl⟩))
  go_ret2
  exact ⟨rfl, HF.out.1, HF.out.2⟩
theorem flat_one (u : Us) : flat [u] = u.cells := by simp [flat]
set_option maxHeartbeats 2000000 in
/-- the book without a key's line, in new memory -/
theorem without_any {base : Nat} {w : World} {v : Value} {L : List Us} (h : BkR base w v L) (hl : L.length ≤ 17) (hbs : base ≤ w.heap.size) (key : Int) :
    Calls Try.prog 17 #[v, .int .i64 key] w fun e w' => ∃ v', e = .returned v' ∧ BkR base w' v' (L.filter (fun u => decide (u.key ≠ key))) ∧ Below w.heap.size w w' := by
  obtain ⟨i0, hi, hz0, hz1, hz2⟩ := info_parts info_use
  have HAT : Hid (∀ x, Below w.heap.size w x → ∀ i, i < L.length → ∃ g cap, v = .slice (some ⟨g, 0, none⟩) L.length cap ∧ x.cell? ⟨g, i * 4, none⟩ = some (.int .i64 (ub L i).key) ∧ x.cell? ⟨g, i * 4 + 1, none⟩ = some (.int .i64 ((ub L i).got : Int)) ∧ x.cell? ⟨g, i * 4 + 2, none⟩ = some (.int .i64 ((ub L i).back : Int)) ∧ x.cell? ⟨g, i * 4 + 3, none⟩ = some (.int .i64 ((ub L i).at_ : Int))) := hide fun x hx i hi => by
    obtain ⟨g, cap, cs, q1, q2, q3, q4, q5, q6, q7⟩ := h.at (ub_of hi)
    have hgl := (Array.getElem?_eq_some_iff.1 q3).1
    exact ⟨g, cap, q1, by rw [hx.cell (p := ⟨g, _, none⟩) hgl]; exact q4, by rw [hx.cell (p := ⟨g, _, none⟩) hgl]; exact q5, by rw [hx.cell (p := ⟨g, _, none⟩) hgl]; exact q6, by rw [hx.cell (p := ⟨g, _, none⟩) hgl]; exact q7⟩
  have HST : Hid (∀ i, i < L.length → (L.take (i + 1)).filter (fun u => decide (u.key ≠ key)) = (L.take i).filter (fun u => decide (u.key ≠ key)) ++ (if (ub L i).key = key then [] else [ub L i])) := hide fun i hi => by
    rw [List.take_add_one, ub_of hi, List.filter_append]
    congr 1
    by_cases e : (ub L i).key = key
    · simp [e]
    · simp [e]
  have HLN : Hid (∀ i, ((L.take i).filter (fun u => decide (u.key ≠ key))).length ≤ 17) := hide fun i => Nat.le_trans (List.length_filter_le _ _) (by rw [List.length_take]; omega)
  have HE : Hid (L.take L.length = L) := hide (List.take_length)
  obtain ⟨a, cap, rfl, h1, h2⟩ := h.form
  unfold maxLen at h2
  clear h
  generalize hn : L.length = n at *
  clear hn
  go_enter Try.func17, Try.ntmps17
  go_wp2_with fail
  go_loopw [5, 6] (fun y x wr => ∃ i : Nat, i ≤ n ∧ x = .int .i64 (i : Int) ∧ BkR w.heap.size wr y ((L.take i).filter (fun u => decide (u.key ≠ key))) ∧ Below w.heap.size w wr) (fun _ x _ => n - (intOf x).toNat)
  case atStart => exact ⟨0, Nat.zero_le _, rfl, ⟨rfl, .inl ⟨rfl, rfl⟩⟩, Below.refl _ _⟩
  case round =>
    obtain ⟨i, hin, rfl, hbk, hbe⟩ := hrel
    have HBK := hide hbk
    have HBE := hide hbe
    obtain ⟨al, cl, el, hl1, hl2⟩ := hbk.form
    subst el
    unfold maxLen at hl2
    have hll := HLN.out i
    clear hbk
    by_cases hlt : i < n
    · obtain ⟨g, cap', e, r0, r1, r2, r3⟩ := HAT.out _ hbe i hlt
      simp only [Value.slice.injEq] at e
      obtain ⟨rfl, -, -⟩ := e
      have HS := hide (HST.out i hlt)
      by_cases hk : (ub L i).key = key
      · rw [if_pos hk, List.append_nil] at HS
        have HN : Hid (BkR w.heap.size wr (.slice al ((L.take i).filter (fun u => decide (u.key ≠ key))).length cl) ((L.take (i + 1)).filter (fun u => decide (u.key ≠ key)))) := hide (by rw [HS.out]; exact HBK.out)
        rw [hk] at r0
        generalize ((L.take i).filter (fun u => decide (u.key ≠ key))).length = m at *
        clear hk HBK hbe
        go_wp2_with fail
        go_roundw
        case rel => exact ⟨i + 1, by omega, by go_num, HN.out, HBE.out⟩
        case measure => simp [intOf]; omega
      · rw [if_neg hk] at HS
        have b1 : ((ub L i).key == key) = false := by simpa using hk
        have HFL : Hid (flat ((L.take (i + 1)).filter (fun u => decide (u.key ≠ key))) = flat ((L.take i).filter (fun u => decide (u.key ≠ key))) ++ [.int .i64 (ub L i).key, .int .i64 ((ub L i).got : Int), .int .i64 ((ub L i).back : Int), .int .i64 ((ub L i).at_ : Int)]) := hide (by rw [HS.out, flat_snoc]; rfl)
        have HFN : Hid (((L.take (i + 1)).filter (fun u => decide (u.key ≠ key))).length = ((L.take i).filter (fun u => decide (u.key ≠ key))).length + 1) := hide (by rw [HS.out, List.length_append]; rfl)
        have o3 : (wr.alloc (.cells #[.int .i64 (ub L i).key, .int .i64 ((ub L i).got : Int), .int .i64 ((ub L i).back : Int), .int .i64 ((ub L i).at_ : Int)] 33)).ownsRow w.heap.size 33 4 (.slice al ((L.take i).filter (fun u => decide (u.key ≠ key))).length cl) ((L.take i).filter (fun u => decide (u.key ≠ key))).length (flat ((L.take i).filter (fun u => decide (u.key ≠ key)))) := World.ownsRow.alloc HBK.out _
        generalize flat ((L.take i).filter (fun u => decide (u.key ≠ key))) = xs at *
        generalize ((L.take i).filter (fun u => decide (u.key ≠ key))).length = m at *
        generalize (ub L i).key = kk at *
        generalize (ub L i).got = gg at *
        generalize (ub L i).back = bb at *
        generalize (ub L i).at_ = tt at *
        have hbs2 : w.heap.size ≤ (wr.alloc (.cells #[.int .i64 kk, .int .i64 (gg : Int), .int .i64 (bb : Int), .int .i64 (tt : Int)] 33)).heap.size := by rw [World.size_alloc]; have := HBE.out.size; omega
        have HPOST : Hid (∀ v' w4, w4.ownsRow w.heap.size 33 4 v' (m + 1) (xs ++ [.int .i64 kk, .int .i64 (gg : Int), .int .i64 (bb : Int), .int .i64 (tt : Int)]) → (wr.alloc (.cells #[.int .i64 kk, .int .i64 (gg : Int), .int .i64 (bb : Int), .int .i64 (tt : Int)] 33)).grownBy w4 (Value.slice al m cl).ownBlock → BkR w.heap.size w4 v' ((L.take (i + 1)).filter (fun u => decide (u.key ≠ key))) ∧ Below w.heap.size w w4) := hide fun v' w4 q1 q2 => by
          refine ⟨by unfold BkR; rw [HFN.out, HFL.out]; exact q1, ?_⟩
          have hs := HBE.out.size
          refine ⟨q2.os.trans HBE.out.os, q2.tape.trans HBE.out.tape, q2.output.trans HBE.out.output, by have := q2.size; rw [World.size_alloc] at this; omega, fun k hk => ?_⟩
          have hne : some k ≠ (Value.slice al m cl).ownBlock := fun e => by
            have := (World.ownsRow.lt o3 k e.symm).1
            omega
          rw [q2.block k (by rw [World.size_alloc]; omega) hne, Below.heap_alloc _ _ k (by omega)]
          exact HBE.out.block k hk
        clear hbe hk HBK HS HFL HFN
        go_wp2_with (at_builtin; refine wpList_append_own_wide _ rfl (.tmp 20) (.tmp 25) 30 rfl w.heap.size 33 i0 (.agg #[.int .i64 0, .int .i64 0, .int .i64 0, .int .i64 0]) 4 32 Try.underlying30 hi hz0 hz1 hz2 rfl (by decide) _ _ _ rfl o3 ⟨wr.heap.size, 0, none⟩ 1 1 [.int .i64 kk, .int .i64 (gg : Int), .int .i64 (bb : Int), .int .i64 (tt : Int)] rfl rfl (cells_new4 _ _ _ _ _ _) (by simp [Value.oneCell']) (by unfold maxLen; omega) (by omega) hbs2 ?_)
        intro v' w4 q1 q2 q3
        have HN := hide (HPOST.out v' w4 q1 q2)
        clear q1 q2 q3 HPOST o3
        go_wp2_with fail
        go_roundw
        case rel => exact ⟨i + 1, by omega, by go_num, HN.out.1, HN.out.2⟩
        case measure => simp [intOf]; omega
    · have ei : i = n := by omega
      subst ei
      have HN : Hid (BkR w.heap.size wr (.slice al ((L.take i).filter (fun u => decide (u.key ≠ key))).length cl) (L.filter (fun u => decide (u.key ≠ key)))) := hide (by have := HBK.out; rw [HE.out] at this ⊢; exact this)
      generalize ((L.take i).filter (fun u => decide (u.key ≠ key))).length = m at *
      clear hbe HBK
      go_wp2_with fail
      go_ret
      refine ⟨_, rfl, ⟨HN.out.1, ?_⟩, HBE.out⟩
      rcases HN.out.2 with q | ⟨g, c, cur, e, q1, r⟩
      · exact .inl q
      · exact .inr ⟨g, c, cur, e, Nat.le_trans hbs q1, r⟩
end Go.Proofs.Ytafjldmfghokaaa
