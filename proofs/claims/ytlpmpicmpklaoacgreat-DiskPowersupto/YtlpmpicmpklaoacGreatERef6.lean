import Derived.Test.YtlpmpicmpklaoacGreatERef5
namespace Go.Proofs.YtlpmpicmpklaoacGreat
open Go.RowKit Go.Maps
set_option linter.unusedVariables false
set_option linter.unusedSimpArgs false
set_option maxRecDepth 20000

theorem run_zeros (n : Nat) (hn : n ≤ 281474976710656) (Z : Array Value) (hZ : Hid (((zeros n).map byteV).toArray = Z)) (w : World) :
    (Instr.makeSlice 22 (.int .i64 (n : Int)) (.int .i64 (n : Int))).run Tryz.prog w = .ok (sl w.heap.size n) (w.alloc (.cells Z 5)) := by
  obtain ⟨i0, hi, hz0, hz1, hz2⟩ := info_parts info_u8
  have hr := run_make (P := Tryz.prog) w 22 5 i0 (.int .u8 0) Tryz.underlying22 hi hz0 .i64 .i64 (n : Int) (n : Int) (by omega) (Int.le_refl _) (by rw [hz2]; omega) (by omega)
  simp only [Int.toNat_natCast] at hr
  rw [hz1, made_zeros, hZ.out] at hr
  exact hr

theorem cell_two_drew (w : World) (a b : Value) (t : TypeId) : ∀ j u, [a, b][j]? = some u → (w.alloc (.cells #[a, b] t)).drew.cell? ((⟨w.heap.size, 0, none⟩ : Addr).add j) = some u := cell_two_new w a b t

structure RZInv (w wr : World) (L : RLay) (S : St) (f c : Nat) (i : Nat) (L' : RLay) (T : St) (wh : Int) : Prop where
  hi : i ≤ c
  p : L'.p = L.p
  rd : RD wr L' T wh
  gr : Grow w wr L.U L'.U
  goes : S.zeroN f c = T.zeroN (f + i) (c - i)
  nb : T.nb = S.nb
  sz : T.sz = S.sz
  ca : ∀ k, f + i ≤ k → T.cache k = S.cache k
  cb : ∀ k, (T.cache k).length ≤ (S.cache k).length + 1

set_option maxHeartbeats 1000000 in
theorem rZero {w : World} {L : RLay} {S : St} {wh : Int} (h : RD w L S wh) (f c : Int) (hf : -9223372036854775808 ≤ f ∧ f ≤ 9223372036854775807) (hcc : -9223372036854775808 ≤ c ∧ c ≤ 9223372036854775807) (hb : ∀ k, (S.cache k).length + 2 ≤ 268435456) :
    Calls Tryz.prog 56 #[PR L, .int .i64 f, .int .i64 c] w fun e w' => WPost w L (S.zero f c).1 (S.zero f c).2.1 (S.zero f c).2.2 e w' := by
  obtain ⟨i0, hi, hz0, hz1, hz2⟩ := info_parts info_item
  have HD := hide h
  obtain ⟨hnb1, hnb2⟩ := h.nb
  have hsz := h.szs
  have c0 := h.cells.1.c0
  have c5 := h.cells.1.c5
  have HCB := hide hb
  clear h hb
  obtain ⟨hf1, hf2⟩ := hf
  obtain ⟨hc1, hc2⟩ := hcc
  unfold PR
  by_cases h1 : c < 0
  · have e1 : S.zeroBad f c = 1 := by simp [St.zeroBad, h1]
    have e2 : S.zero f c = (S, 1, f) := by rw [St.zero, if_neg (by rw [e1]; decide), e1]
    rw [e2]
    have HN := hide (rrefuse HD.out 1 f)
    unfold PR at HN
    go_enter Tryz.func56, Tryz.ntmps56
    go_wp2_with (go_at_call 80; refine HN.out.mono ?_; rintro e w3 ⟨rfl, hx3, hy3⟩)
    go_ret
    exact ⟨rfl, L, rfl, hx3, hy3⟩
  · by_cases h2 : f < 0 ∨ (S.nb : Int) < f ∨ (S.nb : Int) - f < c
    · have e1 : S.zeroBad f c = 2 := by simp only [St.zeroBad]; rw [if_neg h1, if_pos h2]
      have e2 : S.zero f c = (S, 2, f) := by rw [St.zero, if_neg (by rw [e1]; decide), e1]
      rw [e2]
      clear e1 e2
      have HN := hide (rrefuse HD.out 2 f)
      unfold PR at HN
      by_cases g1 : f < 0
      · clear h2
        go_enter Tryz.func56, Tryz.ntmps56
        go_wp2_with (go_at_call 80; refine HN.out.mono ?_; rintro e w3 ⟨rfl, hx3, hy3⟩)
        go_ret
        exact ⟨rfl, L, rfl, hx3, hy3⟩
      · by_cases g2 : (S.nb : Int) < f
        · clear h2
          go_enter Tryz.func56, Tryz.ntmps56
          go_wp2_with (go_at_call 80; refine HN.out.mono ?_; rintro e w3 ⟨rfl, hx3, hy3⟩)
          go_ret
          exact ⟨rfl, L, rfl, hx3, hy3⟩
        · have g3 : (S.nb : Int) - f < c := by omega
          clear h2
          go_enter Tryz.func56, Tryz.ntmps56
          go_wp2_with (go_at_call 80; refine HN.out.mono ?_; rintro e w3 ⟨rfl, hx3, hy3⟩)
          go_ret
          exact ⟨rfl, L, rfl, hx3, hy3⟩
    · cases hof : S.off with
      | true =>
        have e1 : S.zeroBad f c = 22 := by simp only [St.zeroBad]; rw [if_neg h1, if_neg h2, if_pos hof]
        have e2 : S.zero f c = (S, 22, f) := by rw [St.zero, if_neg (by rw [e1]; decide), e1]
        rw [e2]
        rw [hof] at c5
        clear e1 e2 hof
        have HN := hide (rrefuse HD.out 22 f)
        unfold PR at HN
        have g1 : ¬ f < 0 := by omega
        have g2 : ¬ (S.nb : Int) < f := by omega
        have g3 : ¬ (S.nb : Int) - f < c := by omega
        clear h2
        go_enter Tryz.func56, Tryz.ntmps56
        go_wp2_with (go_at_call 80; refine HN.out.mono ?_; rintro e w3 ⟨rfl, hx3, hy3⟩)
        go_ret
        exact ⟨rfl, L, rfl, hx3, hy3⟩
      | false =>
        obtain ⟨F, rfl⟩ : ∃ F : Nat, f = (F : Int) := ⟨f.toNat, by omega⟩
        obtain ⟨C, rfl⟩ : ∃ C : Nat, c = (C : Int) := ⟨c.toNat, by omega⟩
        have hFC : F + C ≤ S.nb := by omega
        have e1 : S.zeroBad F C = 0 := by simp only [St.zeroBad]; rw [if_neg h1, if_neg h2, hof]; rfl
        have e2 : S.zero F C = S.zeroN F C := by rw [St.zero, if_pos e1]; rfl
        rw [e2]
        rw [hof] at c5
        clear e1 e2 hof
        have g1 : ¬ (F : Int) < 0 := by omega
        have g2 : ¬ (S.nb : Int) < (F : Int) := by omega
        have g3 : ¬ (S.nb : Int) - (F : Int) < (C : Int) := by omega
        clear h2
        have START : Hid (RZInv w w L S F C 0 L S wh) := hide ⟨Nat.zero_le _, rfl, HD.out, Grow.refl _ _, rfl, rfl, rfl, fun _ _ => rfl, fun _ => Nat.le_succ _⟩
        go_enter Tryz.func56, Tryz.ntmps56
        go_wp2
        go_loopw [7] (fun x wr => ∃ (n : Nat) (L' : RLay) (T : St) (wh' : Int), x = .int .i64 ((F : Int) + (n : Int)) ∧ RZInv w wr L S F C n L' T wh') (fun x _ => F + C - (intOf x).toNat)
        case atStart => exact ⟨0, _, _, _, by simp, START.out⟩
        case round =>
          clear START
          obtain ⟨n, L', T, wh', rfl, hI⟩ := hrel
          have hn := hI.hi
          have HI := hide hI
          have hp := hI.p
          clear hI
          have hcast : Hid (((F : Int) + (n : Int)) = ((F + n : Nat) : Int)) := hide (by omega)
          by_cases hlt : n < C
          · have HST := hide (rstep HI.out.rd)
            unfold PR at HST
            rw [hp] at HST
            have hsub : C - n = (C - (n + 1)) + 1 := by omega
            cases hok : T.stepOk with
            | false =>
              rw [hok] at HST
              go_wp2_with (first
                | (go_at_call 81; refine HST.out.mono ?_; rintro e w2 ⟨rfl, hx, hy, hz⟩; have HN := hide (rrefuse hx 22 ((F : Int) + (n : Int))); unfold PR at HN; rw [hp] at HN)
                | (go_at_call 80; refine HN.out.mono ?_; rintro e w3 ⟨rfl, hx3, hy3⟩))
              go_ret
              have hz' : S.zeroN F C = (T.step, 22, ((F + n : Nat) : Int)) := by
                rw [HI.out.goes, hsub]
                simp [St.zeroN, hok]
              rw [hz']
              rw [hcast.out] at hx3
              exact ⟨rfl, L', hp, hx3, HI.out.gr.trans (hy.trans hy3)⟩
            | true =>
              rw [hok] at HST
              go_wp2_with (first
                | (go_at_call 81; refine HST.out.mono ?_; rintro e w2 ⟨rfl, hx, hy, hz⟩))
              obtain ⟨R2, r1, r2, r3⟩ := hx
              have hb2 : ∀ k, (T.step.cache k).length + 1 ≤ 268435456 := fun k => by rw [step_cache]; have := HI.out.cb k; have := HCB.out k; omega
              have hil := items_lt r1 r2 hb2
              obtain ⟨ac, cc, ec, hc1', hc2'⟩ := rowForm r1.hc
              have HB0 := hide (Below.drew (Below.refl w2.heap.size w2))
              have HR0 := hide (r1.below HB0.out)
              have HR1 := hide r1
              have HSM := hide r2
              have HW := hide r3
              have hszT : T.step.sz = S.sz := by rw [step_sz]; exact HI.out.sz
              have HCE : Hid (∀ w', RRep w' L' R2 → w'.cell? ⟨L.p, 4, none⟩ = some (.slice ac R2.items.length cc) ∧ w'.cell? ⟨L.p, 1, none⟩ = some (.int .i64 (S.sz : Int))) := hide fun w' h' => by rw [← hp]; exact ⟨by rw [← ec]; exact h'.cell 4, by rw [← hszT, ← HSM.out.sz]; exact h'.cell 1⟩
              obtain ⟨k0, k1⟩ := HCE.out _ HR0.out
              have k00 : w2.cell? ⟨L.p, 4, none⟩ = some (.slice ac R2.items.length cc) := k0
              have k01 : w2.cell? ⟨L.p, 1, none⟩ = some (.int .i64 (S.sz : Int)) := k1
              have HY := hide hy
              have HEC := hide ec
              have HZ2 := hide hz
              have hszn : S.sz ≤ 281474976710656 := by omega
              have hlp : L.p < w2.heap.size := by rw [← hp]; exact r1.uLt _ r1.uP
              clear r1 r2 r3 hy ec hz hszT
              obtain ⟨Z, hZ⟩ : ∃ Z, ((zeros S.sz).map byteV).toArray = Z := ⟨_, rfl⟩
              have HZE := hide hZ
              have hmk := run_zeros S.sz hszn Z HZE
              clear hZ
              have HRA : Hid (∀ o, RRep ((w2.alloc (.cells Z 5)).alloc o).drew L' R2) := hide fun o => (HR1.out.below ((Below.refl _ _).alloc (Nat.le_refl _) _)).below (Below.drew ((Below.refl _ _).alloc (Nat.le_refl _) o))
              obtain ⟨k5, k6a⟩ := HCE.out _ (HR1.out.below (Below.drew ((Below.refl _ _).alloc (Nat.le_refl _) (.cells Z 5))))
              obtain ⟨k7, k8⟩ := HCE.out _ (HRA.out (.cells #[.int .i64 ((F : Int) + (n : Int)), sl w2.heap.size S.sz] 114))
              have HHC : Hid (∀ o, ((w2.alloc (.cells Z 5)).alloc o).drew.ownsRow 0 114 2 (.slice ac R2.items.length cc) R2.items.length (itemVals R2.sz R2.items)) := hide (fun o => by rw [← HEC.out]; exact (HRA.out o).hc)
              have HGC : Hid (∀ o w6, ((w2.alloc (.cells Z 5)).alloc o).drew.grownBy w6 (Value.slice ac R2.items.length cc).ownBlock → w6.cell? ⟨L.p, 4, none⟩ = some (.slice ac R2.items.length cc) ∧ w6.frozen? ⟨L.p, 4, none⟩ = false) := hide (fun o w6 hg => by rw [← hp]; exact (HRA.out o).grownCell HEC.out hg)
              go_region_law (first
                | (refine step_append_lies _ rfl (.tmp 64) (.tmp 72) 68 rfl 0 114 i0 (.agg #[.int .i64 0, .slice none 0 0]) 2 32 Tryz.underlying68 hi hz0 hz1 hz2 rfl (by decide) (.slice ac R2.items.length cc) R2.items.length (itemVals R2.sz R2.items) rfl (HHC.out _) ⟨w2.heap.size + 1, 0, none⟩ 1 1 [.int .i64 ((F : Int) + (n : Int)), sl w2.heap.size S.sz] rfl rfl (by have := cell_two_drew (w2.alloc (.cells Z 5)) (.int .i64 ((F : Int) + (n : Int))) (sl w2.heap.size S.sz) 114; simpa using this) (by intro u hu; simp only [List.mem_cons, List.not_mem_nil, or_false] at hu; rcases hu with rfl | rfl <;> rfl) (by decide) (by unfold maxLen; omega) (by omega) (Nat.zero_le _) (w2.heap.size + 2) (by simp) ?_; intro g cap w6 ho6 hg6 hloc6 hlt6; obtain ⟨k6, f6⟩ := HGC.out _ _ hg6; have HO6 := hide ho6; have HG6 := hide hg6; have HLO6 := hide hloc6; have HLT6 := hide hlt6; clear ho6 hg6 hloc6 hlt6))
              all_goals
                have hwa := (Below.refl w2.heap.size w2).alloc (Nat.le_refl _) (.cells Z 5)
                have hwb := Below.drew (hwa.alloc (by simp) (.cells #[.int .i64 ((F : Int) + (n : Int)), sl w2.heap.size S.sz] 114))
                have hsz2 : R2.sz = S.sz := by rw [HSM.out.sz, step_sz]; exact HI.out.sz
                have hkk : F + n < R2.nb := by rw [HSM.out.nb, step_nb, HI.out.nb]; omega
                have hpz : PieceAt ((w2.alloc (.cells Z 5)).alloc (.cells #[.int .i64 ((F : Int) + (n : Int)), sl w2.heap.size S.sz] 114)).drew w2.heap.size (zeros S.sz) := by
                  refine ⟨?_, zeros_lt _, by rw [zeros_len]; unfold maxLen; omega, by rw [zeros_len]; omega⟩
                  rw [HZE.out]
                  exact (Below.heap_alloc (w2.alloc (.cells Z 5)) _ w2.heap.size (by simp)).trans (Go.heap_alloc_new w2 _)
                have ho := HO6.out
                rw [← hsz2, hcast.out] at ho
                obtain ⟨L2, eL, hD7, hU1, hU2, hK7⟩ := (HRA.out (.cells #[.int .i64 ((F : Int) + (n : Int)), sl w2.heap.size S.sz] 114)).pushed HSM.out (k := F + n) (pc := ⟨w2.heap.size, zeros S.sz⟩) hkk hpz (by rw [hsz2]; exact zeros_len _) ho rfl (by rw [HEC.out]; exact HG6.out) (by rw [HEC.out]; rcases HLO6.out with e | e; exact .inl e; exact .inr (by rw [e]; simp)) HLT6.out
                rw [hp] at eL hD7 hK7
                have hs6 := HG6.out.size
                have HG7 : Hid (Grow w (w6.setCell ⟨L.p, 4, none⟩ (.slice (some ⟨g, 0, none⟩) (R2.items.length + 1) cap)) L.U L2.U) := hide (HI.out.gr.trans (HY.out.trans ⟨HG6.out.os.trans hwb.os, HG6.out.tape.trans hwb.tape, HG6.out.output.trans hwb.output, by have := hwb.size; simp [World.setCell]; omega, fun b hb hu => by
                  rw [hK7 b (by have := hwb.size; omega) hu]
                  exact hwb.block b hb, fun b hb hu => by
                  rcases hU2 b hu with h | h | h
                  · exact h
                  · simp only at h; omega
                  · have := hwb.size
                    omega, hU1⟩))
                have c8 := hD7.cells.1.c8
                have f8 := hD7.cells.1.free 8
                obtain ⟨q1, q2, q3⟩ := hD7.addWr
                rw [eL] at c8 f8 q1 q2
                have HQ1 := hide q1
                have HQ2 := hide (HG7.out.trans q2)
                have HZP : Hid ((T.step.pushed (F + n) (zeros S.sz)).addWr = T.zput (F + n)) := hide (by rw [St.zput, HI.out.sz])
                rw [HZP.out] at HQ1
                have HEL := hide eL
                clear q1 q2 q3 hU1 hU2 hK7 hwa hwb hpz ho hkk hsz2 hD7 eL
                go_wp2
                go_roundw
                case rel =>
                  refine ⟨n + 1, L2, T.zput (F + n), _, by go_num, ⟨by omega, HEL.out, HQ1.out, HQ2.out, ?_, by rw [zput_nb]; exact HI.out.nb, by rw [zput_sz]; exact HI.out.sz, fun k hk' => ?_, fun k => ?_⟩⟩
                  · rw [HI.out.goes, hsub]
                    simp only [St.zeroN, hok, if_true]
                    rw [Nat.add_assoc]
                  · rw [zput_cache _ (by omega)]
                    exact HI.out.ca k (by omega)
                  · by_cases e : k = F + n
                    · subst e
                      show (updF T.step.cache (F + n) _ (F + n)).length ≤ _
                      rw [updF_same, step_cache, HI.out.ca _ (Nat.le_refl _)]
                      simp
                    · rw [zput_cache _ e]; exact HI.out.cb k
                case measure => simp [intOf]; omega
          · have hnC : n = C := by omega
            have hz := HI.out.goes
            rw [hnC, Nat.sub_self] at hz
            have HF := hide (rfine HI.out.rd)
            unfold PR at HF
            rw [hp] at HF
            go_wp2_with (go_at_call 71; refine HF.out.mono ?_; rintro e w3 ⟨rfl, hx3, hy3⟩)
            go_ret
            rw [hz]
            exact ⟨rfl, L', hp, hx3, HI.out.gr.trans hy3⟩
end Go.Proofs.YtlpmpicmpklaoacGreat
