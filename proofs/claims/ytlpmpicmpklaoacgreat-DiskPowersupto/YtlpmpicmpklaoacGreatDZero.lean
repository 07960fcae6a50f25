import Derived.Test.YtlpmpicmpklaoacGreatDRead2
namespace Go.Proofs.YtlpmpicmpklaoacGreat
open Go.RowKit Go.Maps
set_option linter.unusedVariables false
set_option linter.unusedSimpArgs false
set_option maxRecDepth 20000

def St.zput (S : St) (k : Nat) : St := (S.step.pushed k (zeros S.sz)).addWr
/-- n blocks of zeroes from first on: the disk, the error, its block -/
def St.zeroN (S : St) (first : Nat) : Nat → St × Int × Int
  | 0 => (S, 0, 0)
  | n + 1 => if S.stepOk = true then (S.zput first).zeroN (first + 1) n else (S.step, 22, first)

def St.zeroBad (S : St) (f c : Int) : Int := if c < 0 then 1 else if f < 0 ∨ (S.nb : Int) < f ∨ (S.nb : Int) - f < c then 2 else if S.off = true then 22 else 0
def St.zero (S : St) (f c : Int) : St × Int × Int := if S.zeroBad f c = 0 then S.zeroN f.toNat c.toNat else (S, S.zeroBad f c, f)

theorem zput_nb (S : St) (k : Nat) : (S.zput k).nb = S.nb := step_nb S
theorem zput_sz (S : St) (k : Nat) : (S.zput k).sz = S.sz := step_sz S
theorem zput_cache (S : St) {k j : Nat} (h : j ≠ k) : (S.zput k).cache j = S.cache j := by
  show updF S.step.cache k _ j = _
  rw [updF_other _ _ h, step_cache]

structure ZInv (w wr : World) (L : Lay) (S : St) (f c gz : Nat) (i : Nat) (T : St) (U' : Nat → Prop) : Prop where
  hi : i ≤ c
  rep : Rep wr { L with U := U' } T
  gr : Grow w wr L.U U'
  goes : S.zeroN f c = T.zeroN (f + i) (c - i)
  nb : T.nb = S.nb
  sz : T.sz = S.sz
  pc : PieceAt wr gz (zeros S.sz)
  ug : U' gz
  ca : ∀ k, f + i ≤ k → T.cache k = S.cache k

set_option maxHeartbeats 1000000 in
theorem Zero_any {w : World} {L : Lay} {S : St} (hR : Rep w L S) (f c : Int) (hf : -9223372036854775808 ≤ f ∧ f ≤ 9223372036854775807) (hcc : -9223372036854775808 ≤ c ∧ c ≤ 9223372036854775807) (hb : ∀ k, (S.cache k).length + 1 ≤ 9382499223500) :
    Calls Tryz.prog 55 #[PD L, .int .i64 f, .int .i64 c] w fun e w' => PutPost w L (S.zero f c).2.2 (S.zero f c).2.1 (S.zero f c).1 e w' := by
  have HR := hide hR
  have hnb := hR.nb
  have hsz := hR.szs
  have c0 : w.cell? ⟨L.p, 0, none⟩ = some (.int .i64 (S.nb : Int)) := rcell (U' := L.U) hR 0
  have c1 : w.cell? ⟨L.p, 1, none⟩ = some (.int .i64 (S.sz : Int)) := rcell (U' := L.U) hR 1
  have c4 : w.cell? ⟨L.p, 4, none⟩ = some (.bool S.off) := rcell (U' := L.U) hR 4
  clear hR
  obtain ⟨hf1, hf2⟩ := hf
  obtain ⟨hc1, hc2⟩ := hcc
  obtain ⟨hnb1, hnb2⟩ := hnb
  unfold PD
  by_cases h1 : c < 0
  · have e1 : S.zeroBad f c = 1 := by simp [St.zeroBad, h1]
    have e2 : S.zero f c = (S, 1, f) := by rw [St.zero, if_neg (by rw [e1]; decide), e1]
    rw [e2]
    go_enter Tryz.func55, Tryz.ntmps55
    go_wp2_with (go_at_call 66; refine (refused_any _ _ _).mono ?_; rintro e w' ⟨rfl, rfl⟩)
    go_ret
    exact PutPost.mk _ L.U (errIs_alloc HR.out (Nat.le_refl _) _ _ (by decide)) (HR.out.alloc _) ((Grow.refl _ _).alloc _)
  · by_cases h2 : f < 0 ∨ (S.nb : Int) < f ∨ (S.nb : Int) - f < c
    · have e1 : S.zeroBad f c = 2 := by simp only [St.zeroBad]; rw [if_neg h1, if_pos h2]
      have e2 : S.zero f c = (S, 2, f) := by rw [St.zero, if_neg (by rw [e1]; decide), e1]
      rw [e2]
      clear e1 e2
      by_cases g1 : f < 0
      · clear h2
        go_enter Tryz.func55, Tryz.ntmps55
        go_wp2_with (go_at_call 66; refine (refused_any _ _ _).mono ?_; rintro e w' ⟨rfl, rfl⟩)
        go_ret
        exact PutPost.mk _ L.U (errIs_alloc HR.out (Nat.le_refl _) _ _ (by decide)) (HR.out.alloc _) ((Grow.refl _ _).alloc _)
      · by_cases g2 : (S.nb : Int) < f
        · clear h2
          go_enter Tryz.func55, Tryz.ntmps55
          go_wp2_with (go_at_call 66; refine (refused_any _ _ _).mono ?_; rintro e w' ⟨rfl, rfl⟩)
          go_ret
          exact PutPost.mk _ L.U (errIs_alloc HR.out (Nat.le_refl _) _ _ (by decide)) (HR.out.alloc _) ((Grow.refl _ _).alloc _)
        · have g3 : (S.nb : Int) - f < c := by omega
          clear h2
          go_enter Tryz.func55, Tryz.ntmps55
          go_wp2_with (go_at_call 66; refine (refused_any _ _ _).mono ?_; rintro e w' ⟨rfl, rfl⟩)
          go_ret
          exact PutPost.mk _ L.U (errIs_alloc HR.out (Nat.le_refl _) _ _ (by decide)) (HR.out.alloc _) ((Grow.refl _ _).alloc _)
    · cases hof : S.off with
      | true =>
        have e1 : S.zeroBad f c = 22 := by simp only [St.zeroBad]; rw [if_neg h1, if_neg h2, if_pos hof]
        have e2 : S.zero f c = (S, 22, f) := by rw [St.zero, if_neg (by rw [e1]; decide), e1]
        rw [e2]
        rw [hof] at c4
        clear e1 e2 hof
        have g1 : ¬ f < 0 := by omega
        have g2 : ¬ (S.nb : Int) < f := by omega
        have g3 : ¬ (S.nb : Int) - f < c := by omega
        clear h2
        go_enter Tryz.func55, Tryz.ntmps55
        go_wp2_with (go_at_call 66; refine (refused_any _ _ _).mono ?_; rintro e w' ⟨rfl, rfl⟩)
        go_ret
        exact PutPost.mk _ L.U (errIs_alloc HR.out (Nat.le_refl _) _ _ (by decide)) (HR.out.alloc _) ((Grow.refl _ _).alloc _)
      | false =>
        obtain ⟨F, rfl⟩ : ∃ F : Nat, f = (F : Int) := ⟨f.toNat, by omega⟩
        obtain ⟨C, rfl⟩ : ∃ C : Nat, c = (C : Int) := ⟨c.toNat, by omega⟩
        have hFC : F + C ≤ S.nb := by omega
        have e1 : S.zeroBad F C = 0 := by simp only [St.zeroBad]; rw [if_neg h1, if_neg h2, hof]; rfl
        have e2 : S.zero F C = S.zeroN F C := by rw [St.zero, if_pos e1]; rfl
        rw [e2]
        rw [hof] at c4
        clear e1 e2 hof
        have g1 : ¬ (F : Int) < 0 := by omega
        have g2 : ¬ (S.nb : Int) < (F : Int) := by omega
        have g3 : ¬ (S.nb : Int) - (F : Int) < (C : Int) := by omega
        clear h2
        obtain ⟨hR0, hG0⟩ := rep_piece HR.out (zeros S.sz)
        have START : Hid (ZInv w (w.alloc (.cells ((zeros S.sz).map byteV).toArray 5)) L S F C w.heap.size 0 S (fun b => L.U b ∨ b = w.heap.size)) := hide
          ⟨Nat.zero_le _, hR0, hG0, rfl, rfl, rfl, ⟨Go.heap_alloc_new w _, zeros_lt _, by rw [zeros_len]; unfold maxLen; omega, by rw [zeros_len]; omega⟩, .inr rfl, fun _ _ => rfl⟩
        clear hR0 hG0
        have hszn : S.sz ≤ 281474976710656 := by omega
        obtain ⟨Z, hZ⟩ : ∃ Z, ((zeros S.sz).map byteV).toArray = Z := ⟨_, rfl⟩
        rw [hZ] at START
        have HZ := hide hZ
        clear hZ
        have q1 := ifaceNe
        have q2 := nilNe
        go_enter Tryz.func55, Tryz.ntmps55
        go_wp2_with (at_make; refine wpList_zeros rfl _ _ rfl _ S.sz rfl rfl rfl hszn Z HZ ?_)
        go_loopw [48] (fun i wr => ∃ (n : Nat) (T : St) (U' : Nat → Prop), i = .int .i64 (n : Int) ∧ ZInv w wr L S F C w.heap.size n T U') (fun i _ => C - (intOf i).toNat)
        case atStart => exact ⟨0, _, _, rfl, START.out⟩
        case round =>
          clear START
          obtain ⟨n, T, U', rfl, hI⟩ := hrel
          have hn := hI.hi
          by_cases hlt : n < C
          · have hk : F + n < T.nb := by rw [hI.nb]; omega
            have hlz : (zeros S.sz).length = T.sz := by rw [zeros_len, hI.sz]
            have HW0 := write_c' (k := F + n) hI.rep hk hI.ug hI.pc hlz (by rw [hI.ca _ (Nat.le_refl _)]; exact hb _)
            have hzl : (zeros S.sz).length = S.sz := zeros_len _
            rw [hzl] at HW0
            have HW := hide HW0
            have c3 : wr.cell? ⟨L.p, 3, none⟩ = some (.map (some L.cb)) := rcell hI.rep 3
            have HI := hide hI
            have hcast : Hid (((F : Int) + (n : Int)) = ((F + n : Nat) : Int)) := hide (by omega)
            clear hI HW0 hlz hzl c0 c1 c4
            unfold PD at HW
            have hsub : C - n = (C - (n + 1)) + 1 := by omega
            cases hok : T.stepOk with
            | true =>
              have HW1 := hide (HW.out.mono fun e w' h => h.resolve_right (fun h => by rw [hok] at h; exact absurd h.1 (by decide)))
              clear HW
              go_wp2_with (first
                | (go_at_call 83; rw [hcast.out]; refine HW1.out.mono ?_; rintro e w2 ⟨-, rfl, U2, hR2, hG2, hP2⟩; have c7 : w2.cell? ⟨L.p, 7, none⟩ = some (.int .i64 T.step.wr) := rcell hR2 7; have f7 := rfree hR2 7; have HR2 := hide hR2; have HP2 := hide hP2; have HG2 := hide hG2; clear hR2 hP2 hG2))
              go_roundw
              case rel =>
                obtain ⟨k1, k2, k3⟩ := HR2.out.store 7 (.int .i64 (wrap64 (T.step.wr + 1))) T.step.off T.step.fuse T.step.rd (wrap64 (T.step.wr + 1)) T.step.th T.step.fl HR2.out.fz rfl
                have hpz := HP2.out _ _ HI.out.pc
                refine ⟨n + 1, (T.zput (F + n)), U2, by go_num, ⟨by omega, ?_, HI.out.gr.trans (HG2.out.trans k2), ?_, by rw [zput_nb]; exact HI.out.nb, by rw [zput_sz]; exact HI.out.sz, ?_, ?_, ?_⟩⟩
                · have : T.zput (F + n) = (T.step.pushed (F + n) (zeros S.sz)).addWr := by rw [St.zput, HI.out.sz]
                  rw [this]; exact k1
                · rw [HI.out.goes, hsub]
                  simp only [St.zeroN, hok, if_true]
                  rw [Nat.add_assoc]
                · exact hpz.kept (Go.heap_setCell_other _ _ _ _ (HR2.out.pieceNe hpz))
                · exact HG2.out.sup _ HI.out.ug
                · intro k hk'
                  rw [zput_cache _ (by omega)]
                  exact HI.out.ca k (by omega)
              case measure => simp [intOf]; omega
            | false =>
              have HW1 := hide (HW.out.mono fun e w' h => h.resolve_left (fun h => by rw [hok] at h; exact absurd h.1 (by decide)))
              clear HW
              go_wp2_with (first
                | (go_at_call 83; rw [hcast.out]; refine HW1.out.mono ?_; rintro e w2 ⟨-, ⟨ge, rfl, hge1, hge2, hge3⟩, hR2, hG2⟩))
              go_ret
              have hz : S.zeroN F C = (T.step, 22, ((F + n : Nat) : Int)) := by
                rw [HI.out.goes, hsub]
                simp [St.zeroN, hok]
              rw [hz]
              exact PutPost.mk _ U' (.inr ⟨by simp, ge, rfl, Nat.le_trans HI.out.gr.size hge1, hge2, hge3⟩) hR2 (HI.out.gr.trans hG2)
          · have hnC : n = C := by omega
            have hz := hI.goes
            rw [hnC, Nat.sub_self] at hz
            have HI := hide hI
            clear hI
            go_wp2
            go_ret
            rw [hz]
            exact PutPost.mk _ U' (.inl ⟨rfl, rfl⟩) HI.out.rep HI.out.gr
end Go.Proofs.YtlpmpicmpklaoacGreat
