import Derived.Test.YtepgiomgkgfioaaMtNlPM0
namespace Go.Proofs.Ytepgiomgkgfioaa
open Go.RowKit
set_option linter.unusedVariables false
set_option linter.unusedSimpArgs false
set_option maxRecDepth 20000

/-- the bitmap while it is marked -/
def N1 (w wr : World) (Lm : B.BL) (n : Nat) : Prop := ∃ Bv, B.BRep wr Lm n Bv ∧ Below w.heap.size w wr
theorem usl_of {w : World} {v : Value} {l : List Nat} (h : B.WSl w v l) : USl w v l := by
  obtain ⟨a, cap, rfl, h1, h2, h3, h4, h5⟩ := h
  refine ⟨a, cap, rfl, h1, h2, h4, fun hp => ?_⟩
  obtain ⟨b, off, rfl, hc⟩ := h5 hp
  exact ⟨b, off, rfl, World.block_lt_of_cell? w _ (hc 0 hp), hc⟩
/-- the disk in the law's run -/
def N2 (w1 wr : World) (L0 : K.Lay) (m s : Nat) (E : Nat → Option (List Nat)) : Prop := ∃ U S, NX w1 wr { L0 with U := U } S ∧ DI S m s E
def E2 (f : Nat → List Nat) (s i k : Nat) : Option (List Nat) := if k < i then some (f k) else some (K.zeros s)
theorem through_n2 {w1 wr : World} {L0 : K.Lay} {m s i : Nat} {f : Nat → List Nat} (h : N2 w1 wr L0 m s (E2 f s i)) (hi : i < m) {v : Value} (hv : K.BSl wr v (f i)) (hl : (f i).length = s) : Calls Try.prog 10 #[.pointer (some ⟨L0.p, 0, none⟩), .int .i64 (i : Int), v] wr fun e y => e = .returned .nilIface ∧ N2 w1 y L0 m s (E2 f s (i + 1)) := by
  obtain ⟨U, S, h1, h2⟩ := h
  refine (through_nx h1 h2 hi hv hl).mono ?_
  rintro e y ⟨rfl, U', S', q1, q2⟩
  refine ⟨rfl, U', S', q1, q2.congr fun k hk => ?_⟩
  unfold E2
  by_cases e1 : k = i
  · subst e1; rw [if_pos rfl, if_pos (by omega)]
  · rw [if_neg e1]
    by_cases e2 : k < i
    · rw [if_pos e2, if_pos (by omega)]
    · rw [if_neg e2, if_neg (by omega)]
theorem spoil_n2 {w1 wr : World} {L0 : K.Lay} {m s : Nat} {f : Nat → List Nat} {G : Nat → Bool} (h : N2 w1 wr L0 m s (E3 f G)) (b : Int) : Calls Try.prog 11 #[.pointer (some ⟨L0.p, 0, none⟩), .int .i64 b] wr fun e y => ∃ u, e = .returned u ∧ N2 w1 y L0 m s (E3 f (fun k => G k || decide ((k : Int) = b))) := by
  obtain ⟨U, S, h1, h2⟩ := h
  refine (spoil_nx h1 h2 b).mono ?_
  rintro e y ⟨u, U', S', rfl, q1, q2⟩
  refine ⟨u, rfl, U', S', q1, q2.congr fun k hk => ?_⟩
  unfold E3
  by_cases e1 : (k : Int) = b
  · rw [if_pos e1, if_pos (by simp [e1])]
  · rw [if_neg e1]
    simp [e1]
theorem crash_n2 {w w1 wr : World} {L0 : K.Lay} {m s : Nat} {E : Nat → Option (List Nat)} (h : N2 w1 wr L0 m s E) (hw : Below w.heap.size w w1) {pv : Value} {ps : List Nat} (hp : BSl w pv ps) : Calls Try.prog 12 #[.pointer (some ⟨L0.p, 0, none⟩), pv] wr fun e y => e = .returned (.tuple #[]) ∧ N2 w1 y L0 m s E := by
  obtain ⟨U, S, h1, h2⟩ := h
  refine (crash_nx h1 h2 hw hp).mono ?_
  rintro e y ⟨rfl, S', q1, q2⟩
  exact ⟨rfl, U, S', q1, q2⟩
theorem any_succ (G : Nat → Bool) (j : Nat) : (List.range (j + 1)).any G = ((List.range j).any G || G j) := by simp [List.range_succ]
theorem wsl_row {w : World} {g L : Nat} {l : List Nat} (h : WRow w g l) (hl : l.length = L) (hx : ∀ x ∈ l, x < 18446744073709551616) (hL : L ≤ 1024) : B.WSl w (.slice (some ⟨g, 0, none⟩) L L) l := by
  refine ⟨some ⟨g, 0, none⟩, L, by rw [hl], by omega, by unfold maxLen; omega, by simp, hx, fun _ => ⟨g, 0, rfl, fun i hi => ?_⟩⟩
  rw [Nat.zero_add]
  exact (h.cell hi).1
set_option maxHeartbeats 16000000 in
theorem nl_main (w : World) (n s : Nat) (h1 : 1 ≤ n) (h2 : n ≤ 65536) (hs : okSz (s : Int) = true) (mv : Value) (ms : List Int) (hm : ISl w mv ms) (sv : Value) (ss : List Int) (hv : ISl w sv ss) (pv : Value) (ps : List Nat) (hp : BSl w pv ps) :
    Calls Try.prog 3 #[.int .i64 (n : Int), mv, .int .i64 (s : Int), sv, pv] w fun e w' => e = .returned (.bool true) ∧ Below w.heap.size w w' := by
  have HSZ := hide fun x => sized_any x (s : Int)
  rw [hs] at HSZ
  have HNB := hide fun x => B.New_any x n h1 h2
  unfold B.PB at HNB
  have HP := hide hp
  have HS := hide hs
  have hsp : s = 128 ∨ s = 256 ∨ s = 512 ∨ s = 1024 := by
    unfold okSz at hs
    simp at hs
    omega
  have hs1 : 1 ≤ s ∧ s ≤ 1024 := by omega
  have HNW := hide fun x => K.New_any x ((n - 1) / (8 * s) + 1) s (Nat.le_add_left 1 _) (by have := Nat.div_le_div_left (c := 8) (show 8 ≤ 8 * s by omega) (by omega) (a := n - 1); omega) hsp
  unfold K.NewPost K.PD at HNW
  obtain ⟨ma, mc, emv, hml, hmx, hmb, hmc⟩ := hm
  subst emv
  obtain ⟨sa, sc, esv, hsl, hsx, hsb, hscl⟩ := hv
  subst esv
  unfold maxLen at hmx hsx
  have HMB := hide hmb
  have HMC := hide hmc
  have HSB := hide hsb
  have HSC := hide hscl
  clear hmb hmc hsb hscl hp hs
  go_enter Try.func3, Try.ntmps3
  go_wp2_with (first
    | (go_at_call 4; refine (HSZ.out _).mono ?_; rintro e w1 ⟨rfl, hw1⟩; have hws := hw1.symm; clear hw1; subst hws)
    | (go_at_call 5; refine (HNB.out _).mono ?_; rintro e y1 ⟨Lm, rfl, hnew⟩; have HN1 : Hid (N1 w y1 Lm n) := hide ⟨0, hnew.1, hnew.2.1⟩; have HLM : Hid (∀ b, Lm.U b → w.heap.size ≤ b) := hide hnew.2.2; clear hnew))
  go_loopw [14] (fun x wr => ∃ i : Nat, i ≤ ms.length ∧ x = .int .i64 (i : Int) ∧ N1 w wr Lm n) (fun x _ => ms.length - (intOf x).toNat)
  case atStart => exact ⟨0, Nat.zero_le _, rfl, HN1.out⟩
  case round =>
    clear HN1
    obtain ⟨i, hi, rfl, Bv, hbr, hbe⟩ := hrel
    by_cases hlt : i < ms.length
    · obtain ⟨mb, off, rfl, hcell⟩ := HMC.out (by omega)
      have hmi := hcell i hlt
      have hmbl : mb < w.heap.size := World.block_lt_of_cell? w _ hmi
      have hmw : wr.cell? ⟨mb, off + i, none⟩ = some (.int .i64 (ms.getD i 0)) := by rw [hbe.cell (p := ⟨mb, off + i, none⟩) hmbl]; exact hmi
      have hzb := HMB.out (ms.getD i 0) (by simp [List.getD, hlt])
      generalize ms.getD i 0 = zz at *
      have HBR := hide hbr
      have HBE := hide hbe
      clear hbr hbe hmi hcell
      have t1 := Int.tmod_lt_of_pos zz (show 0 < (n : Int) by omega)
      have t2 : -(n : Int) < Int.tmod zz n := by
        have := Int.tmod_lt_of_pos (-zz) (show 0 < (n : Int) by omega)
        rw [Int.neg_tmod] at this
        omega
      have hn0 : ¬ (n : Int) = 0 := by omega
      have HSET : Hid (∀ k : Int, 0 ≤ k → k < n → Calls Try.prog 6 #[.pointer (some ⟨Lm.p, 0, none⟩), .int .i64 k] wr fun e y => ∃ v u, e = .returned (.tuple #[v, u]) ∧ N1 w y Lm n) := hide fun k hk1 hk2 => by
        have h := B.Set_any HBR.out (i := k.toNat) (by omega)
        rw [Int.toNat_of_nonneg hk1] at h
        refine h.mono ?_
        rintro e y ⟨rfl, hy, hc⟩
        exact ⟨_, _, rfl, _, hy, HBE.out.trans (hc.below (N := w.heap.size) HBE.out.size HLM.out)⟩
      by_cases htn : Int.tmod zz n < 0
      · have HS1 := hide (HSET.out (Int.tmod zz n + n) (by omega) (by omega))
        clear HSET
        go_wp2_with (first
          | (go_at_call 6; refine HS1.out.mono ?_; rintro e y2 ⟨v2, u2, rfl, hN⟩; have HN := hide hN; clear hN))
        go_roundw
        case rel => exact ⟨i + 1, by omega, by go_num, HN.out⟩
        case measure => simp [intOf]; omega
      · have HS1 := hide (HSET.out (Int.tmod zz n) (by omega) (by omega))
        clear HSET
        go_wp2_with (first
          | (go_at_call 6; refine HS1.out.mono ?_; rintro e y2 ⟨v2, u2, rfl, hN⟩; have HN := hide hN; clear hN))
        go_roundw
        case rel => exact ⟨i + 1, by omega, by go_num, HN.out⟩
        case measure => simp [intOf]; omega
    · obtain rfl : i = ms.length := by omega
      have hlt2 : ¬ (ms.length < ms.length) := by omega
      have HWO := hide (B.Words_any hbr)
      unfold B.PB at HWO
      have HBR := hide hbr
      have HBE := hide hbe
      have hwl : B.wd Bv ((n + 63) / 64 - 1) < 2 ^ lr n := wd_last h1 hbr.hB
      obtain ⟨ws, hws⟩ : ∃ ws, B.wds Bv (B.nW n) = ws := ⟨_, rfl⟩
      have HWS := hide hws
      have hwl2 : ws.length = (n + 63) / 64 := by rw [← hws, B.wds_len]; rfl
      have HPK := hide fun x v (hv : USl x v ws) => pack_ok x n s v ws hv HS.out h1 h2 hwl2 (andNot_lm (by rw [← hws, B.wds_get (by unfold B.nW; omega)]; exact hwl))
      have HBK : Hid (∀ k, (bkT ws s (ws.length * 8) k).length = s) := hide fun k => bkT_len ws s _ k
      rw [hws] at HWO
      clear hbr hbe hwl hws hwl2
      have hmb : (n - 1) / (8 * s) + 1 ≤ 8192 := by have := Nat.div_le_div_left (c := 8) (show 8 ≤ 8 * s by omega) (by omega) (a := n - 1); omega
      obtain ⟨m, hm⟩ : ∃ m, (n - 1) / (8 * s) + 1 = m := ⟨_, rfl⟩
      have hm1 : 1 ≤ m := by rw [← hm]; exact Nat.le_add_left 1 _
      rw [hm] at HNW HPK hmb
      have HM := hide hm
      clear hm
      go_wp2_with (first
        | (go_at_call 7; refine HWO.out.mono ?_; rintro e y2 ⟨wv, rfl, hrow, hwv, hb2⟩; have HWV := hide (usl_of hwv); have HB2 := hide hb2; clear hrow hwv hb2)
        | (go_at_call 8; refine (HPK.out _ _ HWV.out).mono ?_; rintro e y3 ⟨O, rfl, hpb, hO, hb3⟩; have HPB := hide hpb; have HBR3 := hide ((HBR.out.below HB2.out).below hb3); have HBE3 := hide ((HBE.out.trans (HB2.out.mono HBE.out.size)).trans (hb3.mono (Nat.le_trans HBE.out.size HB2.out.size))); clear hpb hO hb3 HPK HWV HB2 HBR HBE HWO)
        | (go_at_call 9; refine (HNW.out _).mono ?_; rintro e y4 ⟨L0, rfl, hrep, hb4, hu⟩; have HN2 : Hid (N2 y3 y4 L0 m s (E2 (bkT ws s (ws.length * 8)) s 0)) := hide ⟨L0.U, _, ⟨hb4, hrep, hu⟩, DI.start m s⟩; clear hrep hb4 hu HNW))
      go_loopw [21] (fun x wr => ∃ i : Nat, i ≤ m ∧ x = .int .i64 (i : Int) ∧ N2 y3 wr L0 m s (E2 (bkT ws s (ws.length * 8)) s i)) (fun x _ => m - (intOf x).toNat)
      case atStart => exact ⟨0, Nat.zero_le _, rfl, HN2.out⟩
      case round =>
        clear HN2
        obtain ⟨i, hi, rfl, hN2⟩ := hrel
        by_cases hlt : i < m
        · have hbe4 : Below y3.heap.size y3 wr := by obtain ⟨U, S, h1, -⟩ := hN2; exact h1.be
          have hpb4 := HPB.out.below hbe4
          have c1 : wr.cell? ⟨O, i, none⟩ = some (.slice (some ⟨O + 1 + i, 0, none⟩) s s) := hpb4.cell hlt
          have HTH := hide (through_n2 hN2 hlt (hpb4.bslK hlt hs1.2) (HBK.out i))
          clear hN2 hbe4 hpb4
          go_wp2_with (first
            | (go_at_call 10; refine HTH.out.mono ?_; rintro e y5 ⟨rfl, hN⟩; have HN := hide hN; clear hN))
          go_roundw
          case rel => exact ⟨i + 1, by omega, by go_num, HN.out⟩
          case measure => simp [intOf]; omega
        · obtain rfl : i = m := by omega
          have hlt3 : ¬ (i < i) := by omega
          have HN3 : Hid (N2 y3 wr L0 i s (E3 (bkT ws s (ws.length * 8)) (fun _ => false))) := hide (by
            obtain ⟨U, S, q1, q2⟩ := hN2
            exact ⟨U, S, q1, q2.congr fun k hk => by unfold E2 E3; rw [if_pos hk]; rfl⟩)
          clear hN2
          go_wp2_with fail
          go_loopw [22] (fun x wr => ∃ j : Nat, j ≤ ss.length ∧ x = .int .i64 (j : Int) ∧ ∃ G, N2 y3 wr L0 i s (E3 (bkT ws s (ws.length * 8)) G)) (fun x _ => ss.length - (intOf x).toNat)
          case atStart => exact ⟨0, Nat.zero_le _, rfl, _, HN3.out⟩
          case round =>
            clear HN3
            obtain ⟨j, hj, rfl, G, hN3⟩ := hrel
            by_cases hlt : j < ss.length
            · obtain ⟨mb, off, rfl, hcell⟩ := HSC.out (by omega)
              have hmi := hcell j hlt
              have hmbl : mb < w.heap.size := World.block_lt_of_cell? w _ hmi
              have hbe4 : Below w.heap.size w wr := by obtain ⟨U, S, h1, -⟩ := hN3; exact HBE3.out.trans (h1.be.mono HBE3.out.size)
              have hmw : wr.cell? ⟨mb, off + j, none⟩ = some (.int .i64 (ss.getD j 0)) := by rw [hbe4.cell (p := ⟨mb, off + j, none⟩) hmbl]; exact hmi
              generalize ss.getD j 0 = zz at *
              have HSP := hide (spoil_n2 hN3 zz)
              clear hN3 hbe4 hmi hcell
              go_wp2_with (first
                | (go_at_call 11; refine HSP.out.mono ?_; rintro e y5 ⟨u5, rfl, hN⟩; have HN := hide hN; clear hN))
              go_roundw
              case rel => exact ⟨j + 1, by omega, by go_num, _, HN.out⟩
              case measure => simp [intOf]; omega
            · obtain rfl : j = ss.length := by omega
              have hlt4 : ¬ (ss.length < ss.length) := by omega
              have HCR := hide (crash_n2 hN3 HBE3.out HP.out)
              clear hN3
              go_wp2_with (first
                | (go_at_call 12; refine HCR.out.mono ?_; rintro e y5 ⟨rfl, hN⟩; have HN4 : Hid (N4 y3 y5 L0 i s ws G (.slice none 0 0) (.slice none 0 0) 0) := hide (by obtain ⟨U, S, q1, q2⟩ := hN; exact ⟨U, S, [], NR.start q1, rfl, q2⟩); clear hN HCR))
              go_loopw [23, 24, 25, 26] (fun av bv gv x wr => ∃ j : Nat, j ≤ i ∧ x = .int .i64 (j : Int) ∧ av = .bool ((List.range j).any G) ∧ N4 y3 wr L0 i s ws G gv bv j) (fun _ _ _ x _ => i - (intOf x).toNat)
              case atStart => exact ⟨0, Nat.zero_le _, rfl, rfl, HN4.out⟩
              case round =>
                clear HN4
                obtain ⟨j, hj, rfl, rfl, hN4⟩ := hrel
                by_cases hlt : j < i
                · have HRD := hide (read_n4 hN4 hlt)
                  clear hN4
                  obtain ⟨i0, hi0, hz0, hz1, hz2⟩ := info_parts info_bool
                  obtain ⟨j0, hj0, hw0, hw1, hw2⟩ := info_parts info_bytes
                  obtain ⟨G0, hG⟩ : ∃ b, G j = b := ⟨_, rfl⟩
                  obtain ⟨A0, hA⟩ : ∃ b, (List.range j).any G = b := ⟨_, rfl⟩
                  have HG := hide hG
                  have HA := hide hA
                  rw [hA]
                  clear hG hA
                  cases G0
                  · cases A0
                    · go_wp2_with (first
                        | (go_at_call 13; refine HRD.out.mono ?_; rintro e y6 ⟨v6, u6, rfl, hu, hN⟩; obtain ⟨-, rfl⟩ := hu.resolve_left (by simp [HG.out]); obtain ⟨a6, n6, c6, rfl⟩ := hN.shape; have HN6 := hide hN; have o3 := (hN.alloc (.cells #[.bool false] 4)).grow; have HPG := hide (fun v' y' (q1 : y'.ownsRow 0 4 1 v' (j + 1) (gL G j ++ [.bool false])) q2 => N5.pushG (y := y') (gv' := v') (HN6.out.alloc (.cells #[.bool false] 4)) (by rw [HG.out]; exact q1) q2); clear hN hu HRD)
                        | (at_builtin; refine wpList_appendC _ rfl (.tmp 151) (.tmp 154) 44 rfl 4 i0 (.bool false) 1 1 Try.underlying44 hi0 hz0 hz1 hz2 rfl (by decide) _ _ _ rfl o3 ⟨y6.heap.size, 0, none⟩ 1 1 [.bool false] rfl rfl (by decide) (cells_one _ _ _) (by simp [Value.oneCell']) (by unfold maxLen; omega) (by omega) ?_; intro v7 y7 q1 q2; have HN7 := hide (HPG.out v7 y7 q1 q2); obtain ⟨vs, o4, hpush⟩ := (HN7.out.alloc (.cells #[.slice a6 n6 c6] 23)).brow; have HPB2 := hide hpush; clear q1 q2 hpush HPG o3)
                        | (at_builtin; refine wpList_appendC _ rfl (.tmp 161) (.tmp 163) 33 rfl 23 j0 (.slice none 0 0) 1 24 Try.underlying33 hj0 hw0 hw1 hw2 rfl (by decide) _ _ _ rfl o4 ⟨y7.heap.size, 0, none⟩ 1 1 [.slice a6 n6 c6] rfl rfl (by decide) (cells_one _ _ _) (by simp [Value.oneCell']) (by unfold maxLen; omega) (by omega) ?_; intro v8 y8 q1 q2; have HN8 := hide (HPB2.out y8 v8 q1 q2 rfl); clear q1 q2 HPB2 o4))
                      go_roundw
                      case rel => exact ⟨j + 1, by omega, by go_num, by rw [any_succ, HA.out, HG.out]; rfl, HN8.out⟩
                      case measure => simp [intOf]; omega
                    · go_wp2_with (first
                        | (go_at_call 13; refine HRD.out.mono ?_; rintro e y6 ⟨v6, u6, rfl, hu, hN⟩; obtain ⟨-, rfl⟩ := hu.resolve_left (by simp [HG.out]); obtain ⟨a6, n6, c6, rfl⟩ := hN.shape; have HN6 := hide hN; have o3 := (hN.alloc (.cells #[.bool false] 4)).grow; have HPG := hide (fun v' y' (q1 : y'.ownsRow 0 4 1 v' (j + 1) (gL G j ++ [.bool false])) q2 => N5.pushG (y := y') (gv' := v') (HN6.out.alloc (.cells #[.bool false] 4)) (by rw [HG.out]; exact q1) q2); clear hN hu HRD)
                        | (at_builtin; refine wpList_appendC _ rfl (.tmp 151) (.tmp 154) 44 rfl 4 i0 (.bool false) 1 1 Try.underlying44 hi0 hz0 hz1 hz2 rfl (by decide) _ _ _ rfl o3 ⟨y6.heap.size, 0, none⟩ 1 1 [.bool false] rfl rfl (by decide) (cells_one _ _ _) (by simp [Value.oneCell']) (by unfold maxLen; omega) (by omega) ?_; intro v7 y7 q1 q2; have HN7 := hide (HPG.out v7 y7 q1 q2); obtain ⟨vs, o4, hpush⟩ := (HN7.out.alloc (.cells #[.slice a6 n6 c6] 23)).brow; have HPB2 := hide hpush; clear q1 q2 hpush HPG o3)
                        | (at_builtin; refine wpList_appendC _ rfl (.tmp 161) (.tmp 163) 33 rfl 23 j0 (.slice none 0 0) 1 24 Try.underlying33 hj0 hw0 hw1 hw2 rfl (by decide) _ _ _ rfl o4 ⟨y7.heap.size, 0, none⟩ 1 1 [.slice a6 n6 c6] rfl rfl (by decide) (cells_one _ _ _) (by simp [Value.oneCell']) (by unfold maxLen; omega) (by omega) ?_; intro v8 y8 q1 q2; have HN8 := hide (HPB2.out y8 v8 q1 q2 rfl); clear q1 q2 HPB2 o4))
                      go_roundw
                      case rel => exact ⟨j + 1, by omega, by go_num, by rw [any_succ, HA.out, HG.out]; rfl, HN8.out⟩
                      case measure => simp [intOf]; omega
                  · cases A0
                    · go_wp2_with (first
                        | (go_at_call 13; refine HRD.out.mono ?_; rintro e y6 ⟨v6, u6, rfl, hu, hN⟩; obtain ⟨-, gg, rfl⟩ := hu.resolve_right (by simp [HG.out]); unfold K.errV; obtain ⟨a6, n6, c6, rfl⟩ := hN.shape; have HN6 := hide hN; have o3 := (hN.alloc (.cells #[.bool true] 4)).grow; have HPG := hide (fun v' y' (q1 : y'.ownsRow 0 4 1 v' (j + 1) (gL G j ++ [.bool true])) q2 => N5.pushG (y := y') (gv' := v') (HN6.out.alloc (.cells #[.bool true] 4)) (by rw [HG.out]; exact q1) q2); clear hN hu HRD)
                        | (at_builtin; refine wpList_appendC _ rfl (.tmp 151) (.tmp 154) 44 rfl 4 i0 (.bool false) 1 1 Try.underlying44 hi0 hz0 hz1 hz2 rfl (by decide) _ _ _ rfl o3 ⟨y6.heap.size, 0, none⟩ 1 1 [.bool true] rfl rfl (by decide) (cells_one _ _ _) (by simp [Value.oneCell']) (by unfold maxLen; omega) (by omega) ?_; intro v7 y7 q1 q2; have HN7 := hide (HPG.out v7 y7 q1 q2); obtain ⟨vs, o4, hpush⟩ := (HN7.out.alloc (.cells #[.slice a6 n6 c6] 23)).brow; have HPB2 := hide hpush; clear q1 q2 hpush HPG o3)
                        | (at_builtin; refine wpList_appendC _ rfl (.tmp 161) (.tmp 163) 33 rfl 23 j0 (.slice none 0 0) 1 24 Try.underlying33 hj0 hw0 hw1 hw2 rfl (by decide) _ _ _ rfl o4 ⟨y7.heap.size, 0, none⟩ 1 1 [.slice a6 n6 c6] rfl rfl (by decide) (cells_one _ _ _) (by simp [Value.oneCell']) (by unfold maxLen; omega) (by omega) ?_; intro v8 y8 q1 q2; have HN8 := hide (HPB2.out y8 v8 q1 q2 rfl); clear q1 q2 HPB2 o4))
                      go_roundw
                      case rel => exact ⟨j + 1, by omega, by go_num, by rw [any_succ, HA.out, HG.out]; rfl, HN8.out⟩
                      case measure => simp [intOf]; omega
                    · go_wp2_with (first
                        | (go_at_call 13; refine HRD.out.mono ?_; rintro e y6 ⟨v6, u6, rfl, hu, hN⟩; obtain ⟨-, gg, rfl⟩ := hu.resolve_right (by simp [HG.out]); unfold K.errV; obtain ⟨a6, n6, c6, rfl⟩ := hN.shape; have HN6 := hide hN; have o3 := (hN.alloc (.cells #[.bool true] 4)).grow; have HPG := hide (fun v' y' (q1 : y'.ownsRow 0 4 1 v' (j + 1) (gL G j ++ [.bool true])) q2 => N5.pushG (y := y') (gv' := v') (HN6.out.alloc (.cells #[.bool true] 4)) (by rw [HG.out]; exact q1) q2); clear hN hu HRD)
                        | (at_builtin; refine wpList_appendC _ rfl (.tmp 151) (.tmp 154) 44 rfl 4 i0 (.bool false) 1 1 Try.underlying44 hi0 hz0 hz1 hz2 rfl (by decide) _ _ _ rfl o3 ⟨y6.heap.size, 0, none⟩ 1 1 [.bool true] rfl rfl (by decide) (cells_one _ _ _) (by simp [Value.oneCell']) (by unfold maxLen; omega) (by omega) ?_; intro v7 y7 q1 q2; have HN7 := hide (HPG.out v7 y7 q1 q2); obtain ⟨vs, o4, hpush⟩ := (HN7.out.alloc (.cells #[.slice a6 n6 c6] 23)).brow; have HPB2 := hide hpush; clear q1 q2 hpush HPG o3)
                        | (at_builtin; refine wpList_appendC _ rfl (.tmp 161) (.tmp 163) 33 rfl 23 j0 (.slice none 0 0) 1 24 Try.underlying33 hj0 hw0 hw1 hw2 rfl (by decide) _ _ _ rfl o4 ⟨y7.heap.size, 0, none⟩ 1 1 [.slice a6 n6 c6] rfl rfl (by decide) (cells_one _ _ _) (by simp [Value.oneCell']) (by unfold maxLen; omega) (by omega) ?_; intro v8 y8 q1 q2; have HN8 := hide (HPB2.out y8 v8 q1 q2 rfl); clear q1 q2 HPB2 o4))
                      go_roundw
                      case rel => exact ⟨j + 1, by omega, by go_num, by rw [any_succ, HA.out, HG.out]; rfl, HN8.out⟩
                      case measure => simp [intOf]; omega
                · obtain rfl : j = i := by omega
                  have hlt5 : ¬ (j < j) := by omega
                  obtain ⟨bg, bc, hbv, hub⟩ := hN4.ub hm1 hs1.2
                  obtain ⟨gg, gc, hgv, hg1, hg2, hg3, hg4⟩ := hN4.gone hm1
                  subst hbv
                  subst hgv
                  unfold maxLen at hg2
                  have HB4 := hide hN4.be
                  have hup := unpack_any wr bg 0 bc n s (bkG ws s G) (by rw [HM.out]; exact hub) HS.out h1 h2 (by rw [← HWS.out]; exact uW_lt HS.out h1 (by omega))
                  rw [HM.out, lostG hs1.1] at hup
                  have HUP : Hid (Calls Try.prog 14 #[.int .i64 (n : Int), .slice (some ⟨bg, 0, none⟩) j bc, .int .i64 (s : Int)] wr fun e w' => e = .returned (.tuple #[.slice (some ⟨wr.heap.size, 0, none⟩) ((n + 63) / 64) ((n + 63) / 64), .bool ((List.range j).any G), .int .i64 0]) ∧ WRow w' wr.heap.size (rdW n s Bv G) ∧ Below wr.heap.size wr w') := hide (by
                    unfold rdW
                    rw [HWS.out]
                    exact hup)
                  have hAt : ∀ k, k < n → k / (8 * s) < j := fun k hk => by
                    rw [← HM.out]
                    have := Nat.div_le_div_right (c := 8 * s) (show k ≤ n - 1 by omega)
                    omega
                  have HAT := hide hAt
                  have HG4 := hide hg4
                  have HG3 := hide hg3
                  clear hN4 hup hub hAt hg4 hg3
                  have HFR := hide fun y (hy : WRow y wr.heap.size (rdW n s Bv G)) => B.From_any n h1 h2 (wsl_row hy (rdW_len n s Bv G) (rdW_lt HS.out h1) (by omega)) (rdW_err h1)
                  unfold B.PB at HFR
                  generalize (List.range j).any G = A0 at *
                  generalize (n + 63) / 64 = WL at *
                  go_wp2_with (first
                    | (go_at_call 14; refine HUP.out.mono ?_; rintro e y6 ⟨rfl, hrow, hb6⟩; have HRW := hide hrow; have HB6 := hide hb6; clear hrow hb6 HUP)
                    | (go_at_call 15; refine (HFR.out _ HRW.out).mono ?_; rintro e y7 ⟨Lz, rfl, hnew⟩; have HNZ := hide hnew; clear hnew HRW HFR))
                  have HBR7 : Hid (B.BRep y7 Lm n Bv) := hide (((HBR3.out.below HB4.out).below HB6.out).below HNZ.out.2.1)
                  have HBE7 : Hid (Below w.heap.size w y7) := hide (((HBE3.out.trans (HB4.out.mono HBE3.out.size)).trans (HB6.out.mono (Nat.le_trans HBE3.out.size HB4.out.size))).trans (HNZ.out.2.1.mono (Nat.le_trans (Nat.le_trans HBE3.out.size HB4.out.size) HB6.out.size)))
                  have HTM : Hid (∀ y, Below y7.heap.size y7 y → ∀ k, k < n → Calls Try.prog 16 #[.pointer (some ⟨Lm.p, 0, none⟩), .int .i64 (k : Int)] y fun e y' => e = .returned (.tuple #[.bool (Bv.testBit k), .int .i64 0]) ∧ Below y7.heap.size y7 y') := hide fun y hy k hk => by
                    refine (B.Test_any (HBR7.out.below hy) hk).mono ?_
                    rintro e y' ⟨rfl, hb⟩
                    exact ⟨rfl, hy.trans (hb.mono hy.size)⟩
                  have HTZ : Hid (∀ y, Below y7.heap.size y7 y → ∀ k, k < n → Calls Try.prog 16 #[.pointer (some ⟨Lz.p, 0, none⟩), .int .i64 (k : Int)] y fun e y' => e = .returned (.tuple #[.bool (Bv.testBit k || G (k / (8 * s))), .int .i64 0]) ∧ Below y7.heap.size y7 y') := hide fun y hy k hk => by
                    refine (B.Test_any (HNZ.out.1.below hy) hk).mono ?_
                    rintro e y' ⟨rfl, hb⟩
                    rw [rdW_bit HS.out h1 hk]
                    exact ⟨rfl, hy.trans (hb.mono hy.size)⟩
                  have HGA : Hid (∀ y, Below y7.heap.size y7 y → ∀ t, t < j → y.cell? ⟨gg, t, none⟩ = some (.bool (G t))) := hide fun y hy t ht => by
                    have b1 := HB6.out.trans (HNZ.out.2.1.mono HB6.out.size)
                    have b2 := b1.trans (hy.mono b1.size)
                    rw [b2.cell (p := ⟨gg, t, none⟩) HG3.out]
                    exact HG4.out t ht
                  go_loopw [34] (fun x wr => ∃ k : Nat, k ≤ n ∧ x = .int .i64 (k : Int) ∧ Below y7.heap.size y7 wr) (fun x _ => n - (intOf x).toNat)
                  case atStart => exact ⟨0, Nat.zero_le _, rfl, Below.refl _ _⟩
                  case round =>
                    obtain ⟨k, hk, rfl, hb8⟩ := hrel
                    by_cases hlt : k < n
                    · obtain ⟨t, ht⟩ : ∃ t, k / (8 * s) = t := ⟨_, rfl⟩
                      have htj : t < j := by rw [← ht]; exact HAT.out k hlt
                      have HTT := hide ht
                      have HAR : Hid (∀ y, Calls Try.prog 17 #[.int .i64 (k : Int), .int .i64 (s : Int)] y fun e y' => e = .returned (.tuple #[.int .i64 (t : Int), .int .i64 0]) ∧ y' = y) := hide fun y => by
                        have h := area_any y (k : Int) (s : Int)
                        rw [show areaN (k : Int) (s : Int) = (t : Int) by unfold areaN; rw [if_pos ⟨HS.out, by omega, by omega⟩, ← ht]; rfl, show areaE (k : Int) (s : Int) = 0 by unfold areaE; rw [HS.out, if_neg (by decide), if_pos (by omega)]] at h
                        exact h
                      have HGC := hide fun y hy => HGA.out y hy t htj
                      have HTZ2 := hide fun y hy => HTZ.out y hy k hlt
                      rw [ht] at HTZ2
                      obtain ⟨tb, htb⟩ : ∃ b, Bv.testBit k = b := ⟨_, rfl⟩
                      obtain ⟨gb, hgb⟩ : ∃ b, G t = b := ⟨_, rfl⟩
                      have HTM2 := hide fun y hy => HTM.out y hy k hlt
                      rw [htb] at HTM2 HTZ2
                      rw [hgb] at HTZ2 HGC
                      clear ht htb hgb
                      cases tb
                      · cases gb
                        · go_wp2_with (first
                            | (go_at_call_of 16 (Value.pointer (some ⟨Lm.p, 0, none⟩)); refine (HTM2.out _ hb8).mono ?_; rintro e y8 ⟨rfl, hb9⟩; have HB9 := hide hb9; clear hb9)
                            | (go_at_call_of 16 (Value.pointer (some ⟨Lz.p, 0, none⟩)); refine (HTZ2.out _ HB9.out).mono ?_; rintro e y9 ⟨rfl, hb10⟩; have c1 := HGC.out _ hb10; have HB10 := hide hb10; clear hb10 HB9)
                            | (go_at_call 17; refine (HAR.out _).mono ?_; rintro e y10 ⟨rfl, hy⟩; obtain rfl := hy.symm))
                          all_goals (try go_quiet (fail))
                          all_goals (try go_wp2)
                          go_roundw
                          case rel => first | exact ⟨k + 1, by omega, by go_num, HB10.out⟩ | exact ⟨k + 1, by omega, by go_num, below_drewN HB10.out _⟩
                          case measure => simp [intOf]; omega
                        · go_wp2_with (first
                            | (go_at_call_of 16 (Value.pointer (some ⟨Lm.p, 0, none⟩)); refine (HTM2.out _ hb8).mono ?_; rintro e y8 ⟨rfl, hb9⟩; have HB9 := hide hb9; clear hb9)
                            | (go_at_call_of 16 (Value.pointer (some ⟨Lz.p, 0, none⟩)); refine (HTZ2.out _ HB9.out).mono ?_; rintro e y9 ⟨rfl, hb10⟩; have c1 := HGC.out _ hb10; have HB10 := hide hb10; clear hb10 HB9)
                            | (go_at_call 17; refine (HAR.out _).mono ?_; rintro e y10 ⟨rfl, hy⟩; obtain rfl := hy.symm))
                          all_goals (try go_quiet (fail))
                          all_goals (try go_wp2)
                          go_roundw
                          case rel => first | exact ⟨k + 1, by omega, by go_num, HB10.out⟩ | exact ⟨k + 1, by omega, by go_num, below_drewN HB10.out _⟩
                          case measure => simp [intOf]; omega
                      · cases gb
                        · go_wp2_with (first
                            | (go_at_call_of 16 (Value.pointer (some ⟨Lm.p, 0, none⟩)); refine (HTM2.out _ hb8).mono ?_; rintro e y8 ⟨rfl, hb9⟩; have HB9 := hide hb9; clear hb9)
                            | (go_at_call_of 16 (Value.pointer (some ⟨Lz.p, 0, none⟩)); refine (HTZ2.out _ HB9.out).mono ?_; rintro e y9 ⟨rfl, hb10⟩; have c1 := HGC.out _ hb10; have HB10 := hide hb10; clear hb10 HB9)
                            | (go_at_call 17; refine (HAR.out _).mono ?_; rintro e y10 ⟨rfl, hy⟩; obtain rfl := hy.symm))
                          all_goals (try go_quiet (fail))
                          all_goals (try go_wp2)
                          go_roundw
                          case rel => first | exact ⟨k + 1, by omega, by go_num, HB10.out⟩ | exact ⟨k + 1, by omega, by go_num, below_drewN HB10.out _⟩
                          case measure => simp [intOf]; omega
                        · go_wp2_with (first
                            | (go_at_call_of 16 (Value.pointer (some ⟨Lm.p, 0, none⟩)); refine (HTM2.out _ hb8).mono ?_; rintro e y8 ⟨rfl, hb9⟩; have HB9 := hide hb9; clear hb9)
                            | (go_at_call_of 16 (Value.pointer (some ⟨Lz.p, 0, none⟩)); refine (HTZ2.out _ HB9.out).mono ?_; rintro e y9 ⟨rfl, hb10⟩; have c1 := HGC.out _ hb10; have HB10 := hide hb10; clear hb10 HB9)
                            | (go_at_call 17; refine (HAR.out _).mono ?_; rintro e y10 ⟨rfl, hy⟩; obtain rfl := hy.symm))
                          all_goals (try go_quiet (fail))
                          all_goals (try go_wp2)
                          go_roundw
                          case rel => first | exact ⟨k + 1, by omega, by go_num, HB10.out⟩ | exact ⟨k + 1, by omega, by go_num, below_drewN HB10.out _⟩
                          case measure => simp [intOf]; omega
                    · obtain rfl : k = n := by omega
                      have hlt6 : ¬ (k < k) := by omega
                      go_wp2_with fail
                      go_ret
                      exact ⟨rfl, HBE7.out.trans (hb8.mono HBE7.out.size)⟩
end Go.Proofs.Ytepgiomgkgfioaa
namespace Go.Proofs.Ytepgiomgkgfioaa
open Go.RowKit
set_option linter.unusedVariables false
set_option linter.unusedSimpArgs false
set_option maxRecDepth 20000

set_option maxHeartbeats 4000000 in
theorem nl_no (w : World) (n s : Int) (mv sv pv : Value) (h : okSz s = false ∨ (okSz s = true ∧ ¬ (1 ≤ n ∧ n ≤ 65536))) :
    Calls Try.prog 3 #[.int .i64 n, mv, .int .i64 s, sv, pv] w fun e w' => e = .returned (.bool true) ∧ Below w.heap.size w w' := by
  have HSZ := hide fun x => sized_any x s
  rcases h with h | ⟨h, hn⟩
  · rw [h] at HSZ
    go_enter Try.func3, Try.ntmps3
    go_wp2_with (go_at_call 4; refine (HSZ.out _).mono ?_; rintro e w1 ⟨rfl, hw1⟩; have hws := hw1.symm; clear hw1; subst hws)
    all_goals (try go_ret)
    all_goals exact ⟨rfl, Below.refl _ _⟩
  · rw [h] at HSZ
    by_cases h1 : n < 1
    · go_enter Try.func3, Try.ntmps3
      go_wp2_with (go_at_call 4; refine (HSZ.out _).mono ?_; rintro e w1 ⟨rfl, hw1⟩; have hws := hw1.symm; clear hw1; subst hws)
      all_goals (try go_ret)
      all_goals exact ⟨rfl, Below.refl _ _⟩
    · have h2 : 65536 < n := by omega
      go_enter Try.func3, Try.ntmps3
      go_wp2_with (go_at_call 4; refine (HSZ.out _).mono ?_; rintro e w1 ⟨rfl, hw1⟩; have hws := hw1.symm; clear hw1; subst hws)
      all_goals (try go_ret)
      all_goals exact ⟨rfl, Below.refl _ _⟩
theorem nl_any (w : World) (n s : Int) (mv : Value) (ms : List Int) (hm : ISl w mv ms) (sv : Value) (ss : List Int) (hv : ISl w sv ss) (pv : Value) (ps : List Nat) (hp : BSl w pv ps) :
    Calls Try.prog 3 #[.int .i64 n, mv, .int .i64 s, sv, pv] w fun e w' => e = .returned (.bool true) ∧ Below w.heap.size w w' := by
  cases hs : okSz s with
  | false => exact nl_no w n s mv sv pv (.inl hs)
  | true =>
    by_cases hn : 1 ≤ n ∧ n ≤ 65536
    · have hs0 := (okSz_pos hs).1
      obtain ⟨n', rfl⟩ : ∃ k : Nat, n = (k : Int) := ⟨n.toNat, by omega⟩
      obtain ⟨s', rfl⟩ : ∃ k : Nat, s = (k : Int) := ⟨s.toNat, by omega⟩
      exact nl_main w n' s' (by omega) (by omega) hs mv ms hm sv ss hv pv ps hp
    · exact nl_no w n s mv sv pv (.inr ⟨hs, hn⟩)
end Go.Proofs.Ytepgiomgkgfioaa
