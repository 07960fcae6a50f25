import Derived.Test.YtafjldmfghokaaaAArgK
namespace Go.Proofs.Ytafjldmfghokaaa
open Go.RowKit Go.Sort
set_option linter.unusedVariables false
set_option linter.unusedSimpArgs false
set_option maxRecDepth 20000

theorem opk_in {w : World} {av : Option Addr} {l : List OpK} (h : 0 < l.length → ∃ b off, av = some ⟨b, off, none⟩ ∧ ∀ i (hi : i < l.length), w.cell? ⟨b, off + i * 3, none⟩ = some (.int .i64 l[i].kind) ∧ w.cell? ⟨b, off + i * 3 + 1, none⟩ = some (.int .i64 l[i].of_) ∧ w.cell? ⟨b, off + i * 3 + 2, none⟩ = some (.int .i64 l[i].key)) :
    ∀ x, Below w.heap.size w x → ∀ i, i < l.length → ∃ g off, av = some ⟨g, off, none⟩ ∧ x.cell? ⟨g, off + i * 3, none⟩ = some (.int .i64 (l.getD i ⟨0, 0, 0⟩).kind) ∧ x.cell? ⟨g, off + i * 3 + 1, none⟩ = some (.int .i64 (l.getD i ⟨0, 0, 0⟩).of_) ∧ x.cell? ⟨g, off + i * 3 + 2, none⟩ = some (.int .i64 (l.getD i ⟨0, 0, 0⟩).key) := fun x hb i hi => by
  obtain ⟨g, off, rfl, hc⟩ := h (by omega)
  have hlt := World.block_lt_of_cell? w _ (hc 0 (by omega)).1
  obtain ⟨c0, c1, c2⟩ := hc i hi
  have e : l.getD i ⟨0, 0, 0⟩ = l[i] := by simp [List.getD, hi]
  rw [e]
  exact ⟨g, off, rfl, (World.cell?_of_block (hb.block g hlt)).trans c0, (World.cell?_of_block (hb.block g hlt)).trans c1, (World.cell?_of_block (hb.block g hlt)).trans c2⟩
theorem KW.start {w y : World} {lp n ext size first : Nat} (h1 : 1 ≤ n) (h2 : n ≤ 16) (hl : LgR y lp (w.heap.size + 1) w.heap.size (.slice none 0 0) (.slice none 0 0) (.slice none 0 0) ⟨n, [], [], [], []⟩ ext size first 0) (hb : Below w.heap.size w y) (hlp : w.heap.size ≤ lp) : KW w y lp n ext size first (.slice none 0 0) [] [] 0 :=
  ⟨_, _, _, _, _, _, _, hl, ⟨h1, h2, Nat.zero_le _, rfl, List.Pairwise.nil, List.Pairwise.nil, fun s => by simp, fun k hk => by simp at hk, fun r hr => by simp at hr, rfl⟩, rfl, ⟨rfl, .inl ⟨rfl, rfl⟩⟩, Kb.start n ext, hb, gu_new hlp, Nat.le_refl _⟩
theorem KW.next {w0 x : World} {lp n ext size first : Nat} {v : Value} {Lm Lk : List Us} {i : Nat} (h : KW w0 x lp n ext size first v Lm Lk i) : KW w0 x lp n ext size first v Lm Lk (i + 1) := by
  obtain ⟨p, bm, kv, rv, iv, S, written, h⟩ := h
  exact ⟨p, bm, kv, rv, iv, S, written, h.lg, okMore h.ok, h.sl, h.bk, h.kb.next, h.be, h.lo, by have := h.wr; omega⟩
/-- a line's cells -/
theorem KW.at {w0 x : World} {lp n ext size first : Nat} {v : Value} {L Lk : List Us} {i : Nat} (h : KW w0 x lp n ext size first v L Lk i) {j : Nat} {u : Us} (hj : L[j]? = some u) : ∃ g cap, v = .slice (some ⟨g, 0, none⟩) L.length cap ∧ (x.cell? ⟨g, j * 4, none⟩ = some (.int .i64 u.key) ∧ x.cell? ⟨g, j * 4 + 1, none⟩ = some (.int .i64 (u.got : Int))) ∧ x.cell? ⟨g, j * 4 + 2, none⟩ = some (.int .i64 (u.back : Int)) ∧ x.frozen? ⟨g, j * 4 + 2, none⟩ = false := by
  obtain ⟨g, cap, cs, e, hb, hg, q0, q1, q2, q3⟩ := h.bk.at hj
  exact ⟨g, cap, e, ⟨q0, q1⟩, q2, frozen_of_row _ _ _ _ 33 hg⟩
/-- a reference given back, in the book -/
theorem KW.back {w0 x : World} {lp n ext size first g cap : Nat} {L : List Us} {i j : Nat} {u : Us} (h : KW w0 x lp n ext size first (.slice (some ⟨g, 0, none⟩) L.length cap) L (L.set j { u with back := u.back + 1 }) i) (hj : L[j]? = some u) : KW w0 (x.setCell ⟨g, j * 4 + 2, none⟩ (.int .i64 ((u.back : Int) + 1))) lp n ext size first (.slice (some ⟨g, 0, none⟩) L.length cap) (L.set j { u with back := u.back + 1 }) (L.set j { u with back := u.back + 1 }) i := by
  have hb := h.bk.set hj (f := 2) (u' := { u with back := u.back + 1 }) (x := .int .i64 ((u.back : Int) + 1)) (by omega) (by simp [Us.cells])
  exact h.book hb ⟨rfl, rfl, rfl, Nat.le_of_eq (World.size_setCell ..).symm, fun b hb hn => Go.heap_setCell_other _ _ _ _ (fun e => hn (by simp [Value.ownBlock, e]))⟩
theorem keeps_no (w : World) (a b c : Int) (d : Nat) (sv : Value) (hm : ¬ okM a b c) : Calls Try.prog 8 #[.agg #[.int .i64 a, .int .i64 b, .int .i64 c, .int .u32 (d : Int)], sv] w fun e w' => e = .returned (.bool true) ∧ Below w.heap.size w w' := by
  have HG := hide fun x => good_any x a b c (d : Int)
  rw [decide_eq_false hm] at HG
  have HB0 := hide ((Below.refl w.heap.size w).alloc (Nat.le_refl _) (.cells #[.int .i64 a, .int .i64 b, .int .i64 c, .int .u32 (d : Int)] 71))
  clear hm
  go_enter Try.func8, Try.ntmps8
  go_wp2_with (go_at_call 30; refine (HG.out _).mono ?_; rintro e y ⟨rfl, hb⟩; have HY := hide (HB0.out.trans (hb.mono HB0.out.size)); clear hb)
  go_ret
  exact ⟨rfl, HY.out⟩
set_option maxHeartbeats 60000000 in
theorem keeps_yes (w : World) (n ext size d : Nat) (sv : Value) (l : List OpK) (hm : okM (n : Int) (ext : Int) (size : Int)) (hs : OKl w sv l) (hz : l.length ≤ 1000000000000000) : Calls Try.prog 8 #[.agg #[.int .i64 (n : Int), .int .i64 (ext : Int), .int .i64 (size : Int), .int .u32 (d : Int)], sv] w fun e w' => e = .returned (.bool true) ∧ Below w.heap.size w w' := by
  have HG := hide fun x => good_any x (n : Int) (ext : Int) (size : Int) (d : Int)
  rw [decide_eq_true hm] at HG
  unfold okM at hm
  obtain ⟨⟨m1, m2⟩, ⟨m3, m4⟩, m5⟩ := hm
  have h1 : 1 ≤ n := by omega
  have h2 : n ≤ 16 := by omega
  have h3 : 1 ≤ ext := by omega
  have h4 : ext ≤ 1024 := by omega
  have h5 : size = 128 ∨ size = 256 ∨ size = 512 ∨ size = 1024 := by omega
  clear m1 m2 m3 m4 m5
  have q2 := ptrL'
  obtain ⟨wE, hwE⟩ : ∃ wE, wE = w.alloc (.cells #[.int .i64 (n : Int), .int .i64 (ext : Int), .int .i64 (size : Int), .int .u32 (d : Int)] 71) := ⟨_, rfl⟩
  have HB0 := hide ((Below.refl w.heap.size w).alloc (Nat.le_refl _) (.cells #[.int .i64 (n : Int), .int .i64 (ext : Int), .int .i64 (size : Int), .int .u32 (d : Int)] 71))
  have HBX : Hid (∀ x, Below (w.alloc (.cells #[.int .i64 (n : Int), .int .i64 (ext : Int), .int .i64 (size : Int), .int .u32 (d : Int)] 71)).heap.size (w.alloc (.cells #[.int .i64 (n : Int), .int .i64 (ext : Int), .int .i64 (size : Int), .int .u32 (d : Int)] 71)) x → (x.cell? ⟨w.heap.size, 0, none⟩ = some (.int .i64 (n : Int)) ∧ x.cell? ⟨w.heap.size, 1, none⟩ = some (.int .i64 (ext : Int))) ∧ x.cell? ⟨w.heap.size, 2, none⟩ = some (.int .i64 (size : Int)) ∧ x.cell? ⟨w.heap.size, 3, none⟩ = some (.int .u32 (d : Int))) := hide fun x hx => by
    have hg : x.heap[w.heap.size]? = some (.cells #[.int .i64 (n : Int), .int .i64 (ext : Int), .int .i64 (size : Int), .int .u32 (d : Int)] 71 (0, 0)) := (hx.block _ (by simp)).trans (Go.heap_alloc_new w _)
    exact ⟨⟨cell_of_row _ _ _ _ _ _ hg, cell_of_row _ _ _ _ _ _ hg⟩, cell_of_row _ _ _ _ _ _ hg, cell_of_row _ _ _ _ _ _ hg⟩
  have HFS := hide fun x => first_any x n ext size d h1 h2 h3 h4 h5
  have HN := hide fun x => logNew_any x n ext size d h1 h2 h3 h4 h5
  have HNU := hide fun (x : World) (e : Int) => num_any x e
  have HKS := hide fun (w y : World) lp hl hb hlp => KW.start (w := w) (y := y) (lp := lp) (n := n) (ext := ext) (size := size) (first := d) h1 h2 hl hb hlp
  obtain ⟨av, cv, rfl, v1, v2, v3, v4⟩ := hs
  unfold maxLen at v2
  have HFB : Hid (∀ x, Below (w.alloc (.cells #[.int .i64 (n : Int), .int .i64 (ext : Int), .int .i64 (size : Int), .int .u32 (d : Int)] 71)).heap.size (w.alloc (.cells #[.int .i64 (n : Int), .int .i64 (ext : Int), .int .i64 (size : Int), .int .u32 (d : Int)] 71)) x → Below w.heap.size w x) := hide fun x hx => HB0.out.trans (hx.mono HB0.out.size)
  have HOP := hide (opk_in v4)
  have HOK : Hid (∀ i, i < l.length → i64ok (l.getD i ⟨0, 0, 0⟩).key) := hide fun i hi => (v3 _ (by simp [List.getD, hi])).2.2
  clear v3 v4 hwE wE
  generalize hN : l.length = N at *
  clear hN
  go_enter Try.func8, Try.ntmps8
  go_wp2_with (first
    | (go_at_call 30; refine (HG.out _).mono ?_; rintro e y1 ⟨rfl, hb⟩; have HY1 := hide hb; obtain ⟨⟨c0, c1⟩, c2, c3⟩ := HBX.out _ hb; clear hb HG)
    | (go_at_call 31; refine (HFS.out _).mono ?_; rintro e y2 ⟨rfl, hb⟩; have HY2 := hide (HY1.out.trans (hb.mono HY1.out.size)); obtain ⟨⟨d0, d1⟩, d2, d3⟩ := HBX.out _ HY2.out; clear hb HFS)
    | (go_at_call 32; refine (HN.out _).mono ?_; rintro e y3 ⟨lp, hlp, rfl, hl, hb⟩; have HK := hide (HKS.out _ _ _ hl hb hlp); clear hl hb hlp HN HKS)
    | (go_at_call 12; refine (HNU.out _ _).mono ?_; rintro e y4 ⟨rfl, hy⟩; subst hy))
  obtain ⟨w0, hw0⟩ : ∃ w0, w0 = y2 := ⟨y2, rfl⟩
  have HOP2 : Hid (∀ x, Below w0.heap.size w0 x → ∀ i, i < N → _) := hide fun x hx i hi => HOP.out x (HFB.out _ (HY2.out.trans ((hw0 ▸ hx).mono HY2.out.size))) i hi
  have HBX2 : Hid (∀ x, Below w0.heap.size w0 x → _) := hide fun x hx => HBX.out x (HY2.out.trans ((hw0 ▸ hx).mono HY2.out.size))
  have HFB2 : Hid (∀ x, Below w0.heap.size w0 x → Below w.heap.size w x) := hide fun x hx => HFB.out x (HY2.out.trans ((hw0 ▸ hx).mono HY2.out.size))
  rw [← hw0] at HK
  clear HOP HBX HFB hw0 HY2 HY1 HB0 c0 c1 c2 c3 d0 d1 d2 d3
  go_loopw [7, 8] (fun bv x wr => ∃ (i : Nat) (L : List Us), i ≤ N ∧ x = .int .i64 (i : Int) ∧ KW w0 wr lp n ext size d bv L L i) (fun _ x _ => N - (intOf x).toNat)
  case atStart => exact ⟨0, [], Nat.zero_le _, rfl, HK.out⟩
  case round =>
    clear HK
    obtain ⟨i, L, hin, rfl, hk⟩ := hrel
    have HK := hide hk
    clear hk
    by_cases hlt : i < N
    · obtain ⟨g0, off, rfl, e0, e1, e2⟩ := HOP2.out _ HK.out.be i hlt
      have hkok := HOK.out i hlt
      generalize l.getD i ⟨0, 0, 0⟩ = s at *
      obtain ⟨kind, of_, key⟩ := s
      dsimp only at e0 e1 e2 hkok
      have HKO := hide hkok
      clear hkok
      have hii : (i : Int) < (N : Int) := by omega
      have HBA := hide ((Below.refl wr.heap.size wr).alloc (Nat.le_refl _) (.cells #[.int .i64 kind, .int .i64 of_, .int .i64 key] 78))
      have HK1 := hide (HK.out.below HBA.out)
      have HF := hide (findK_any HK1.out.bk (by have := HK1.out.len; omega) key)
      have HOX : Hid ((wr.alloc (.cells #[.int .i64 kind, .int .i64 of_, .int .i64 key] 78)).heap[wr.heap.size]? = some (.cells #[.int .i64 kind, .int .i64 of_, .int .i64 key] 78 (0, 0))) := hide (Go.heap_alloc_new wr _)
      by_cases hk0 : kind = 0
      · subst hk0
        obtain ⟨ba, bc, eb, b1, b2⟩ := HK1.out.bk.form
        subst eb
        unfold maxLen at b2
        have hlen := HK1.out.len
        have HID := hide (idle_any HK1.out.bk (by omega))
        have hbi := busy_idle L
        have hbu : (L.length : Int) - (idleN L : Int) = (busyN L : Int) := by omega
        have hbw : wrap64 (busyN L : Int) = (busyN L : Int) := by unfold wrap64; omega
        have hbw2 : IntKind.i64.wrap (busyN L : Int) = (busyN L : Int) := by simp [IntKind.wrap, IntKind.bits, IntKind.signed]; omega
        clear HK hbi
        go_wp2_with (go_at_call 13; refine HF.out.mono ?_; rintro e y5 ⟨r, rfl, hy, hfr⟩; have HFR := hide hfr; subst hy; clear HF hfr)
        go_wp2_with (go_at_call 33; refine HID.out.mono ?_; rintro e y6 ⟨rfl, hq⟩; have HK6 := hide (HK1.out.below hq.2); have HOX6 := hide (OpS.ofBelow hq.2 _ _ HOX.out); have o2 : y6.cell? ⟨wr.heap.size, 2, none⟩ = some (.int .i64 key) := cell_of_row _ _ _ _ _ _ HOX6.out; clear hq HID)
        have HBG := hide (HK6.out.begin (by omega) h4 h5 key)
        clear hbu hbw hbw2
        by_cases hin : 0 ≤ key ∧ key < (ext : Int)
        case neg =>
          by_cases hneg : key < 0
          · have kn : (key < 0) = True := eq_true hneg
            clear hneg
            go_wp2_with (first
              | (go_at_call 34; refine HBG.out.mono ?_; rintro e z1 ⟨c0, c1, c2, v2, er, rfl, hbg, hos⟩; obtain ⟨her, hk⟩ := hbg.no hin; subst her; have HZA := hide ((Below.refl z1.heap.size z1).alloc (Nat.le_refl _) (.cells #[.int .i64 c0, .int .i64 c1, .int .i64 c2] 81)); have HZR := hide (OpS.ofBelow HZA.out _ _ (hos _ _ HOX6.out)); have o3 : (z1.alloc (.cells #[.int .i64 c0, .int .i64 c1, .int .i64 c2] 81)).cell? ⟨wr.heap.size, 2, none⟩ = some (.int .i64 key) := cell_of_row _ _ _ _ _ _ HZR.out; have HK2 := hide (hk.below HZA.out); obtain ⟨⟨p0, p1⟩, p2, p3⟩ := HBX2.out _ HK2.out.be; clear hbg hos hk HBG)
              | (go_at_call 12; refine (HNU.out _ _).mono ?_; rintro e y4 ⟨rfl, hy⟩; subst hy))

            as_aux_lemma =>
              have HLN := hide (HK2.out.len)
              have HGB := hide (HK2.out.gb)
              have HHT := hide (HK2.out.hot)
              go_wp2_with (go_at_call 37; refine (HHT.out).mono ?_; rintro e z ⟨hv, T, rfl, hI, hT1, hT2, hT3, hk⟩; obtain ⟨ha, hc, eh, t1, t2⟩ := rowForm hI; subst eh; have HIR := hide hI; have HT3 := hide hT3; have HK3 := hide hk; obtain ⟨⟨a0, a1⟩, a2, a3⟩ := HBX2.out _ hk.be; have htl : (n < T.length) = False := (eq_false (by omega)); have htl2 : ((n : Int) < (T.length : Int)) = False := (eq_false (by omega)); have hT20 : T.length ≤ 2000 := (by omega); unfold maxLen at t2; clear hI hT1 hT2 hT3 hk HHT)
              have HEQ : Hid (L.length = L.length) := hide rfl
              have HLB : Hid (L.length ≤ 1024) := hide (by have := HLN.out; have := HEQ.out; omega)
              clear HLN
              obtain ⟨ab, cb, eb, l1, l2⟩ := HK3.out.bk.form
              simp only [Value.slice.injEq] at eb
              unfold maxLen at l2
              obtain ⟨rfl, -, rfl⟩ := eb
              have HUB : Hid (∀ k, k < L.length → L[k]? = some (ub L k)) := hide fun k hk => ub_of (by have := HEQ.out; omega)
              have HUM : Hid (∀ k, k < L.length → ub L k ∈ L) := hide fun k hk => List.mem_of_getElem? (ub_of (by have := HEQ.out; omega))
              clear HEQ
              have hlb := HLB.out
              generalize hNL : L.length = NL at *
              clear hNL HLB
              go_loopw [17] (fun x wr => ∃ k : Nat, k ≤ NL ∧ x = .int .i64 (k : Int) ∧ KW w0 wr lp n ext size d (.slice ba NL bc) L L (i + 1) ∧ IR wr (.slice ha T.length hc) T) (fun x _ => NL - (intOf x).toNat)
              case atStart => exact ⟨0, Nat.zero_le _, rfl, HK3.out, HIR.out⟩
              case round =>
                clear HK3 HIR a0 a1 a2 a3
                obtain ⟨k, hkn, rfl, hk, hI⟩ := hrel
                have HK3 := hide hk
                have HIR := hide hI
                clear hk hI
                by_cases hkl : k < NL
                · obtain ⟨g, cap, eg, ⟨s0, s1⟩, s2, -⟩ := HK3.out.at (HUB.out k hkl)
                  simp only [Value.slice.injEq] at eg
                  obtain ⟨rfl, -, rfl⟩ := eg
                  have hgb := HGB.out _ (HUM.out k hkl)
                  have hki : (k : Int) < (NL : Int) := by omega
                  have HRF := hide fun (x2 : World) (hx : KW w0 x2 lp n ext size d (.slice (some ⟨g, 0, none⟩) NL bc) L L (i + 1)) => hx.refs h4 (HUM.out k hkl)
                  have HHS := hide fun (x2 : World) (hx : IR x2 (.slice ha T.length hc) T) => has_any hx hT20 (ub L k).key
                  have HTT : Hid ((ub L k).back < (ub L k).got → decide ((ub L k).key ∈ T) = true) := hide fun hlt => decide_eq_true (HT3.out _ (HUM.out k hkl) hlt)
                  generalize decide ((ub L k).key ∈ T) = inT at *
                  generalize (ub L k).key = kk at *
                  generalize (ub L k).got = gg at *
                  generalize (ub L k).back = bb at *
                  have HKN : Hid (∀ m, KW w0 (wr.drewN m) lp n ext size d (.slice (some ⟨g, 0, none⟩) NL bc) L L (i + 1) ∧ IR (wr.drewN m) (.slice ha T.length hc) T) := hide fun m => ⟨HK3.out.below (below_drewN (Below.refl _ _) m), rowKept HIR.out fun _ _ => by rw [((Qt.refl wr).drewN m).1]⟩
                  by_cases hgt : bb < gg
                  · have hT := HTT.out hgt
                    subst hT
                    obtain ⟨dd, rfl⟩ : ∃ dd, gg = bb + dd := ⟨gg - bb, by omega⟩
                    have hdd : 0 < dd := by omega
                    rw [Nat.add_sub_cancel_left] at HRF
                    have e9 : ((bb + dd : Nat) : Int) - (bb : Int) = (dd : Int) := by omega
                    have e8 : ((bb : Int) + (dd : Int)) - (bb : Int) = (dd : Int) := by omega
                    have e7 : IntKind.i64.wrap (dd : Int) = (dd : Int) := by simp [IntKind.wrap, IntKind.bits, IntKind.signed]; omega
                    clear HTT hgt hgb HK3 HIR
                    go_wp2_with fail
                    go_quiet (fail)
                    have HK4 := hide (HKN.out nq).1
                    have HI4 := hide (HKN.out nq).2
                    have s4 : (wr.drewN nq).cell? ⟨g, k * 4, none⟩ = some (.int .i64 kk) := (((Qt.refl wr).drewN nq).cell _).trans s0
                    clear HKN s0 s1 s2
                    generalize wr.drewN nq = x2 at *
                    have HR4 := hide (HRF.out _ HK4.out)
                    have HH4 := hide (HHS.out _ HI4.out)
                    clear HRF HHS
                    go_wp2_with (first
                      | (go_at_call 38; refine HR4.out.mono ?_; rintro e z3 ⟨rfl, hz⟩; subst hz; clear HR4)
                      | (go_at_call 39; refine HH4.out.mono ?_; rintro e z3 ⟨rfl, hz⟩; subst hz; clear HH4))
                    go_roundw
                    case rel => exact ⟨k + 1, by omega, by go_num, HK4.out, HI4.out⟩
                    case measure => simp [intOf]; omega
                  · have ebg : gg = bb := by omega
                    subst ebg
                    rw [Nat.sub_self] at HRF
                    clear HTT hgt hgb HK3 HIR
                    go_wp2_with fail
                    go_quiet (fail)
                    have HK4 := hide (HKN.out nq).1
                    have HI4 := hide (HKN.out nq).2
                    have s4 : (wr.drewN nq).cell? ⟨g, k * 4, none⟩ = some (.int .i64 kk) := (((Qt.refl wr).drewN nq).cell _).trans s0
                    clear HKN s0 s1 s2
                    generalize wr.drewN nq = x2 at *
                    have HR4 := hide (HRF.out _ HK4.out)
                    have HH4 := hide (HHS.out _ HI4.out)
                    clear HRF HHS
                    go_wp2_with (first
                      | (go_at_call 38; refine HR4.out.mono ?_; rintro e z3 ⟨rfl, hz⟩; subst hz; clear HR4)
                      | (go_at_call 39; refine HH4.out.mono ?_; rintro e z3 ⟨rfl, hz⟩; subst hz; clear HH4))
                    go_roundw
                    case rel => exact ⟨k + 1, by omega, by go_num, HK4.out, HI4.out⟩
                    case measure => simp [intOf]; omega
                · have hkl2 : ¬ (k : Int) < (NL : Int) := by omega
                  go_wp2_with fail
                  go_roundw
                  case rel => exact ⟨i + 1, L, by omega, by go_num, HK3.out⟩
                  case measure => simp [intOf]; omega
          · have kn : (key < 0) = False := eq_false hneg
            have ke : ((ext : Int) ≤ key) = True := eq_true (by omega)
            clear hneg
            go_wp2_with (first
              | (go_at_call 34; refine HBG.out.mono ?_; rintro e z1 ⟨c0, c1, c2, v2, er, rfl, hbg, hos⟩; obtain ⟨her, hk⟩ := hbg.no hin; subst her; have HZA := hide ((Below.refl z1.heap.size z1).alloc (Nat.le_refl _) (.cells #[.int .i64 c0, .int .i64 c1, .int .i64 c2] 81)); have HZR := hide (OpS.ofBelow HZA.out _ _ (hos _ _ HOX6.out)); have o3 : (z1.alloc (.cells #[.int .i64 c0, .int .i64 c1, .int .i64 c2] 81)).cell? ⟨wr.heap.size, 2, none⟩ = some (.int .i64 key) := cell_of_row _ _ _ _ _ _ HZR.out; have HK2 := hide (hk.below HZA.out); obtain ⟨⟨p0, p1⟩, p2, p3⟩ := HBX2.out _ HK2.out.be; clear hbg hos hk HBG)
              | (go_at_call 12; refine (HNU.out _ _).mono ?_; rintro e y4 ⟨rfl, hy⟩; subst hy))

            as_aux_lemma =>
              have HLN := hide (HK2.out.len)
              have HGB := hide (HK2.out.gb)
              have HHT := hide (HK2.out.hot)
              go_wp2_with (go_at_call 37; refine (HHT.out).mono ?_; rintro e z ⟨hv, T, rfl, hI, hT1, hT2, hT3, hk⟩; obtain ⟨ha, hc, eh, t1, t2⟩ := rowForm hI; subst eh; have HIR := hide hI; have HT3 := hide hT3; have HK3 := hide hk; obtain ⟨⟨a0, a1⟩, a2, a3⟩ := HBX2.out _ hk.be; have htl : (n < T.length) = False := (eq_false (by omega)); have htl2 : ((n : Int) < (T.length : Int)) = False := (eq_false (by omega)); have hT20 : T.length ≤ 2000 := (by omega); unfold maxLen at t2; clear hI hT1 hT2 hT3 hk HHT)
              have HEQ : Hid (L.length = L.length) := hide rfl
              have HLB : Hid (L.length ≤ 1024) := hide (by have := HLN.out; have := HEQ.out; omega)
              clear HLN
              obtain ⟨ab, cb, eb, l1, l2⟩ := HK3.out.bk.form
              simp only [Value.slice.injEq] at eb
              unfold maxLen at l2
              obtain ⟨rfl, -, rfl⟩ := eb
              have HUB : Hid (∀ k, k < L.length → L[k]? = some (ub L k)) := hide fun k hk => ub_of (by have := HEQ.out; omega)
              have HUM : Hid (∀ k, k < L.length → ub L k ∈ L) := hide fun k hk => List.mem_of_getElem? (ub_of (by have := HEQ.out; omega))
              clear HEQ
              have hlb := HLB.out
              generalize hNL : L.length = NL at *
              clear hNL HLB
              go_loopw [17] (fun x wr => ∃ k : Nat, k ≤ NL ∧ x = .int .i64 (k : Int) ∧ KW w0 wr lp n ext size d (.slice ba NL bc) L L (i + 1) ∧ IR wr (.slice ha T.length hc) T) (fun x _ => NL - (intOf x).toNat)
              case atStart => exact ⟨0, Nat.zero_le _, rfl, HK3.out, HIR.out⟩
              case round =>
                clear HK3 HIR a0 a1 a2 a3
                obtain ⟨k, hkn, rfl, hk, hI⟩ := hrel
                have HK3 := hide hk
                have HIR := hide hI
                clear hk hI
                by_cases hkl : k < NL
                · obtain ⟨g, cap, eg, ⟨s0, s1⟩, s2, -⟩ := HK3.out.at (HUB.out k hkl)
                  simp only [Value.slice.injEq] at eg
                  obtain ⟨rfl, -, rfl⟩ := eg
                  have hgb := HGB.out _ (HUM.out k hkl)
                  have hki : (k : Int) < (NL : Int) := by omega
                  have HRF := hide fun (x2 : World) (hx : KW w0 x2 lp n ext size d (.slice (some ⟨g, 0, none⟩) NL bc) L L (i + 1)) => hx.refs h4 (HUM.out k hkl)
                  have HHS := hide fun (x2 : World) (hx : IR x2 (.slice ha T.length hc) T) => has_any hx hT20 (ub L k).key
                  have HTT : Hid ((ub L k).back < (ub L k).got → decide ((ub L k).key ∈ T) = true) := hide fun hlt => decide_eq_true (HT3.out _ (HUM.out k hkl) hlt)
                  generalize decide ((ub L k).key ∈ T) = inT at *
                  generalize (ub L k).key = kk at *
                  generalize (ub L k).got = gg at *
                  generalize (ub L k).back = bb at *
                  have HKN : Hid (∀ m, KW w0 (wr.drewN m) lp n ext size d (.slice (some ⟨g, 0, none⟩) NL bc) L L (i + 1) ∧ IR (wr.drewN m) (.slice ha T.length hc) T) := hide fun m => ⟨HK3.out.below (below_drewN (Below.refl _ _) m), rowKept HIR.out fun _ _ => by rw [((Qt.refl wr).drewN m).1]⟩
                  by_cases hgt : bb < gg
                  · have hT := HTT.out hgt
                    subst hT
                    obtain ⟨dd, rfl⟩ : ∃ dd, gg = bb + dd := ⟨gg - bb, by omega⟩
                    have hdd : 0 < dd := by omega
                    rw [Nat.add_sub_cancel_left] at HRF
                    have e9 : ((bb + dd : Nat) : Int) - (bb : Int) = (dd : Int) := by omega
                    have e8 : ((bb : Int) + (dd : Int)) - (bb : Int) = (dd : Int) := by omega
                    have e7 : IntKind.i64.wrap (dd : Int) = (dd : Int) := by simp [IntKind.wrap, IntKind.bits, IntKind.signed]; omega
                    clear HTT hgt hgb HK3 HIR
                    go_wp2_with fail
                    go_quiet (fail)
                    have HK4 := hide (HKN.out nq).1
                    have HI4 := hide (HKN.out nq).2
                    have s4 : (wr.drewN nq).cell? ⟨g, k * 4, none⟩ = some (.int .i64 kk) := (((Qt.refl wr).drewN nq).cell _).trans s0
                    clear HKN s0 s1 s2
                    generalize wr.drewN nq = x2 at *
                    have HR4 := hide (HRF.out _ HK4.out)
                    have HH4 := hide (HHS.out _ HI4.out)
                    clear HRF HHS
                    go_wp2_with (first
                      | (go_at_call 38; refine HR4.out.mono ?_; rintro e z3 ⟨rfl, hz⟩; subst hz; clear HR4)
                      | (go_at_call 39; refine HH4.out.mono ?_; rintro e z3 ⟨rfl, hz⟩; subst hz; clear HH4))
                    go_roundw
                    case rel => exact ⟨k + 1, by omega, by go_num, HK4.out, HI4.out⟩
                    case measure => simp [intOf]; omega
                  · have ebg : gg = bb := by omega
                    subst ebg
                    rw [Nat.sub_self] at HRF
                    clear HTT hgt hgb HK3 HIR
                    go_wp2_with fail
                    go_quiet (fail)
                    have HK4 := hide (HKN.out nq).1
                    have HI4 := hide (HKN.out nq).2
                    have s4 : (wr.drewN nq).cell? ⟨g, k * 4, none⟩ = some (.int .i64 kk) := (((Qt.refl wr).drewN nq).cell _).trans s0
                    clear HKN s0 s1 s2
                    generalize wr.drewN nq = x2 at *
                    have HR4 := hide (HRF.out _ HK4.out)
                    have HH4 := hide (HHS.out _ HI4.out)
                    clear HRF HHS
                    go_wp2_with (first
                      | (go_at_call 38; refine HR4.out.mono ?_; rintro e z3 ⟨rfl, hz⟩; subst hz; clear HR4)
                      | (go_at_call 39; refine HH4.out.mono ?_; rintro e z3 ⟨rfl, hz⟩; subst hz; clear HH4))
                    go_roundw
                    case rel => exact ⟨k + 1, by omega, by go_num, HK4.out, HI4.out⟩
                    case measure => simp [intOf]; omega
                · have hkl2 : ¬ (k : Int) < (NL : Int) := by omega
                  go_wp2_with fail
                  go_roundw
                  case rel => exact ⟨i + 1, L, by omega, by go_num, HK3.out⟩
                  case measure => simp [intOf]; omega
        have kn : (key < 0) = False := eq_false (by omega)
        have ke : ((ext : Int) ≤ key) = False := eq_false (by omega)
        rcases HFR.out with ⟨j, u, hj, hu, hr⟩ | ⟨hno, hr⟩
        · subst hr
          have hjl := (List.getElem?_eq_some_iff.1 hj).1
          have hj0 : ((j : Int) < 0) = False := by simp
          have hj1 : (j : Int) < (L.length : Int) := by omega
          by_cases hb : busyN L = n
          · by_cases hg : u.got = u.back
            · have HFU : Hid (∀ {z er}, BgK w0 z lp n ext size d (.slice ba L.length bc) L i key er → er = 41 ∧ KW w0 z lp n ext size d (.slice ba L.length bc) L L (i + 1)) := hide fun h => h.full hin ⟨hb, fun t ht e => by
                obtain ⟨b', hb'⟩ := List.getElem?_of_mem ht
                have := HK6.out.uniq hb' hj (by rw [e, hu])
                subst this
                rw [hj] at hb'
                obtain rfl := Option.some.inj hb'
                exact hg⟩
              have hbB : ((busyN L : Int) == (n : Int)) = true := by rw [hb]; simp
              have hbC : (busyN L == n) = true := by rw [hb]; simp
              clear hb
              generalize busyN L = bn at *
              go_wp2_with (go_at_call 34; refine HBG.out.mono ?_; rintro e z1 ⟨c0, c1, c2, v2, er, rfl, hbg, hos⟩; obtain ⟨her, hk⟩ := HFU.out hbg; subst her; have HZA := hide ((Below.refl z1.heap.size z1).alloc (Nat.le_refl _) (.cells #[.int .i64 c0, .int .i64 c1, .int .i64 c2] 81)); have HZR := hide (OpS.ofBelow HZA.out _ _ (hos _ _ HOX6.out)); have o3 : (z1.alloc (.cells #[.int .i64 c0, .int .i64 c1, .int .i64 c2] 81)).cell? ⟨wr.heap.size, 2, none⟩ = some (.int .i64 key) := cell_of_row _ _ _ _ _ _ HZR.out; obtain ⟨⟨p0, p1⟩, p2, p3⟩ := HBX2.out _ (hk.below HZA.out).be; have HK7 := hide (hk.below HZA.out); clear hbg hos hk HBG)
              obtain ⟨g9, cap9, e9, ⟨s0, s1⟩, s2, f2⟩ := HK7.out.at hj
              simp only [Value.slice.injEq] at e9
              obtain ⟨rfl, -, rfl⟩ := e9
              rw [hg] at s1
              clear hg hj hu
              generalize u.back = bb9 at *
              go_wp2_with fail
              clear HZA HZR
              generalize (z1.alloc (.cells #[.int .i64 c0, .int .i64 c1, .int .i64 c2] 81)) = x7 at *
              go_quiet (fail)
              have HK8 := hide (HK7.out.below (show Below _ _ (x7.drewN nq) from below_drewN (Below.refl _ _) nq))
              have o4 : (x7.drewN nq).cell? ⟨wr.heap.size, 2, none⟩ = some (.int .i64 key) := (((Qt.refl x7).drewN nq).cell _).trans o3
              clear o3 HK7 p0 p1 p2 p3
              generalize x7.drewN nq = x8 at *
              go_wp2_with (go_at_call 12; refine (HNU.out _ _).mono ?_; rintro e y4 ⟨rfl, hy⟩; subst hy)
              have HK2 := hide HK8.out

              as_aux_lemma =>
                have HLN := hide (HK2.out.len)
                have HGB := hide (HK2.out.gb)
                have HHT := hide (HK2.out.hot)
                go_wp2_with (go_at_call 37; refine (HHT.out).mono ?_; rintro e z ⟨hv, T, rfl, hI, hT1, hT2, hT3, hk⟩; obtain ⟨ha, hc, eh, t1, t2⟩ := rowForm hI; subst eh; have HIR := hide hI; have HT3 := hide hT3; have HK3 := hide hk; obtain ⟨⟨a0, a1⟩, a2, a3⟩ := HBX2.out _ hk.be; have htl : (n < T.length) = False := (eq_false (by omega)); have htl2 : ((n : Int) < (T.length : Int)) = False := (eq_false (by omega)); have hT20 : T.length ≤ 2000 := (by omega); unfold maxLen at t2; clear hI hT1 hT2 hT3 hk HHT)
                have HEQ : Hid (L.length = L.length) := hide rfl
                have HLB : Hid (L.length ≤ 1024) := hide (by have := HLN.out; have := HEQ.out; omega)
                clear HLN
                obtain ⟨ab, cb, eb, l1, l2⟩ := HK3.out.bk.form
                simp only [Value.slice.injEq] at eb
                unfold maxLen at l2
                obtain ⟨rfl, -, rfl⟩ := eb
                have HUB : Hid (∀ k, k < L.length → L[k]? = some (ub L k)) := hide fun k hk => ub_of (by have := HEQ.out; omega)
                have HUM : Hid (∀ k, k < L.length → ub L k ∈ L) := hide fun k hk => List.mem_of_getElem? (ub_of (by have := HEQ.out; omega))
                clear HEQ
                have hlb := HLB.out
                generalize hNL : L.length = NL at *
                clear hNL HLB
                go_loopw [17] (fun x wr => ∃ k : Nat, k ≤ NL ∧ x = .int .i64 (k : Int) ∧ KW w0 wr lp n ext size d (.slice (some ⟨g9, 0, none⟩) NL bc) L L (i + 1) ∧ IR wr (.slice ha T.length hc) T) (fun x _ => NL - (intOf x).toNat)
                case atStart => exact ⟨0, Nat.zero_le _, rfl, HK3.out, HIR.out⟩
                case round =>
                  clear HK3 HIR a0 a1 a2 a3
                  obtain ⟨k, hkn, rfl, hk, hI⟩ := hrel
                  have HK3 := hide hk
                  have HIR := hide hI
                  clear hk hI
                  by_cases hkl : k < NL
                  · obtain ⟨g, cap, eg, ⟨s0, s1⟩, s2, -⟩ := HK3.out.at (HUB.out k hkl)
                    simp only [Value.slice.injEq, Option.some.injEq, Addr.mk.injEq] at eg
                    obtain ⟨⟨rfl, -, -⟩, -, rfl⟩ := eg
                    have hgb := HGB.out _ (HUM.out k hkl)
                    have hki : (k : Int) < (NL : Int) := by omega
                    have HRF := hide fun (x2 : World) (hx : KW w0 x2 lp n ext size d (.slice (some ⟨g9, 0, none⟩) NL bc) L L (i + 1)) => hx.refs h4 (HUM.out k hkl)
                    have HHS := hide fun (x2 : World) (hx : IR x2 (.slice ha T.length hc) T) => has_any hx hT20 (ub L k).key
                    have HTT : Hid ((ub L k).back < (ub L k).got → decide ((ub L k).key ∈ T) = true) := hide fun hlt => decide_eq_true (HT3.out _ (HUM.out k hkl) hlt)
                    generalize decide ((ub L k).key ∈ T) = inT at *
                    generalize (ub L k).key = kk at *
                    generalize (ub L k).got = gg at *
                    generalize (ub L k).back = bb at *
                    have HKN : Hid (∀ m, KW w0 (wr.drewN m) lp n ext size d (.slice (some ⟨g9, 0, none⟩) NL bc) L L (i + 1) ∧ IR (wr.drewN m) (.slice ha T.length hc) T) := hide fun m => ⟨HK3.out.below (below_drewN (Below.refl _ _) m), rowKept HIR.out fun _ _ => by rw [((Qt.refl wr).drewN m).1]⟩
                    by_cases hgt : bb < gg
                    · have hT := HTT.out hgt
                      subst hT
                      obtain ⟨dd, rfl⟩ : ∃ dd, gg = bb + dd := ⟨gg - bb, by omega⟩
                      have hdd : 0 < dd := by omega
                      rw [Nat.add_sub_cancel_left] at HRF
                      have e9 : ((bb + dd : Nat) : Int) - (bb : Int) = (dd : Int) := by omega
                      have e8 : ((bb : Int) + (dd : Int)) - (bb : Int) = (dd : Int) := by omega
                      have e7 : IntKind.i64.wrap (dd : Int) = (dd : Int) := by simp [IntKind.wrap, IntKind.bits, IntKind.signed]; omega
                      clear HTT hgt hgb HK3 HIR
                      go_wp2_with fail
                      go_quiet (fail)
                      have HK4 := hide (HKN.out nq).1
                      have HI4 := hide (HKN.out nq).2
                      have s4 : (wr.drewN nq).cell? ⟨g9, k * 4, none⟩ = some (.int .i64 kk) := (((Qt.refl wr).drewN nq).cell _).trans s0
                      clear HKN s0 s1 s2
                      generalize wr.drewN nq = x2 at *
                      have HR4 := hide (HRF.out _ HK4.out)
                      have HH4 := hide (HHS.out _ HI4.out)
                      clear HRF HHS
                      go_wp2_with (first
                        | (go_at_call 38; refine HR4.out.mono ?_; rintro e z3 ⟨rfl, hz⟩; subst hz; clear HR4)
                        | (go_at_call 39; refine HH4.out.mono ?_; rintro e z3 ⟨rfl, hz⟩; subst hz; clear HH4))
                      go_roundw
                      case rel => exact ⟨k + 1, by omega, by go_num, HK4.out, HI4.out⟩
                      case measure => simp [intOf]; omega
                    · have ebg : gg = bb := by omega
                      subst ebg
                      rw [Nat.sub_self] at HRF
                      clear HTT hgt hgb HK3 HIR
                      go_wp2_with fail
                      go_quiet (fail)
                      have HK4 := hide (HKN.out nq).1
                      have HI4 := hide (HKN.out nq).2
                      have s4 : (wr.drewN nq).cell? ⟨g9, k * 4, none⟩ = some (.int .i64 kk) := (((Qt.refl wr).drewN nq).cell _).trans s0
                      clear HKN s0 s1 s2
                      generalize wr.drewN nq = x2 at *
                      have HR4 := hide (HRF.out _ HK4.out)
                      have HH4 := hide (HHS.out _ HI4.out)
                      clear HRF HHS
                      go_wp2_with (first
                        | (go_at_call 38; refine HR4.out.mono ?_; rintro e z3 ⟨rfl, hz⟩; subst hz; clear HR4)
                        | (go_at_call 39; refine HH4.out.mono ?_; rintro e z3 ⟨rfl, hz⟩; subst hz; clear HH4))
                      go_roundw
                      case rel => exact ⟨k + 1, by omega, by go_num, HK4.out, HI4.out⟩
                      case measure => simp [intOf]; omega
                  · have hkl2 : ¬ (k : Int) < (NL : Int) := by omega
                    go_wp2_with fail
                    go_roundw
                    case rel => exact ⟨i + 1, L, by omega, by go_num, HK3.out⟩
                    case measure => simp [intOf]; omega
            · have HFM : Hid (∀ {z er}, BgK w0 z lp n ext size d (.slice ba L.length bc) L i key er → er = 0 ∧ KW w0 z lp n ext size d (.slice ba L.length bc) L (L.set j { u with got := u.got + 1 }) (i + 1)) := hide fun h => ⟨(h.more hin (fun q => hg (q.2 u (List.mem_of_getElem? hj) hu))).1, (h.more hin (fun q => hg (q.2 u (List.mem_of_getElem? hj) hu))).2.1 j u hj hu⟩
              have hgot := HK6.out.gb u (List.mem_of_getElem? hj)
              have HTK := hide fun (x : World) (hx : KW w0 x lp n ext size d (.slice ba L.length bc) L (L.set j { u with got := u.got + 1 }) (i + 1)) => took_in hx.bk (by omega) hj (fun a t ha ht => HK6.out.uniq ha hj ht) (by omega)
              have HSL : Hid ((L.set j { u with got := u.got + 1 }).length = L.length) := hide (List.length_set ..)
              generalize hL2 : L.set j { u with got := u.got + 1 } = L2 at *
              rw [hu] at HTK
              clear hL2 hgot
              have hbB : ((busyN L : Int) == (n : Int)) = true := by rw [hb]; simp
              have hbC : (busyN L == n) = true := by rw [hb]; simp
              clear hb
              generalize busyN L = bn at *
              go_wp2_with (go_at_call 34; refine HBG.out.mono ?_; rintro e z1 ⟨c0, c1, c2, v2, er, rfl, hbg, hos⟩; obtain ⟨her, hk⟩ := HFM.out hbg; subst her; have HZA := hide ((Below.refl z1.heap.size z1).alloc (Nat.le_refl _) (.cells #[.int .i64 c0, .int .i64 c1, .int .i64 c2] 81)); have HZR := hide (OpS.ofBelow HZA.out _ _ (hos _ _ HOX6.out)); have o3 : (z1.alloc (.cells #[.int .i64 c0, .int .i64 c1, .int .i64 c2] 81)).cell? ⟨wr.heap.size, 2, none⟩ = some (.int .i64 key) := cell_of_row _ _ _ _ _ _ HZR.out; obtain ⟨⟨p0, p1⟩, p2, p3⟩ := HBX2.out _ (hk.below HZA.out).be; have HK7 := hide (hk.below HZA.out); clear hbg hos hk HBG)
              obtain ⟨g9, cap9, e9, ⟨s0, s1⟩, s2, f2⟩ := HK7.out.at hj
              simp only [Value.slice.injEq] at e9
              obtain ⟨rfl, -, rfl⟩ := e9
              have hnb : ((u.got : Int) == (u.back : Int)) = false := by simp; omega
              have hnc : (u.got == u.back) = false := by simp; omega
              clear hg hj hu
              generalize u.back = bb9 at *
              generalize u.got = gg9 at *
              go_wp2_with fail
              clear HZA HZR
              generalize (z1.alloc (.cells #[.int .i64 c0, .int .i64 c1, .int .i64 c2] 81)) = x7 at *
              go_quiet (fail)
              have HK8 := hide (HK7.out.below (show Below _ _ (x7.drewN nq) from below_drewN (Below.refl _ _) nq))
              have o4 : (x7.drewN nq).cell? ⟨wr.heap.size, 2, none⟩ = some (.int .i64 key) := (((Qt.refl x7).drewN nq).cell _).trans o3
              clear o3 HK7 p0 p1 p2 p3
              generalize x7.drewN nq = x8 at *
              have HT8 := hide (HTK.out _ HK8.out)
              clear HTK
              go_wp2_with (first
                | (go_at_call 12; refine (HNU.out _ _).mono ?_; rintro e y4 ⟨rfl, hy⟩; subst hy)
                | (go_at_call 35; refine HT8.out.mono ?_; rintro e x9 ⟨rfl, hbk, hch⟩; have HK9 := hide (HK8.out.book hbk hch); clear hbk hch HT8 HK8))
              have HK2 := hide HK9.out

              as_aux_lemma =>
                have HLN := hide (HK2.out.len)
                have HGB := hide (HK2.out.gb)
                have HHT := hide (HK2.out.hot)
                go_wp2_with (go_at_call 37; refine (HHT.out).mono ?_; rintro e z ⟨hv, T, rfl, hI, hT1, hT2, hT3, hk⟩; obtain ⟨ha, hc, eh, t1, t2⟩ := rowForm hI; subst eh; have HIR := hide hI; have HT3 := hide hT3; have HK3 := hide hk; obtain ⟨⟨a0, a1⟩, a2, a3⟩ := HBX2.out _ hk.be; have htl : (n < T.length) = False := (eq_false (by omega)); have htl2 : ((n : Int) < (T.length : Int)) = False := (eq_false (by omega)); have hT20 : T.length ≤ 2000 := (by omega); unfold maxLen at t2; clear hI hT1 hT2 hT3 hk HHT)
                have HEQ : Hid (L2.length = L.length) := hide HSL.out
                have HLB : Hid (L.length ≤ 1024) := hide (by have := HLN.out; have := HEQ.out; omega)
                clear HLN
                obtain ⟨ab, cb, eb, l1, l2⟩ := HK3.out.bk.form
                simp only [Value.slice.injEq] at eb
                unfold maxLen at l2
                obtain ⟨rfl, -, rfl⟩ := eb
                have HUB : Hid (∀ k, k < L.length → L2[k]? = some (ub L2 k)) := hide fun k hk => ub_of (by have := HEQ.out; omega)
                have HUM : Hid (∀ k, k < L.length → ub L2 k ∈ L2) := hide fun k hk => List.mem_of_getElem? (ub_of (by have := HEQ.out; omega))
                clear HEQ
                have hlb := HLB.out
                generalize hNL : L.length = NL at *
                clear hNL HLB
                go_loopw [17] (fun x wr => ∃ k : Nat, k ≤ NL ∧ x = .int .i64 (k : Int) ∧ KW w0 wr lp n ext size d (.slice (some ⟨g9, 0, none⟩) NL bc) L2 L2 (i + 1) ∧ IR wr (.slice ha T.length hc) T) (fun x _ => NL - (intOf x).toNat)
                case atStart => exact ⟨0, Nat.zero_le _, rfl, HK3.out, HIR.out⟩
                case round =>
                  clear HK3 HIR a0 a1 a2 a3
                  obtain ⟨k, hkn, rfl, hk, hI⟩ := hrel
                  have HK3 := hide hk
                  have HIR := hide hI
                  clear hk hI
                  by_cases hkl : k < NL
                  · obtain ⟨g, cap, eg, ⟨s0, s1⟩, s2, -⟩ := HK3.out.at (HUB.out k hkl)
                    simp only [Value.slice.injEq, Option.some.injEq, Addr.mk.injEq] at eg
                    obtain ⟨⟨rfl, -, -⟩, -, rfl⟩ := eg
                    have hgb := HGB.out _ (HUM.out k hkl)
                    have hki : (k : Int) < (NL : Int) := by omega
                    have HRF := hide fun (x2 : World) (hx : KW w0 x2 lp n ext size d (.slice (some ⟨g9, 0, none⟩) NL bc) L2 L2 (i + 1)) => hx.refs h4 (HUM.out k hkl)
                    have HHS := hide fun (x2 : World) (hx : IR x2 (.slice ha T.length hc) T) => has_any hx hT20 (ub L2 k).key
                    have HTT : Hid ((ub L2 k).back < (ub L2 k).got → decide ((ub L2 k).key ∈ T) = true) := hide fun hlt => decide_eq_true (HT3.out _ (HUM.out k hkl) hlt)
                    generalize decide ((ub L2 k).key ∈ T) = inT at *
                    generalize (ub L2 k).key = kk at *
                    generalize (ub L2 k).got = gg at *
                    generalize (ub L2 k).back = bb at *
                    have HKN : Hid (∀ m, KW w0 (wr.drewN m) lp n ext size d (.slice (some ⟨g9, 0, none⟩) NL bc) L2 L2 (i + 1) ∧ IR (wr.drewN m) (.slice ha T.length hc) T) := hide fun m => ⟨HK3.out.below (below_drewN (Below.refl _ _) m), rowKept HIR.out fun _ _ => by rw [((Qt.refl wr).drewN m).1]⟩
                    by_cases hgt : bb < gg
                    · have hT := HTT.out hgt
                      subst hT
                      obtain ⟨dd, rfl⟩ : ∃ dd, gg = bb + dd := ⟨gg - bb, by omega⟩
                      have hdd : 0 < dd := by omega
                      rw [Nat.add_sub_cancel_left] at HRF
                      have e9 : ((bb + dd : Nat) : Int) - (bb : Int) = (dd : Int) := by omega
                      have e8 : ((bb : Int) + (dd : Int)) - (bb : Int) = (dd : Int) := by omega
                      have e7 : IntKind.i64.wrap (dd : Int) = (dd : Int) := by simp [IntKind.wrap, IntKind.bits, IntKind.signed]; omega
                      clear HTT hgt hgb HK3 HIR
                      go_wp2_with fail
                      go_quiet (fail)
                      have HK4 := hide (HKN.out nq).1
                      have HI4 := hide (HKN.out nq).2
                      have s4 : (wr.drewN nq).cell? ⟨g9, k * 4, none⟩ = some (.int .i64 kk) := (((Qt.refl wr).drewN nq).cell _).trans s0
                      clear HKN s0 s1 s2
                      generalize wr.drewN nq = x2 at *
                      have HR4 := hide (HRF.out _ HK4.out)
                      have HH4 := hide (HHS.out _ HI4.out)
                      clear HRF HHS
                      go_wp2_with (first
                        | (go_at_call 38; refine HR4.out.mono ?_; rintro e z3 ⟨rfl, hz⟩; subst hz; clear HR4)
                        | (go_at_call 39; refine HH4.out.mono ?_; rintro e z3 ⟨rfl, hz⟩; subst hz; clear HH4))
                      go_roundw
                      case rel => exact ⟨k + 1, by omega, by go_num, HK4.out, HI4.out⟩
                      case measure => simp [intOf]; omega
                    · have ebg : gg = bb := by omega
                      subst ebg
                      rw [Nat.sub_self] at HRF
                      clear HTT hgt hgb HK3 HIR
                      go_wp2_with fail
                      go_quiet (fail)
                      have HK4 := hide (HKN.out nq).1
                      have HI4 := hide (HKN.out nq).2
                      have s4 : (wr.drewN nq).cell? ⟨g9, k * 4, none⟩ = some (.int .i64 kk) := (((Qt.refl wr).drewN nq).cell _).trans s0
                      clear HKN s0 s1 s2
                      generalize wr.drewN nq = x2 at *
                      have HR4 := hide (HRF.out _ HK4.out)
                      have HH4 := hide (HHS.out _ HI4.out)
                      clear HRF HHS
                      go_wp2_with (first
                        | (go_at_call 38; refine HR4.out.mono ?_; rintro e z3 ⟨rfl, hz⟩; subst hz; clear HR4)
                        | (go_at_call 39; refine HH4.out.mono ?_; rintro e z3 ⟨rfl, hz⟩; subst hz; clear HH4))
                      go_roundw
                      case rel => exact ⟨k + 1, by omega, by go_num, HK4.out, HI4.out⟩
                      case measure => simp [intOf]; omega
                  · have hkl2 : ¬ (k : Int) < (NL : Int) := by omega
                    go_wp2_with fail
                    go_roundw
                    case rel => exact ⟨i + 1, L2, by omega, by go_num, HK3.out⟩
                    case measure => simp [intOf]; omega
          · have HFM : Hid (∀ {z er}, BgK w0 z lp n ext size d (.slice ba L.length bc) L i key er → er = 0 ∧ KW w0 z lp n ext size d (.slice ba L.length bc) L (L.set j { u with got := u.got + 1 }) (i + 1)) := hide fun h => ⟨(h.more hin (fun q => hb q.1)).1, (h.more hin (fun q => hb q.1)).2.1 j u hj hu⟩
            have hgot := HK6.out.gb u (List.mem_of_getElem? hj)
            have HTK := hide fun (x : World) (hx : KW w0 x lp n ext size d (.slice ba L.length bc) L (L.set j { u with got := u.got + 1 }) (i + 1)) => took_in hx.bk (by omega) hj (fun a t ha ht => HK6.out.uniq ha hj ht) (by omega)
            have HSL : Hid ((L.set j { u with got := u.got + 1 }).length = L.length) := hide (List.length_set ..)
            generalize hL2 : L.set j { u with got := u.got + 1 } = L2 at *
            rw [hu] at HTK
            clear hL2 hgot
            have hbB : ((busyN L : Int) == (n : Int)) = false := by simp; omega
            have hbC : (busyN L == n) = false := by simp; omega
            have hbD : ((busyN L : Int) = (n : Int)) = False := eq_false (by omega)
            clear hb
            generalize busyN L = bn at *
            go_wp2_with (go_at_call 34; refine HBG.out.mono ?_; rintro e z1 ⟨c0, c1, c2, v2, er, rfl, hbg, hos⟩; obtain ⟨her, hk⟩ := HFM.out hbg; subst her; have HZA := hide ((Below.refl z1.heap.size z1).alloc (Nat.le_refl _) (.cells #[.int .i64 c0, .int .i64 c1, .int .i64 c2] 81)); have HZR := hide (OpS.ofBelow HZA.out _ _ (hos _ _ HOX6.out)); have o3 : (z1.alloc (.cells #[.int .i64 c0, .int .i64 c1, .int .i64 c2] 81)).cell? ⟨wr.heap.size, 2, none⟩ = some (.int .i64 key) := cell_of_row _ _ _ _ _ _ HZR.out; obtain ⟨⟨p0, p1⟩, p2, p3⟩ := HBX2.out _ (hk.below HZA.out).be; have HK7 := hide (hk.below HZA.out); clear hbg hos hk HBG)
            go_wp2_with fail
            clear HZA HZR
            generalize (z1.alloc (.cells #[.int .i64 c0, .int .i64 c1, .int .i64 c2] 81)) = x7 at *
            go_quiet (fail)
            have HK8 := hide (HK7.out.below (show Below _ _ (x7.drewN nq) from below_drewN (Below.refl _ _) nq))
            have o4 : (x7.drewN nq).cell? ⟨wr.heap.size, 2, none⟩ = some (.int .i64 key) := (((Qt.refl x7).drewN nq).cell _).trans o3
            clear o3 HK7 p0 p1 p2 p3
            generalize x7.drewN nq = x8 at *
            have HT8 := hide (HTK.out _ HK8.out)
            clear HTK
            go_wp2_with (first
              | (go_at_call 12; refine (HNU.out _ _).mono ?_; rintro e y4 ⟨rfl, hy⟩; subst hy)
              | (go_at_call 35; refine HT8.out.mono ?_; rintro e x9 ⟨rfl, hbk, hch⟩; have HK9 := hide (HK8.out.book hbk hch); clear hbk hch HT8 HK8))
            have HK2 := hide HK9.out

            as_aux_lemma =>
              have HLN := hide (HK2.out.len)
              have HGB := hide (HK2.out.gb)
              have HHT := hide (HK2.out.hot)
              go_wp2_with (go_at_call 37; refine (HHT.out).mono ?_; rintro e z ⟨hv, T, rfl, hI, hT1, hT2, hT3, hk⟩; obtain ⟨ha, hc, eh, t1, t2⟩ := rowForm hI; subst eh; have HIR := hide hI; have HT3 := hide hT3; have HK3 := hide hk; obtain ⟨⟨a0, a1⟩, a2, a3⟩ := HBX2.out _ hk.be; have htl : (n < T.length) = False := (eq_false (by omega)); have htl2 : ((n : Int) < (T.length : Int)) = False := (eq_false (by omega)); have hT20 : T.length ≤ 2000 := (by omega); unfold maxLen at t2; clear hI hT1 hT2 hT3 hk HHT)
              have HEQ : Hid (L2.length = L.length) := hide HSL.out
              have HLB : Hid (L.length ≤ 1024) := hide (by have := HLN.out; have := HEQ.out; omega)
              clear HLN
              obtain ⟨ab, cb, eb, l1, l2⟩ := HK3.out.bk.form
              simp only [Value.slice.injEq] at eb
              unfold maxLen at l2
              obtain ⟨rfl, -, rfl⟩ := eb
              have HUB : Hid (∀ k, k < L.length → L2[k]? = some (ub L2 k)) := hide fun k hk => ub_of (by have := HEQ.out; omega)
              have HUM : Hid (∀ k, k < L.length → ub L2 k ∈ L2) := hide fun k hk => List.mem_of_getElem? (ub_of (by have := HEQ.out; omega))
              clear HEQ
              have hlb := HLB.out
              generalize hNL : L.length = NL at *
              clear hNL HLB
              go_loopw [17] (fun x wr => ∃ k : Nat, k ≤ NL ∧ x = .int .i64 (k : Int) ∧ KW w0 wr lp n ext size d (.slice ba NL bc) L2 L2 (i + 1) ∧ IR wr (.slice ha T.length hc) T) (fun x _ => NL - (intOf x).toNat)
              case atStart => exact ⟨0, Nat.zero_le _, rfl, HK3.out, HIR.out⟩
              case round =>
                clear HK3 HIR a0 a1 a2 a3
                obtain ⟨k, hkn, rfl, hk, hI⟩ := hrel
                have HK3 := hide hk
                have HIR := hide hI
                clear hk hI
                by_cases hkl : k < NL
                · obtain ⟨g, cap, eg, ⟨s0, s1⟩, s2, -⟩ := HK3.out.at (HUB.out k hkl)
                  simp only [Value.slice.injEq] at eg
                  obtain ⟨rfl, -, rfl⟩ := eg
                  have hgb := HGB.out _ (HUM.out k hkl)
                  have hki : (k : Int) < (NL : Int) := by omega
                  have HRF := hide fun (x2 : World) (hx : KW w0 x2 lp n ext size d (.slice (some ⟨g, 0, none⟩) NL bc) L2 L2 (i + 1)) => hx.refs h4 (HUM.out k hkl)
                  have HHS := hide fun (x2 : World) (hx : IR x2 (.slice ha T.length hc) T) => has_any hx hT20 (ub L2 k).key
                  have HTT : Hid ((ub L2 k).back < (ub L2 k).got → decide ((ub L2 k).key ∈ T) = true) := hide fun hlt => decide_eq_true (HT3.out _ (HUM.out k hkl) hlt)
                  generalize decide ((ub L2 k).key ∈ T) = inT at *
                  generalize (ub L2 k).key = kk at *
                  generalize (ub L2 k).got = gg at *
                  generalize (ub L2 k).back = bb at *
                  have HKN : Hid (∀ m, KW w0 (wr.drewN m) lp n ext size d (.slice (some ⟨g, 0, none⟩) NL bc) L2 L2 (i + 1) ∧ IR (wr.drewN m) (.slice ha T.length hc) T) := hide fun m => ⟨HK3.out.below (below_drewN (Below.refl _ _) m), rowKept HIR.out fun _ _ => by rw [((Qt.refl wr).drewN m).1]⟩
                  by_cases hgt : bb < gg
                  · have hT := HTT.out hgt
                    subst hT
                    obtain ⟨dd, rfl⟩ : ∃ dd, gg = bb + dd := ⟨gg - bb, by omega⟩
                    have hdd : 0 < dd := by omega
                    rw [Nat.add_sub_cancel_left] at HRF
                    have e9 : ((bb + dd : Nat) : Int) - (bb : Int) = (dd : Int) := by omega
                    have e8 : ((bb : Int) + (dd : Int)) - (bb : Int) = (dd : Int) := by omega
                    have e7 : IntKind.i64.wrap (dd : Int) = (dd : Int) := by simp [IntKind.wrap, IntKind.bits, IntKind.signed]; omega
                    clear HTT hgt hgb HK3 HIR
                    go_wp2_with fail
                    go_quiet (fail)
                    have HK4 := hide (HKN.out nq).1
                    have HI4 := hide (HKN.out nq).2
                    have s4 : (wr.drewN nq).cell? ⟨g, k * 4, none⟩ = some (.int .i64 kk) := (((Qt.refl wr).drewN nq).cell _).trans s0
                    clear HKN s0 s1 s2
                    generalize wr.drewN nq = x2 at *
                    have HR4 := hide (HRF.out _ HK4.out)
                    have HH4 := hide (HHS.out _ HI4.out)
                    clear HRF HHS
                    go_wp2_with (first
                      | (go_at_call 38; refine HR4.out.mono ?_; rintro e z3 ⟨rfl, hz⟩; subst hz; clear HR4)
                      | (go_at_call 39; refine HH4.out.mono ?_; rintro e z3 ⟨rfl, hz⟩; subst hz; clear HH4))
                    go_roundw
                    case rel => exact ⟨k + 1, by omega, by go_num, HK4.out, HI4.out⟩
                    case measure => simp [intOf]; omega
                  · have ebg : gg = bb := by omega
                    subst ebg
                    rw [Nat.sub_self] at HRF
                    clear HTT hgt hgb HK3 HIR
                    go_wp2_with fail
                    go_quiet (fail)
                    have HK4 := hide (HKN.out nq).1
                    have HI4 := hide (HKN.out nq).2
                    have s4 : (wr.drewN nq).cell? ⟨g, k * 4, none⟩ = some (.int .i64 kk) := (((Qt.refl wr).drewN nq).cell _).trans s0
                    clear HKN s0 s1 s2
                    generalize wr.drewN nq = x2 at *
                    have HR4 := hide (HRF.out _ HK4.out)
                    have HH4 := hide (HHS.out _ HI4.out)
                    clear HRF HHS
                    go_wp2_with (first
                      | (go_at_call 38; refine HR4.out.mono ?_; rintro e z3 ⟨rfl, hz⟩; subst hz; clear HR4)
                      | (go_at_call 39; refine HH4.out.mono ?_; rintro e z3 ⟨rfl, hz⟩; subst hz; clear HH4))
                    go_roundw
                    case rel => exact ⟨k + 1, by omega, by go_num, HK4.out, HI4.out⟩
                    case measure => simp [intOf]; omega
                · have hkl2 : ¬ (k : Int) < (NL : Int) := by omega
                  go_wp2_with fail
                  go_roundw
                  case rel => exact ⟨i + 1, L2, by omega, by go_num, HK3.out⟩
                  case measure => simp [intOf]; omega
        · subst hr
          by_cases hb : busyN L = n
          · have HFU : Hid (∀ {z er}, BgK w0 z lp n ext size d (.slice ba L.length bc) L i key er → er = 41 ∧ KW w0 z lp n ext size d (.slice ba L.length bc) L L (i + 1)) := hide fun h => h.full hin ⟨hb, fun u hu e => absurd e (hno u hu)⟩
            have hbB : ((busyN L : Int) == (n : Int)) = true := by rw [hb]; simp
            have hbC : (busyN L == n) = true := by rw [hb]; simp
            clear hb
            generalize busyN L = bn at *
            go_wp2_with (go_at_call 34; refine HBG.out.mono ?_; rintro e z1 ⟨c0, c1, c2, v2, er, rfl, hbg, hos⟩; obtain ⟨her, hk⟩ := HFU.out hbg; subst her; have HZA := hide ((Below.refl z1.heap.size z1).alloc (Nat.le_refl _) (.cells #[.int .i64 c0, .int .i64 c1, .int .i64 c2] 81)); have HZR := hide (OpS.ofBelow HZA.out _ _ (hos _ _ HOX6.out)); have o3 : (z1.alloc (.cells #[.int .i64 c0, .int .i64 c1, .int .i64 c2] 81)).cell? ⟨wr.heap.size, 2, none⟩ = some (.int .i64 key) := cell_of_row _ _ _ _ _ _ HZR.out; obtain ⟨⟨p0, p1⟩, p2, p3⟩ := HBX2.out _ (hk.below HZA.out).be; have HK7 := hide (hk.below HZA.out); clear hbg hos hk HBG)
            go_wp2_with fail
            clear HZA HZR
            generalize (z1.alloc (.cells #[.int .i64 c0, .int .i64 c1, .int .i64 c2] 81)) = x7 at *
            go_quiet (fail)
            have HK8 := hide (HK7.out.below (show Below _ _ (x7.drewN nq) from below_drewN (Below.refl _ _) nq))
            have o4 : (x7.drewN nq).cell? ⟨wr.heap.size, 2, none⟩ = some (.int .i64 key) := (((Qt.refl x7).drewN nq).cell _).trans o3
            clear o3 HK7 p0 p1 p2 p3
            generalize x7.drewN nq = x8 at *
            go_wp2_with (go_at_call 12; refine (HNU.out _ _).mono ?_; rintro e y4 ⟨rfl, hy⟩; subst hy)
            have HK2 := hide HK8.out

            as_aux_lemma =>
              have HLN := hide (HK2.out.len)
              have HGB := hide (HK2.out.gb)
              have HHT := hide (HK2.out.hot)
              go_wp2_with (go_at_call 37; refine (HHT.out).mono ?_; rintro e z ⟨hv, T, rfl, hI, hT1, hT2, hT3, hk⟩; obtain ⟨ha, hc, eh, t1, t2⟩ := rowForm hI; subst eh; have HIR := hide hI; have HT3 := hide hT3; have HK3 := hide hk; obtain ⟨⟨a0, a1⟩, a2, a3⟩ := HBX2.out _ hk.be; have htl : (n < T.length) = False := (eq_false (by omega)); have htl2 : ((n : Int) < (T.length : Int)) = False := (eq_false (by omega)); have hT20 : T.length ≤ 2000 := (by omega); unfold maxLen at t2; clear hI hT1 hT2 hT3 hk HHT)
              have HEQ : Hid (L.length = L.length) := hide rfl
              have HLB : Hid (L.length ≤ 1024) := hide (by have := HLN.out; have := HEQ.out; omega)
              clear HLN
              obtain ⟨ab, cb, eb, l1, l2⟩ := HK3.out.bk.form
              simp only [Value.slice.injEq] at eb
              unfold maxLen at l2
              obtain ⟨rfl, -, rfl⟩ := eb
              have HUB : Hid (∀ k, k < L.length → L[k]? = some (ub L k)) := hide fun k hk => ub_of (by have := HEQ.out; omega)
              have HUM : Hid (∀ k, k < L.length → ub L k ∈ L) := hide fun k hk => List.mem_of_getElem? (ub_of (by have := HEQ.out; omega))
              clear HEQ
              have hlb := HLB.out
              generalize hNL : L.length = NL at *
              clear hNL HLB
              go_loopw [17] (fun x wr => ∃ k : Nat, k ≤ NL ∧ x = .int .i64 (k : Int) ∧ KW w0 wr lp n ext size d (.slice ba NL bc) L L (i + 1) ∧ IR wr (.slice ha T.length hc) T) (fun x _ => NL - (intOf x).toNat)
              case atStart => exact ⟨0, Nat.zero_le _, rfl, HK3.out, HIR.out⟩
              case round =>
                clear HK3 HIR a0 a1 a2 a3
                obtain ⟨k, hkn, rfl, hk, hI⟩ := hrel
                have HK3 := hide hk
                have HIR := hide hI
                clear hk hI
                by_cases hkl : k < NL
                · obtain ⟨g, cap, eg, ⟨s0, s1⟩, s2, -⟩ := HK3.out.at (HUB.out k hkl)
                  simp only [Value.slice.injEq] at eg
                  obtain ⟨rfl, -, rfl⟩ := eg
                  have hgb := HGB.out _ (HUM.out k hkl)
                  have hki : (k : Int) < (NL : Int) := by omega
                  have HRF := hide fun (x2 : World) (hx : KW w0 x2 lp n ext size d (.slice (some ⟨g, 0, none⟩) NL bc) L L (i + 1)) => hx.refs h4 (HUM.out k hkl)
                  have HHS := hide fun (x2 : World) (hx : IR x2 (.slice ha T.length hc) T) => has_any hx hT20 (ub L k).key
                  have HTT : Hid ((ub L k).back < (ub L k).got → decide ((ub L k).key ∈ T) = true) := hide fun hlt => decide_eq_true (HT3.out _ (HUM.out k hkl) hlt)
                  generalize decide ((ub L k).key ∈ T) = inT at *
                  generalize (ub L k).key = kk at *
                  generalize (ub L k).got = gg at *
                  generalize (ub L k).back = bb at *
                  have HKN : Hid (∀ m, KW w0 (wr.drewN m) lp n ext size d (.slice (some ⟨g, 0, none⟩) NL bc) L L (i + 1) ∧ IR (wr.drewN m) (.slice ha T.length hc) T) := hide fun m => ⟨HK3.out.below (below_drewN (Below.refl _ _) m), rowKept HIR.out fun _ _ => by rw [((Qt.refl wr).drewN m).1]⟩
                  by_cases hgt : bb < gg
                  · have hT := HTT.out hgt
                    subst hT
                    obtain ⟨dd, rfl⟩ : ∃ dd, gg = bb + dd := ⟨gg - bb, by omega⟩
                    have hdd : 0 < dd := by omega
                    rw [Nat.add_sub_cancel_left] at HRF
                    have e9 : ((bb + dd : Nat) : Int) - (bb : Int) = (dd : Int) := by omega
                    have e8 : ((bb : Int) + (dd : Int)) - (bb : Int) = (dd : Int) := by omega
                    have e7 : IntKind.i64.wrap (dd : Int) = (dd : Int) := by simp [IntKind.wrap, IntKind.bits, IntKind.signed]; omega
                    clear HTT hgt hgb HK3 HIR
                    go_wp2_with fail
                    go_quiet (fail)
                    have HK4 := hide (HKN.out nq).1
                    have HI4 := hide (HKN.out nq).2
                    have s4 : (wr.drewN nq).cell? ⟨g, k * 4, none⟩ = some (.int .i64 kk) := (((Qt.refl wr).drewN nq).cell _).trans s0
                    clear HKN s0 s1 s2
                    generalize wr.drewN nq = x2 at *
                    have HR4 := hide (HRF.out _ HK4.out)
                    have HH4 := hide (HHS.out _ HI4.out)
                    clear HRF HHS
                    go_wp2_with (first
                      | (go_at_call 38; refine HR4.out.mono ?_; rintro e z3 ⟨rfl, hz⟩; subst hz; clear HR4)
                      | (go_at_call 39; refine HH4.out.mono ?_; rintro e z3 ⟨rfl, hz⟩; subst hz; clear HH4))
                    go_roundw
                    case rel => exact ⟨k + 1, by omega, by go_num, HK4.out, HI4.out⟩
                    case measure => simp [intOf]; omega
                  · have ebg : gg = bb := by omega
                    subst ebg
                    rw [Nat.sub_self] at HRF
                    clear HTT hgt hgb HK3 HIR
                    go_wp2_with fail
                    go_quiet (fail)
                    have HK4 := hide (HKN.out nq).1
                    have HI4 := hide (HKN.out nq).2
                    have s4 : (wr.drewN nq).cell? ⟨g, k * 4, none⟩ = some (.int .i64 kk) := (((Qt.refl wr).drewN nq).cell _).trans s0
                    clear HKN s0 s1 s2
                    generalize wr.drewN nq = x2 at *
                    have HR4 := hide (HRF.out _ HK4.out)
                    have HH4 := hide (HHS.out _ HI4.out)
                    clear HRF HHS
                    go_wp2_with (first
                      | (go_at_call 38; refine HR4.out.mono ?_; rintro e z3 ⟨rfl, hz⟩; subst hz; clear HR4)
                      | (go_at_call 39; refine HH4.out.mono ?_; rintro e z3 ⟨rfl, hz⟩; subst hz; clear HH4))
                    go_roundw
                    case rel => exact ⟨k + 1, by omega, by go_num, HK4.out, HI4.out⟩
                    case measure => simp [intOf]; omega
                · have hkl2 : ¬ (k : Int) < (NL : Int) := by omega
                  go_wp2_with fail
                  go_roundw
                  case rel => exact ⟨i + 1, L, by omega, by go_num, HK3.out⟩
                  case measure => simp [intOf]; omega
          · have HFM : Hid (∀ {z er}, BgK w0 z lp n ext size d (.slice ba L.length bc) L i key er → er = 0 ∧ KW w0 z lp n ext size d (.slice ba L.length bc) L (L ++ [⟨key, 1, 0, 0⟩]) (i + 1)) := hide fun h => ⟨(h.more hin (fun q => hb q.1)).1, (h.more hin (fun q => hb q.1)).2.2 hno⟩
            have HTK := hide fun (x : World) (hx : KW w0 x lp n ext size d (.slice ba L.length bc) L (L ++ [⟨key, 1, 0, 0⟩]) (i + 1)) => took_new (key := key) hx.bk (by omega) hx.be.size hno
            generalize hL2 : L ++ [⟨key, 1, 0, 0⟩] = L2 at *
            clear hL2
            have hbB : ((busyN L : Int) == (n : Int)) = false := by simp; omega
            have hbC : (busyN L == n) = false := by simp; omega
            have hbD : ((busyN L : Int) = (n : Int)) = False := eq_false (by omega)
            clear hb
            generalize busyN L = bn at *
            go_wp2_with (go_at_call 34; refine HBG.out.mono ?_; rintro e z1 ⟨c0, c1, c2, v2, er, rfl, hbg, hos⟩; obtain ⟨her, hk⟩ := HFM.out hbg; subst her; have HZA := hide ((Below.refl z1.heap.size z1).alloc (Nat.le_refl _) (.cells #[.int .i64 c0, .int .i64 c1, .int .i64 c2] 81)); have HZR := hide (OpS.ofBelow HZA.out _ _ (hos _ _ HOX6.out)); have o3 : (z1.alloc (.cells #[.int .i64 c0, .int .i64 c1, .int .i64 c2] 81)).cell? ⟨wr.heap.size, 2, none⟩ = some (.int .i64 key) := cell_of_row _ _ _ _ _ _ HZR.out; obtain ⟨⟨p0, p1⟩, p2, p3⟩ := HBX2.out _ (hk.below HZA.out).be; have HK7 := hide (hk.below HZA.out); clear hbg hos hk HBG)
            go_wp2_with fail
            clear HZA HZR
            generalize (z1.alloc (.cells #[.int .i64 c0, .int .i64 c1, .int .i64 c2] 81)) = x7 at *
            go_quiet (fail)
            have HK8 := hide (HK7.out.below (show Below _ _ (x7.drewN nq) from below_drewN (Below.refl _ _) nq))
            have o4 : (x7.drewN nq).cell? ⟨wr.heap.size, 2, none⟩ = some (.int .i64 key) := (((Qt.refl x7).drewN nq).cell _).trans o3
            clear o3 HK7 p0 p1 p2 p3
            generalize x7.drewN nq = x8 at *
            have HT8 := hide (HTK.out _ HK8.out)
            clear HTK
            go_wp2_with (first
              | (go_at_call 12; refine (HNU.out _ _).mono ?_; rintro e y4 ⟨rfl, hy⟩; subst hy)
              | (go_at_call 35; refine HT8.out.mono ?_; rintro e x9 ⟨v9, rfl, hbk, hch⟩; have HK9 := hide (HK8.out.book hbk hch); obtain ⟨ba2, bc2, eb2, q1, q2⟩ := hbk.form; subst eb2; unfold maxLen at q2; clear hbk hch HT8 HK8))
            have HK2 := hide HK9.out

            as_aux_lemma =>
              have HLN := hide (HK2.out.len)
              have HGB := hide (HK2.out.gb)
              have HHT := hide (HK2.out.hot)
              go_wp2_with (go_at_call 37; refine (HHT.out).mono ?_; rintro e z ⟨hv, T, rfl, hI, hT1, hT2, hT3, hk⟩; obtain ⟨ha, hc, eh, t1, t2⟩ := rowForm hI; subst eh; have HIR := hide hI; have HT3 := hide hT3; have HK3 := hide hk; obtain ⟨⟨a0, a1⟩, a2, a3⟩ := HBX2.out _ hk.be; have htl : (n < T.length) = False := (eq_false (by omega)); have htl2 : ((n : Int) < (T.length : Int)) = False := (eq_false (by omega)); have hT20 : T.length ≤ 2000 := (by omega); unfold maxLen at t2; clear hI hT1 hT2 hT3 hk HHT)
              have HEQ : Hid (L2.length = L2.length) := hide rfl
              have HLB : Hid (L2.length ≤ 1024) := hide (by have := HLN.out; have := HEQ.out; omega)
              clear HLN
              obtain ⟨ab, cb, eb, l1, l2⟩ := HK3.out.bk.form
              simp only [Value.slice.injEq] at eb
              unfold maxLen at l2
              obtain ⟨rfl, -, rfl⟩ := eb
              have HUB : Hid (∀ k, k < L2.length → L2[k]? = some (ub L2 k)) := hide fun k hk => ub_of (by have := HEQ.out; omega)
              have HUM : Hid (∀ k, k < L2.length → ub L2 k ∈ L2) := hide fun k hk => List.mem_of_getElem? (ub_of (by have := HEQ.out; omega))
              clear HEQ
              have hlb := HLB.out
              generalize hNL : L2.length = NL at *
              clear hNL HLB
              go_loopw [17] (fun x wr => ∃ k : Nat, k ≤ NL ∧ x = .int .i64 (k : Int) ∧ KW w0 wr lp n ext size d (.slice ba2 NL bc2) L2 L2 (i + 1) ∧ IR wr (.slice ha T.length hc) T) (fun x _ => NL - (intOf x).toNat)
              case atStart => exact ⟨0, Nat.zero_le _, rfl, HK3.out, HIR.out⟩
              case round =>
                clear HK3 HIR a0 a1 a2 a3
                obtain ⟨k, hkn, rfl, hk, hI⟩ := hrel
                have HK3 := hide hk
                have HIR := hide hI
                clear hk hI
                by_cases hkl : k < NL
                · obtain ⟨g, cap, eg, ⟨s0, s1⟩, s2, -⟩ := HK3.out.at (HUB.out k hkl)
                  simp only [Value.slice.injEq] at eg
                  obtain ⟨rfl, -, rfl⟩ := eg
                  have hgb := HGB.out _ (HUM.out k hkl)
                  have hki : (k : Int) < (NL : Int) := by omega
                  have HRF := hide fun (x2 : World) (hx : KW w0 x2 lp n ext size d (.slice (some ⟨g, 0, none⟩) NL bc2) L2 L2 (i + 1)) => hx.refs h4 (HUM.out k hkl)
                  have HHS := hide fun (x2 : World) (hx : IR x2 (.slice ha T.length hc) T) => has_any hx hT20 (ub L2 k).key
                  have HTT : Hid ((ub L2 k).back < (ub L2 k).got → decide ((ub L2 k).key ∈ T) = true) := hide fun hlt => decide_eq_true (HT3.out _ (HUM.out k hkl) hlt)
                  generalize decide ((ub L2 k).key ∈ T) = inT at *
                  generalize (ub L2 k).key = kk at *
                  generalize (ub L2 k).got = gg at *
                  generalize (ub L2 k).back = bb at *
                  have HKN : Hid (∀ m, KW w0 (wr.drewN m) lp n ext size d (.slice (some ⟨g, 0, none⟩) NL bc2) L2 L2 (i + 1) ∧ IR (wr.drewN m) (.slice ha T.length hc) T) := hide fun m => ⟨HK3.out.below (below_drewN (Below.refl _ _) m), rowKept HIR.out fun _ _ => by rw [((Qt.refl wr).drewN m).1]⟩
                  by_cases hgt : bb < gg
                  · have hT := HTT.out hgt
                    subst hT
                    obtain ⟨dd, rfl⟩ : ∃ dd, gg = bb + dd := ⟨gg - bb, by omega⟩
                    have hdd : 0 < dd := by omega
                    rw [Nat.add_sub_cancel_left] at HRF
                    have e9 : ((bb + dd : Nat) : Int) - (bb : Int) = (dd : Int) := by omega
                    have e8 : ((bb : Int) + (dd : Int)) - (bb : Int) = (dd : Int) := by omega
                    have e7 : IntKind.i64.wrap (dd : Int) = (dd : Int) := by simp [IntKind.wrap, IntKind.bits, IntKind.signed]; omega
                    clear HTT hgt hgb HK3 HIR
                    go_wp2_with fail
                    go_quiet (fail)
                    have HK4 := hide (HKN.out nq).1
                    have HI4 := hide (HKN.out nq).2
                    have s4 : (wr.drewN nq).cell? ⟨g, k * 4, none⟩ = some (.int .i64 kk) := (((Qt.refl wr).drewN nq).cell _).trans s0
                    clear HKN s0 s1 s2
                    generalize wr.drewN nq = x2 at *
                    have HR4 := hide (HRF.out _ HK4.out)
                    have HH4 := hide (HHS.out _ HI4.out)
                    clear HRF HHS
                    go_wp2_with (first
                      | (go_at_call 38; refine HR4.out.mono ?_; rintro e z3 ⟨rfl, hz⟩; subst hz; clear HR4)
                      | (go_at_call 39; refine HH4.out.mono ?_; rintro e z3 ⟨rfl, hz⟩; subst hz; clear HH4))
                    go_roundw
                    case rel => exact ⟨k + 1, by omega, by go_num, HK4.out, HI4.out⟩
                    case measure => simp [intOf]; omega
                  · have ebg : gg = bb := by omega
                    subst ebg
                    rw [Nat.sub_self] at HRF
                    clear HTT hgt hgb HK3 HIR
                    go_wp2_with fail
                    go_quiet (fail)
                    have HK4 := hide (HKN.out nq).1
                    have HI4 := hide (HKN.out nq).2
                    have s4 : (wr.drewN nq).cell? ⟨g, k * 4, none⟩ = some (.int .i64 kk) := (((Qt.refl wr).drewN nq).cell _).trans s0
                    clear HKN s0 s1 s2
                    generalize wr.drewN nq = x2 at *
                    have HR4 := hide (HRF.out _ HK4.out)
                    have HH4 := hide (HHS.out _ HI4.out)
                    clear HRF HHS
                    go_wp2_with (first
                      | (go_at_call 38; refine HR4.out.mono ?_; rintro e z3 ⟨rfl, hz⟩; subst hz; clear HR4)
                      | (go_at_call 39; refine HH4.out.mono ?_; rintro e z3 ⟨rfl, hz⟩; subst hz; clear HH4))
                    go_roundw
                    case rel => exact ⟨k + 1, by omega, by go_num, HK4.out, HI4.out⟩
                    case measure => simp [intOf]; omega
                · have hkl2 : ¬ (k : Int) < (NL : Int) := by omega
                  go_wp2_with fail
                  go_roundw
                  case rel => exact ⟨i + 1, L2, by omega, by go_num, HK3.out⟩
                  case measure => simp [intOf]; omega
      by_cases hk1 : kind = 1
      · subst hk1
        obtain ⟨ba, bc, eb, b1, b2⟩ := HK1.out.bk.form
        subst eb
        unfold maxLen at b2
        have HEN := hide (HK1.out.end_ (by omega) HKO.out)
        clear HK hk0
        go_wp2_with (go_at_call 13; refine HF.out.mono ?_; rintro e y5 ⟨r, rfl, hy, hfr⟩; have HFR := hide hfr; subst hy; clear HF hfr)
        go_wp2_with (go_at_call 36; refine HEN.out.mono ?_; rintro e z1 ⟨er, rfl, hos, hcase⟩; have HZO := hide (hos _ _ HOX.out); have HCA := hide hcase; clear hos hcase HEN)
        have o2 : z1.cell? ⟨wr.heap.size, 2, none⟩ = some (.int .i64 key) := cell_of_row _ _ _ _ _ _ HZO.out
        rcases HCA.out with ⟨hne, hk⟩ | ⟨her, j, u, hj, hu, hlu, hk⟩
        · have HK2 := hide hk
          have hb : (er == 0) = false := by simpa using hne
          clear hne hk HCA
          go_wp2_with (go_at_call 12; refine (HNU.out _ _).mono ?_; rintro e y4 ⟨rfl, hy⟩; subst hy)
          as_aux_lemma =>
            have HLN := hide (HK2.out.len)
            have HGB := hide (HK2.out.gb)
            have HHT := hide (HK2.out.hot)
            go_wp2_with (go_at_call 37; refine (HHT.out).mono ?_; rintro e z ⟨hv, T, rfl, hI, hT1, hT2, hT3, hk⟩; obtain ⟨ha, hc, eh, t1, t2⟩ := rowForm hI; subst eh; have HIR := hide hI; have HT3 := hide hT3; have HK3 := hide hk; obtain ⟨⟨a0, a1⟩, a2, a3⟩ := HBX2.out _ hk.be; have htl : (n < T.length) = False := (eq_false (by omega)); have htl2 : ((n : Int) < (T.length : Int)) = False := (eq_false (by omega)); have hT20 : T.length ≤ 2000 := (by omega); unfold maxLen at t2; clear hI hT1 hT2 hT3 hk HHT)
            have HEQ : Hid (L.length = L.length) := hide rfl
            have HLB : Hid (L.length ≤ 1024) := hide (by have := HLN.out; have := HEQ.out; omega)
            clear HLN
            obtain ⟨ab, cb, eb, l1, l2⟩ := HK3.out.bk.form
            simp only [Value.slice.injEq] at eb
            unfold maxLen at l2
            obtain ⟨rfl, -, rfl⟩ := eb
            have HUB : Hid (∀ k, k < L.length → L[k]? = some (ub L k)) := hide fun k hk => ub_of (by have := HEQ.out; omega)
            have HUM : Hid (∀ k, k < L.length → ub L k ∈ L) := hide fun k hk => List.mem_of_getElem? (ub_of (by have := HEQ.out; omega))
            clear HEQ
            have hlb := HLB.out
            generalize hNL : L.length = NL at *
            clear hNL HLB
            go_loopw [17] (fun x wr => ∃ k : Nat, k ≤ NL ∧ x = .int .i64 (k : Int) ∧ KW w0 wr lp n ext size d (.slice ba NL bc) L L (i + 1) ∧ IR wr (.slice ha T.length hc) T) (fun x _ => NL - (intOf x).toNat)
            case atStart => exact ⟨0, Nat.zero_le _, rfl, HK3.out, HIR.out⟩
            case round =>
              clear HK3 HIR a0 a1 a2 a3
              obtain ⟨k, hkn, rfl, hk, hI⟩ := hrel
              have HK3 := hide hk
              have HIR := hide hI
              clear hk hI
              by_cases hkl : k < NL
              · obtain ⟨g, cap, eg, ⟨s0, s1⟩, s2, -⟩ := HK3.out.at (HUB.out k hkl)
                simp only [Value.slice.injEq] at eg
                obtain ⟨rfl, -, rfl⟩ := eg
                have hgb := HGB.out _ (HUM.out k hkl)
                have hki : (k : Int) < (NL : Int) := by omega
                have HRF := hide fun (x2 : World) (hx : KW w0 x2 lp n ext size d (.slice (some ⟨g, 0, none⟩) NL bc) L L (i + 1)) => hx.refs h4 (HUM.out k hkl)
                have HHS := hide fun (x2 : World) (hx : IR x2 (.slice ha T.length hc) T) => has_any hx hT20 (ub L k).key
                have HTT : Hid ((ub L k).back < (ub L k).got → decide ((ub L k).key ∈ T) = true) := hide fun hlt => decide_eq_true (HT3.out _ (HUM.out k hkl) hlt)
                generalize decide ((ub L k).key ∈ T) = inT at *
                generalize (ub L k).key = kk at *
                generalize (ub L k).got = gg at *
                generalize (ub L k).back = bb at *
                have HKN : Hid (∀ m, KW w0 (wr.drewN m) lp n ext size d (.slice (some ⟨g, 0, none⟩) NL bc) L L (i + 1) ∧ IR (wr.drewN m) (.slice ha T.length hc) T) := hide fun m => ⟨HK3.out.below (below_drewN (Below.refl _ _) m), rowKept HIR.out fun _ _ => by rw [((Qt.refl wr).drewN m).1]⟩
                by_cases hgt : bb < gg
                · have hT := HTT.out hgt
                  subst hT
                  obtain ⟨dd, rfl⟩ : ∃ dd, gg = bb + dd := ⟨gg - bb, by omega⟩
                  have hdd : 0 < dd := by omega
                  rw [Nat.add_sub_cancel_left] at HRF
                  have e9 : ((bb + dd : Nat) : Int) - (bb : Int) = (dd : Int) := by omega
                  have e8 : ((bb : Int) + (dd : Int)) - (bb : Int) = (dd : Int) := by omega
                  have e7 : IntKind.i64.wrap (dd : Int) = (dd : Int) := by simp [IntKind.wrap, IntKind.bits, IntKind.signed]; omega
                  clear HTT hgt hgb HK3 HIR
                  go_wp2_with fail
                  go_quiet (fail)
                  have HK4 := hide (HKN.out nq).1
                  have HI4 := hide (HKN.out nq).2
                  have s4 : (wr.drewN nq).cell? ⟨g, k * 4, none⟩ = some (.int .i64 kk) := (((Qt.refl wr).drewN nq).cell _).trans s0
                  clear HKN s0 s1 s2
                  generalize wr.drewN nq = x2 at *
                  have HR4 := hide (HRF.out _ HK4.out)
                  have HH4 := hide (HHS.out _ HI4.out)
                  clear HRF HHS
                  go_wp2_with (first
                    | (go_at_call 38; refine HR4.out.mono ?_; rintro e z3 ⟨rfl, hz⟩; subst hz; clear HR4)
                    | (go_at_call 39; refine HH4.out.mono ?_; rintro e z3 ⟨rfl, hz⟩; subst hz; clear HH4))
                  go_roundw
                  case rel => exact ⟨k + 1, by omega, by go_num, HK4.out, HI4.out⟩
                  case measure => simp [intOf]; omega
                · have ebg : gg = bb := by omega
                  subst ebg
                  rw [Nat.sub_self] at HRF
                  clear HTT hgt hgb HK3 HIR
                  go_wp2_with fail
                  go_quiet (fail)
                  have HK4 := hide (HKN.out nq).1
                  have HI4 := hide (HKN.out nq).2
                  have s4 : (wr.drewN nq).cell? ⟨g, k * 4, none⟩ = some (.int .i64 kk) := (((Qt.refl wr).drewN nq).cell _).trans s0
                  clear HKN s0 s1 s2
                  generalize wr.drewN nq = x2 at *
                  have HR4 := hide (HRF.out _ HK4.out)
                  have HH4 := hide (HHS.out _ HI4.out)
                  clear HRF HHS
                  go_wp2_with (first
                    | (go_at_call 38; refine HR4.out.mono ?_; rintro e z3 ⟨rfl, hz⟩; subst hz; clear HR4)
                    | (go_at_call 39; refine HH4.out.mono ?_; rintro e z3 ⟨rfl, hz⟩; subst hz; clear HH4))
                  go_roundw
                  case rel => exact ⟨k + 1, by omega, by go_num, HK4.out, HI4.out⟩
                  case measure => simp [intOf]; omega
              · have hkl2 : ¬ (k : Int) < (NL : Int) := by omega
                go_wp2_with fail
                go_roundw
                case rel => exact ⟨i + 1, L, by omega, by go_num, HK3.out⟩
                case measure => simp [intOf]; omega
        · subst her
          have hrj : r = (j : Int) := by
            rcases HFR.out with ⟨i', v', q1, q2, rfl⟩ | ⟨q1, -⟩
            · rw [HK1.out.uniq q1 hj (by rw [q2, hu])]
            · exact absurd hu (q1 u (List.mem_of_getElem? hj))
          subst hrj
          have hjl := (List.getElem?_eq_some_iff.1 hj).1
          obtain ⟨g9, cap9, e9, ⟨s0, s1⟩, s2, f2⟩ := hk.at hj
          simp only [Value.slice.injEq] at e9
          obtain ⟨rfl, -, rfl⟩ := e9
          have hgot := HK1.out.gb u (List.mem_of_getElem? hj)
          have HBK := hide fun (x : World) (h : KW w0 x lp n ext size d (.slice (some ⟨g9, 0, none⟩) L.length bc) L (L.set j { u with back := u.back + 1 }) (i + 1)) => h.back hj
          have HKA := hide hk
          have HSL : Hid ((L.set j { u with back := u.back + 1 }).length = L.length) := hide (List.length_set ..)
          generalize L.set j { u with back := u.back + 1 } = L2 at *
          have hnb : ((u.got : Int) == (u.back : Int)) = false := by simp; omega
          have hnc : (u.got == u.back) = false := by simp; omega
          have hj0 : ((j : Int) < 0) = False := by simp
          have hj1 : (j : Int) < (L.length : Int) := by omega
          have hw9 : IntKind.i64.wrap ((u.back : Int) + 1) = (u.back : Int) + 1 := by simp [IntKind.wrap, IntKind.bits, IntKind.signed]; omega
          clear hk hj hu HCA HFR hgot
          generalize u.got = gg9 at *
          generalize u.back = bb9 at *
          generalize L.length = N9 at *
          go_wp2_with (go_at_call 12; refine (HNU.out _ _).mono ?_; rintro e y4 ⟨rfl, hy⟩; subst hy)
          go_quiet (fail)
          have HK5 := hide (HKA.out.below (show Below _ _ (y4.drewN nq) from below_drewN (Below.refl _ _) nq))
          have t2' : (y4.drewN nq).cell? ⟨g9, j * 4 + 2, none⟩ = some (.int .i64 (bb9 : Int)) := (((Qt.refl y4).drewN nq).cell _).trans s2
          have t1' : (y4.drewN nq).cell? ⟨g9, j * 4 + 1, none⟩ = some (.int .i64 (gg9 : Int)) := (((Qt.refl y4).drewN nq).cell _).trans s1
          have tf' : (y4.drewN nq).frozen? ⟨g9, j * 4 + 2, none⟩ = false := (World.frozen?_of_block (by rw [((Qt.refl y4).drewN nq).1])).trans f2
          clear s0 s1 s2 f2 HKA o2 HZO
          generalize y4.drewN nq = x5 at *
          have HK2 := hide (HBK.out _ HK5.out)
          clear HBK HK5
          as_aux_lemma =>
            have HLN := hide (HK2.out.len)
            have HGB := hide (HK2.out.gb)
            have HHT := hide (HK2.out.hot)
            go_wp2_with (go_at_call 37; refine (HHT.out).mono ?_; rintro e z ⟨hv, T, rfl, hI, hT1, hT2, hT3, hk⟩; obtain ⟨ha, hc, eh, t1, t2⟩ := rowForm hI; subst eh; have HIR := hide hI; have HT3 := hide hT3; have HK3 := hide hk; obtain ⟨⟨a0, a1⟩, a2, a3⟩ := HBX2.out _ hk.be; have htl : (n < T.length) = False := (eq_false (by omega)); have htl2 : ((n : Int) < (T.length : Int)) = False := (eq_false (by omega)); have hT20 : T.length ≤ 2000 := (by omega); unfold maxLen at t2; clear hI hT1 hT2 hT3 hk HHT)
            have HEQ : Hid (L2.length = N9) := hide HSL.out
            have HLB : Hid (N9 ≤ 1024) := hide (by have := HLN.out; have := HEQ.out; omega)
            clear HLN
            obtain ⟨ab, cb, eb, l1, l2⟩ := HK3.out.bk.form
            simp only [Value.slice.injEq] at eb
            unfold maxLen at l2
            obtain ⟨rfl, -, rfl⟩ := eb
            have HUB : Hid (∀ k, k < N9 → L2[k]? = some (ub L2 k)) := hide fun k hk => ub_of (by have := HEQ.out; omega)
            have HUM : Hid (∀ k, k < N9 → ub L2 k ∈ L2) := hide fun k hk => List.mem_of_getElem? (ub_of (by have := HEQ.out; omega))
            clear HEQ
            have hlb := HLB.out
            generalize hNL : N9 = NL at *
            clear hNL HLB
            go_loopw [17] (fun x wr => ∃ k : Nat, k ≤ NL ∧ x = .int .i64 (k : Int) ∧ KW w0 wr lp n ext size d (.slice (some ⟨g9, 0, none⟩) NL bc) L2 L2 (i + 1) ∧ IR wr (.slice ha T.length hc) T) (fun x _ => NL - (intOf x).toNat)
            case atStart => exact ⟨0, Nat.zero_le _, rfl, HK3.out, HIR.out⟩
            case round =>
              clear HK3 HIR a0 a1 a2 a3
              obtain ⟨k, hkn, rfl, hk, hI⟩ := hrel
              have HK3 := hide hk
              have HIR := hide hI
              clear hk hI
              by_cases hkl : k < NL
              · obtain ⟨g, cap, eg, ⟨s0, s1⟩, s2, -⟩ := HK3.out.at (HUB.out k hkl)
                simp only [Value.slice.injEq, Option.some.injEq, Addr.mk.injEq] at eg
                obtain ⟨⟨rfl, -, -⟩, -, rfl⟩ := eg
                have hgb := HGB.out _ (HUM.out k hkl)
                have hki : (k : Int) < (NL : Int) := by omega
                have HRF := hide fun (x2 : World) (hx : KW w0 x2 lp n ext size d (.slice (some ⟨g9, 0, none⟩) NL bc) L2 L2 (i + 1)) => hx.refs h4 (HUM.out k hkl)
                have HHS := hide fun (x2 : World) (hx : IR x2 (.slice ha T.length hc) T) => has_any hx hT20 (ub L2 k).key
                have HTT : Hid ((ub L2 k).back < (ub L2 k).got → decide ((ub L2 k).key ∈ T) = true) := hide fun hlt => decide_eq_true (HT3.out _ (HUM.out k hkl) hlt)
                generalize decide ((ub L2 k).key ∈ T) = inT at *
                generalize (ub L2 k).key = kk at *
                generalize (ub L2 k).got = gg at *
                generalize (ub L2 k).back = bb at *
                have HKN : Hid (∀ m, KW w0 (wr.drewN m) lp n ext size d (.slice (some ⟨g9, 0, none⟩) NL bc) L2 L2 (i + 1) ∧ IR (wr.drewN m) (.slice ha T.length hc) T) := hide fun m => ⟨HK3.out.below (below_drewN (Below.refl _ _) m), rowKept HIR.out fun _ _ => by rw [((Qt.refl wr).drewN m).1]⟩
                by_cases hgt : bb < gg
                · have hT := HTT.out hgt
                  subst hT
                  obtain ⟨dd, rfl⟩ : ∃ dd, gg = bb + dd := ⟨gg - bb, by omega⟩
                  have hdd : 0 < dd := by omega
                  rw [Nat.add_sub_cancel_left] at HRF
                  have e9 : ((bb + dd : Nat) : Int) - (bb : Int) = (dd : Int) := by omega
                  have e8 : ((bb : Int) + (dd : Int)) - (bb : Int) = (dd : Int) := by omega
                  have e7 : IntKind.i64.wrap (dd : Int) = (dd : Int) := by simp [IntKind.wrap, IntKind.bits, IntKind.signed]; omega
                  clear HTT hgt hgb HK3 HIR
                  go_wp2_with fail
                  go_quiet (fail)
                  have HK4 := hide (HKN.out nq).1
                  have HI4 := hide (HKN.out nq).2
                  have s4 : (wr.drewN nq).cell? ⟨g9, k * 4, none⟩ = some (.int .i64 kk) := (((Qt.refl wr).drewN nq).cell _).trans s0
                  clear HKN s0 s1 s2
                  generalize wr.drewN nq = x2 at *
                  have HR4 := hide (HRF.out _ HK4.out)
                  have HH4 := hide (HHS.out _ HI4.out)
                  clear HRF HHS
                  go_wp2_with (first
                    | (go_at_call 38; refine HR4.out.mono ?_; rintro e z3 ⟨rfl, hz⟩; subst hz; clear HR4)
                    | (go_at_call 39; refine HH4.out.mono ?_; rintro e z3 ⟨rfl, hz⟩; subst hz; clear HH4))
                  go_roundw
                  case rel => exact ⟨k + 1, by omega, by go_num, HK4.out, HI4.out⟩
                  case measure => simp [intOf]; omega
                · have ebg : gg = bb := by omega
                  subst ebg
                  rw [Nat.sub_self] at HRF
                  clear HTT hgt hgb HK3 HIR
                  go_wp2_with fail
                  go_quiet (fail)
                  have HK4 := hide (HKN.out nq).1
                  have HI4 := hide (HKN.out nq).2
                  have s4 : (wr.drewN nq).cell? ⟨g9, k * 4, none⟩ = some (.int .i64 kk) := (((Qt.refl wr).drewN nq).cell _).trans s0
                  clear HKN s0 s1 s2
                  generalize wr.drewN nq = x2 at *
                  have HR4 := hide (HRF.out _ HK4.out)
                  have HH4 := hide (HHS.out _ HI4.out)
                  clear HRF HHS
                  go_wp2_with (first
                    | (go_at_call 38; refine HR4.out.mono ?_; rintro e z3 ⟨rfl, hz⟩; subst hz; clear HR4)
                    | (go_at_call 39; refine HH4.out.mono ?_; rintro e z3 ⟨rfl, hz⟩; subst hz; clear HH4))
                  go_roundw
                  case rel => exact ⟨k + 1, by omega, by go_num, HK4.out, HI4.out⟩
                  case measure => simp [intOf]; omega
              · have hkl2 : ¬ (k : Int) < (NL : Int) := by omega
                go_wp2_with fail
                go_roundw
                case rel => exact ⟨i + 1, L2, by omega, by go_num, HK3.out⟩
                case measure => simp [intOf]; omega
      have k0 : (kind == 0) = false := by simpa using hk0
      have k1 : (kind == 1) = false := by simpa using hk1
      have HK2 := hide HK1.out.next
      obtain ⟨ba, bc, eb, b1, b2⟩ := HK2.out.bk.form
      subst eb
      unfold maxLen at b2
      clear hk0 hk1 HK
      go_wp2_with (go_at_call 13; refine HF.out.mono ?_; rintro e y5 ⟨r, rfl, hy, -⟩; subst hy; clear HF)

      as_aux_lemma =>
        have HLN := hide (HK2.out.len)
        have HGB := hide (HK2.out.gb)
        have HHT := hide (HK2.out.hot)
        go_wp2_with (go_at_call 37; refine (HHT.out).mono ?_; rintro e z ⟨hv, T, rfl, hI, hT1, hT2, hT3, hk⟩; obtain ⟨ha, hc, eh, t1, t2⟩ := rowForm hI; subst eh; have HIR := hide hI; have HT3 := hide hT3; have HK3 := hide hk; obtain ⟨⟨a0, a1⟩, a2, a3⟩ := HBX2.out _ hk.be; have htl : (n < T.length) = False := (eq_false (by omega)); have htl2 : ((n : Int) < (T.length : Int)) = False := (eq_false (by omega)); have hT20 : T.length ≤ 2000 := (by omega); unfold maxLen at t2; clear hI hT1 hT2 hT3 hk HHT)
        have HEQ : Hid (L.length = L.length) := hide rfl
        have HLB : Hid (L.length ≤ 1024) := hide (by have := HLN.out; have := HEQ.out; omega)
        clear HLN
        obtain ⟨ab, cb, eb, l1, l2⟩ := HK3.out.bk.form
        simp only [Value.slice.injEq] at eb
        unfold maxLen at l2
        obtain ⟨rfl, -, rfl⟩ := eb
        have HUB : Hid (∀ k, k < L.length → L[k]? = some (ub L k)) := hide fun k hk => ub_of (by have := HEQ.out; omega)
        have HUM : Hid (∀ k, k < L.length → ub L k ∈ L) := hide fun k hk => List.mem_of_getElem? (ub_of (by have := HEQ.out; omega))
        clear HEQ
        have hlb := HLB.out
        generalize hNL : L.length = NL at *
        clear hNL HLB
        go_loopw [17] (fun x wr => ∃ k : Nat, k ≤ NL ∧ x = .int .i64 (k : Int) ∧ KW w0 wr lp n ext size d (.slice ba NL bc) L L (i + 1) ∧ IR wr (.slice ha T.length hc) T) (fun x _ => NL - (intOf x).toNat)
        case atStart => exact ⟨0, Nat.zero_le _, rfl, HK3.out, HIR.out⟩
        case round =>
          clear HK3 HIR a0 a1 a2 a3
          obtain ⟨k, hkn, rfl, hk, hI⟩ := hrel
          have HK3 := hide hk
          have HIR := hide hI
          clear hk hI
          by_cases hkl : k < NL
          · obtain ⟨g, cap, eg, ⟨s0, s1⟩, s2, -⟩ := HK3.out.at (HUB.out k hkl)
            simp only [Value.slice.injEq] at eg
            obtain ⟨rfl, -, rfl⟩ := eg
            have hgb := HGB.out _ (HUM.out k hkl)
            have hki : (k : Int) < (NL : Int) := by omega
            have HRF := hide fun (x2 : World) (hx : KW w0 x2 lp n ext size d (.slice (some ⟨g, 0, none⟩) NL bc) L L (i + 1)) => hx.refs h4 (HUM.out k hkl)
            have HHS := hide fun (x2 : World) (hx : IR x2 (.slice ha T.length hc) T) => has_any hx hT20 (ub L k).key
            have HTT : Hid ((ub L k).back < (ub L k).got → decide ((ub L k).key ∈ T) = true) := hide fun hlt => decide_eq_true (HT3.out _ (HUM.out k hkl) hlt)
            generalize decide ((ub L k).key ∈ T) = inT at *
            generalize (ub L k).key = kk at *
            generalize (ub L k).got = gg at *
            generalize (ub L k).back = bb at *
            have HKN : Hid (∀ m, KW w0 (wr.drewN m) lp n ext size d (.slice (some ⟨g, 0, none⟩) NL bc) L L (i + 1) ∧ IR (wr.drewN m) (.slice ha T.length hc) T) := hide fun m => ⟨HK3.out.below (below_drewN (Below.refl _ _) m), rowKept HIR.out fun _ _ => by rw [((Qt.refl wr).drewN m).1]⟩
            by_cases hgt : bb < gg
            · have hT := HTT.out hgt
              subst hT
              obtain ⟨dd, rfl⟩ : ∃ dd, gg = bb + dd := ⟨gg - bb, by omega⟩
              have hdd : 0 < dd := by omega
              rw [Nat.add_sub_cancel_left] at HRF
              have e9 : ((bb + dd : Nat) : Int) - (bb : Int) = (dd : Int) := by omega
              have e8 : ((bb : Int) + (dd : Int)) - (bb : Int) = (dd : Int) := by omega
              have e7 : IntKind.i64.wrap (dd : Int) = (dd : Int) := by simp [IntKind.wrap, IntKind.bits, IntKind.signed]; omega
              clear HTT hgt hgb HK3 HIR
              go_wp2_with fail
              go_quiet (fail)
              have HK4 := hide (HKN.out nq).1
              have HI4 := hide (HKN.out nq).2
              have s4 : (wr.drewN nq).cell? ⟨g, k * 4, none⟩ = some (.int .i64 kk) := (((Qt.refl wr).drewN nq).cell _).trans s0
              clear HKN s0 s1 s2
              generalize wr.drewN nq = x2 at *
              have HR4 := hide (HRF.out _ HK4.out)
              have HH4 := hide (HHS.out _ HI4.out)
              clear HRF HHS
              go_wp2_with (first
                | (go_at_call 38; refine HR4.out.mono ?_; rintro e z3 ⟨rfl, hz⟩; subst hz; clear HR4)
                | (go_at_call 39; refine HH4.out.mono ?_; rintro e z3 ⟨rfl, hz⟩; subst hz; clear HH4))
              go_roundw
              case rel => exact ⟨k + 1, by omega, by go_num, HK4.out, HI4.out⟩
              case measure => simp [intOf]; omega
            · have ebg : gg = bb := by omega
              subst ebg
              rw [Nat.sub_self] at HRF
              clear HTT hgt hgb HK3 HIR
              go_wp2_with fail
              go_quiet (fail)
              have HK4 := hide (HKN.out nq).1
              have HI4 := hide (HKN.out nq).2
              have s4 : (wr.drewN nq).cell? ⟨g, k * 4, none⟩ = some (.int .i64 kk) := (((Qt.refl wr).drewN nq).cell _).trans s0
              clear HKN s0 s1 s2
              generalize wr.drewN nq = x2 at *
              have HR4 := hide (HRF.out _ HK4.out)
              have HH4 := hide (HHS.out _ HI4.out)
              clear HRF HHS
              go_wp2_with (first
                | (go_at_call 38; refine HR4.out.mono ?_; rintro e z3 ⟨rfl, hz⟩; subst hz; clear HR4)
                | (go_at_call 39; refine HH4.out.mono ?_; rintro e z3 ⟨rfl, hz⟩; subst hz; clear HH4))
              go_roundw
              case rel => exact ⟨k + 1, by omega, by go_num, HK4.out, HI4.out⟩
              case measure => simp [intOf]; omega
          · have hkl2 : ¬ (k : Int) < (NL : Int) := by omega
            go_wp2_with fail
            go_roundw
            case rel => exact ⟨i + 1, L, by omega, by go_num, HK3.out⟩
            case measure => simp [intOf]; omega
    · have hnl : ¬ (i : Int) < (N : Int) := by omega
      go_wp2_with fail
      go_ret
      exact ⟨rfl, HFB2.out _ HK.out.be⟩
end Go.Proofs.Ytafjldmfghokaaa
