import Derived.Test.YtlpmpicmpklaoaaDBarM
namespace Go.Proofs.Ytlpmpicmpklaoaa
open Go.RowKit Go.Maps Go.Sort
set_option linter.unusedVariables false
set_option linter.unusedSimpArgs false
set_option maxRecDepth 20000

theorem SeenAt.valsAt {w : World} {U : Nat → Prop} {a1 : Option Addr} {n1 c1 : Nat} {ev : Value} {xs : List (Option (List Nat))} {es : List Int} (h : SeenAt w U (.slice a1 n1 c1) ev xs es) (h0 : 0 < xs.length) :
    ∃ g, a1 = some ⟨g, 0, none⟩ ∧ n1 = xs.length ∧ n1 ≤ c1 ∧ c1 ≤ maxLen ∧ ∀ k (hk : k < xs.length), ∃ u, w.cell? ⟨g, k, none⟩ = some u ∧ SeenV w U u xs[k] := by
  obtain ⟨vs, ho, hvs⟩ := h.vals
  obtain ⟨g, cap, e, h1, h2, h3⟩ := row_form ho (by omega)
  simp only [Value.slice.injEq] at e
  obtain ⟨rfl, rfl, rfl⟩ := e
  have hl : vs.length = xs.length := by have := ho.1; omega
  refine ⟨g, rfl, rfl, h1, h2, fun k hk => ?_⟩
  have y : vs[k]? = some vs[k] := List.getElem?_eq_getElem (by omega)
  exact ⟨vs[k], h3 k _ y, hvs k _ _ y (List.getElem?_eq_getElem hk)⟩
theorem SeenAt.intsAt {w : World} {U : Nat → Prop} {bv : Value} {a1 : Option Addr} {n1 c1 : Nat} {xs : List (Option (List Nat))} {es : List Int} (h : SeenAt w U bv (.slice a1 n1 c1) xs es) (h0 : 0 < xs.length) :
    ∃ g, a1 = some ⟨g, 0, none⟩ ∧ n1 = xs.length ∧ n1 ≤ c1 ∧ c1 ≤ maxLen ∧ ∀ k (hk : k < xs.length), w.cell? ⟨g, k, none⟩ = some (.int .i64 (es.getD k 0)) := by
  have hi := h.ints
  obtain ⟨g, cap, e, h1, h2, h3⟩ := row_form hi (by omega)
  simp only [Value.slice.injEq] at e
  obtain ⟨rfl, rfl, rfl⟩ := e
  have hle := h.len
  refine ⟨g, rfl, rfl, h1, h2, fun k hk => h3 k _ ?_⟩
  rw [List.getElem?_map, getD_get 0 (by omega)]; rfl
/-- what 'seen' told of a disk, block by block -/
theorem SeenIn.both {w : World} {U : Nat → Prop} {G : Nat} {x1 x4 : Option Addr} {x2 x3 x5 x6 : Nat} {V : St} {nb : Nat} (h : SeenIn w U G (.slice x1 x2 x3) (.slice x4 x5 x6) ((List.range nb).map V.rdV) ((List.range nb).map V.rdE)) (hn : 1 ≤ nb) :
    ∃ g g', x1 = some ⟨g, 0, none⟩ ∧ x2 = nb ∧ x2 ≤ x3 ∧ x3 ≤ maxLen ∧ x4 = some ⟨g', 0, none⟩ ∧ x5 = nb ∧ x5 ≤ x6 ∧ x6 ≤ maxLen ∧
      w.cell? ⟨G, 0, none⟩ = some (.slice x1 x2 x3) ∧ w.cell? ⟨G, 1, none⟩ = some (.slice x4 x5 x6) ∧
      ∀ k, k < nb → ∃ u, w.cell? ⟨g, k, none⟩ = some u ∧ SeenV w U u (V.rdV k) ∧ w.cell? ⟨g', k, none⟩ = some (.int .i64 (V.rdE k)) := by
  obtain ⟨g, a1, a2, a3, a4, a5⟩ := h.sa.valsAt (by simp; omega)
  obtain ⟨g', b1, b2, b3, b4, b5⟩ := h.sa.intsAt (by simp; omega)
  simp only [List.length_map, List.length_range] at a2 a5 b2 b5
  refine ⟨g, g', a1, a2, a3, a4, b1, b2, b3, b4, by rw [cell_of_row _ _ _ _ _ _ h.at_]; rfl, by rw [cell_of_row _ _ _ _ _ _ h.at_]; rfl, fun k hk => ?_⟩
  obtain ⟨u, hu, hs⟩ := a5 k hk
  have hi := b5 k hk
  refine ⟨u, hu, ?_, ?_⟩
  · simpa using hs
  · rw [hi]
    simp [List.getD, hk]
theorem bytes_gen (sz : Nat) (hsz : sz = 128 ∨ sz = 256 ∨ sz = 512 ∨ sz = 1024) (x : Int) (tv : Value) (pa : Bool) (tl : List Nat) (wr : World) (hp : BSl wr tv tl) :
    Calls Try.prog 13 #[.agg #[.int .i64 x, tv, .bool pa], .int .i64 (sz : Int)] wr fun e w' => ∃ g, e = .returned (sl g sz) ∧ wr.heap.size ≤ g ∧ PieceAt w' g ((⟨x, tv, tl, pa⟩ : PutV).bs sz) ∧ Below wr.heap.size wr w' := bytes_any wr ⟨x, tv, tl, pa⟩ sz hsz hp

theorem PSl.below {w w' : World} {v : Value} {ps : List PutV} (h : PSl w v ps) (hb : Below w.heap.size w w') : PSl w' v ps := by
  obtain ⟨a, cap, rfl, hl, hm, hall, hcell⟩ := h
  refine ⟨a, cap, rfl, hl, hm, fun p hp => ⟨(hall p hp).1.below hb, (hall p hp).2⟩, fun h0 => ?_⟩
  obtain ⟨b, off, rfl, hc⟩ := hcell h0
  refine ⟨b, off, rfl, fun i hi => ?_⟩
  obtain ⟨x0, x1, x2⟩ := hc i hi
  exact ⟨by rw [hb.cell (World.block_lt_of_cell? w _ x0)]; exact x0, by rw [hb.cell (World.block_lt_of_cell? w _ x1)]; exact x1, by rw [hb.cell (World.block_lt_of_cell? w _ x2)]; exact x2⟩

set_option maxHeartbeats 4000000 in
theorem barrier_any (w : World) (n s : Int) (v1 v2 v3 v4 : Value) (os : List OpV) (ps : List PutV) (p q : List Nat) (h1 : OSl w v1 os) (h2 : PSl w v2 ps) (h3 : BSl w v3 p) (h4 : BSl w v4 q) (ho : os.length ≤ 5864062014800) (hp : ps.length ≤ 5864062014800) :
    Calls Try.prog 7 #[.int .i64 n, .int .i64 s, v1, v2, v3, v4] w fun e w' => e = .returned (.bool true) ∧ Below w.heap.size w w' := by
  have q0 := ptrEqNil
  have q1 := nilNe
  cases hgg : goodGeo n s with
  | false =>
    go_enter Try.func7, Try.ntmps7
    go_wp2_with (go_at_call 9; refine (usable_any _ _ _).mono ?_; rintro e w' ⟨rfl, rfl⟩; rw [hgg])
    go_ret
    exact ⟨rfl, Below.refl _ _⟩
  | true =>
    have hgg' := of_decide_eq_true hgg
    obtain ⟨nb, rfl⟩ : ∃ nb : Nat, n = (nb : Int) := ⟨n.toNat, by omega⟩
    obtain ⟨sz, rfl⟩ : ∃ sz : Nat, s = (sz : Int) := ⟨s.toNat, by omega⟩
    have hn1 : 1 ≤ nb := by omega
    have hn2 : nb ≤ 8192 := by omega
    have hs : sz = 128 ∨ sz = 256 ∨ sz = 512 ∨ sz = 1024 := by omega
    obtain ⟨fc, fd, fn, fs⟩ := freshSt_calm nb sz os
    have HF := hide (fresh_any w nb sz hn1 hn2 hs v1 os h1 ho)
    have HS := hide hs
    have H2 := hide h2
    have H3 := hide h3
    have H4 := hide h4
    have HFC := hide fc
    have HFD := hide fd
    have HFN := hide fn
    have HFS := hide fs
    clear h1 h2 h3 h4 fc fd fn fs hs hgg'
    go_enter Try.func7, Try.ntmps7
    go_wp2_with (first
      | (go_at_call 9; refine (usable_any _ _ _).mono ?_; rintro e w' ⟨rfl, hw'⟩; cases hw'; rw [hgg])
      | (go_at_call 10; refine HF.out.mono ?_; rintro e w1 ⟨L, rfl, hD1⟩; have HD1 := hide hD1; clear hD1; unfold PD))
    have HP := hide (puts_any HD1.out HFC.out v2 ps H2.out hp HFD.out)
    rw [HFN.out, HFS.out] at HP
    unfold PD at HP
    refine HP.out.mono ?_
    rintro e w2 ⟨rfl, U, hD2⟩
    have HD2 := hide hD2
    clear hD2 HP
    obtain ⟨pg, pc, pk⟩ := puts_all (freshSt nb sz os) ps
    have HPG := hide pg
    have HPC := hide (pc HFC.out (by rw [HFN.out]; exact hn1))
    have HBR : Hid (∀ i (hi : i < ps.length), ((freshSt nb sz os).puts ps).flush.rdE (ps[i].at_ nb) = 0 ∧ (lastOf ps i nb = true → ((freshSt nb sz os).puts ps).flush.rdV (ps[i].at_ nb) = some (ps[i].bs sz))) := hide fun i hi => by
      have := barrier_reads HFC.out (by rw [HFN.out]; exact hn1) ps hi
      rw [HFN.out, HFS.out] at this
      exact this
    clear pg pc pk
    generalize hT : (freshSt nb sz os).puts ps = T at *
    have HTN : Hid (T.nb = nb) := hide (by rw [HPG.out.1, HFN.out])
    have HTS : Hid (T.sz = sz) := hide (by rw [HPG.out.2, HFS.out])
    clear hT HFC HFD HFN HFS HPG
    generalize hL : ({ L with U := U } : Lay) = M at *
    have eP : L.p = M.p := by rw [← hL]
    rw [eP]
    clear hL eP HD1
    -- the flush
    go_wp2_with fail
    have HFL := hide (Flush_any HD2.out.rep)
    unfold PD at HFL
    rw [calm_ok HPC.out] at HFL
    refine HFL.out.mono ?_
    rintro e w3 ⟨rfl, hR3, hG3⟩
    rw [if_pos rfl]
    have HD3 := hide (HD2.out.growS hR3 hG3)
    obtain ⟨f1, f2, f3, f4⟩ := flush_calm HPC.out
    have HVC := hide f1
    have HVD := hide f2
    have HVN : Hid (T.flush.nb = nb) := hide (by rw [f3.1, HTN.out])
    clear hR3 hG3 HFL f1 f2 f3 f4 HPC HTN HTS HD2
    generalize T.flush = V at *
    -- seen
    go_wp2_with fail
    have HSE := hide (seen_any HD3.out)
    rw [HVN.out] at HSE
    unfold PD at HSE
    refine HSE.out.mono ?_
    rintro e w6 ⟨b1, e1, rfl, hD6, hS6, hG6⟩
    rw [HVN.out] at hD6 hS6
    have HD6 := hide hD6
    have HS6 := hide hS6
    clear hD6 hS6 hG6 HSE HD3
    obtain ⟨x1, x2, x3, x4, x5, x6, ef1, ef2⟩ := HS6.out.form
    subst ef1 ef2
    have HI7 := hide (SeenIn.mk' HD6.out.rep HS6.out)
    have HD7 := hide (HD6.out.below ((Below.refl _ _).alloc (Nat.le_refl _) (.cells #[.slice x1 x2 x3, .slice x4 x5 x6] 53)))
    clear HS6
    obtain ⟨a2, cap2, ev2, hl2, hm2, -, -⟩ := H2.out
    subst ev2
    unfold maxLen at hm2
    go_wp2
    generalize hW7 : w6.alloc (.cells #[.slice x1 x2 x3, .slice x4 x5 x6] 53) = w7 at *
    clear hW7
    obtain ⟨g, g', rfl, ex2, ha3, ha4, rfl, ex5, hb3, hb4, hbox0, hbox1, hcells⟩ := HI7.out.both hn1
    replace ex2 := ex2.symm
    replace ex5 := ex5.symm
    subst ex2
    subst ex5
    unfold maxLen at ha4 hb4
    have HCELLS := hide hcells
    clear hcells
    go_loopw [17] (fun x wr => ∃ k : Nat, k ≤ ps.length ∧ x = .int .i64 (k : Int) ∧ Below w7.heap.size w7 wr) (fun x _ => ps.length - (intOf x).toNat)
    case atStart => exact ⟨0, Nat.zero_le _, rfl, Below.refl _ _⟩
    case round =>
      obtain ⟨k, hk, rfl, hbr⟩ := hrel
      by_cases hlt : k < ps.length
      · obtain ⟨bl, off, cap, ev2, -, -, hbs, hib, hc⟩ := H2.out.at_ hlt
        simp only [Value.slice.injEq] at ev2
        obtain ⟨rfl, -, rfl⟩ := ev2
        obtain ⟨c0, c1, c2⟩ := hc k hlt
        obtain ⟨br1, br2⟩ := HBR.out k hlt
        have HLA : Hid (∀ wr, Below w7.heap.size w7 wr → Calls Try.prog 31 #[.slice (some ⟨bl, off, none⟩) ps.length cap2, .int .i64 (k : Int), .int .i64 (nb : Int)] wr fun e w' => e = .returned (.bool (lastOf ps k nb)) ∧ Below wr.heap.size wr w') := hide fun wr hbw =>
          last_any wr _ ps (H2.out.below (HD7.out.below hbw).be) k nb hlt hn1 hn2
        generalize hP : ps[k] = P at *
        have hKlt : P.at_ nb < nb := P.at_lt hn1
        obtain ⟨u, hu, hsv, hi⟩ := HCELLS.out (P.at_ nb) hKlt
        rw [br1] at hi
        have HSV := hide hsv
        have HBR2 := hide br2
        have HBS := hide hbs
        have HK : Hid (∀ wr, Below w7.heap.size w7 wr → wr.cell? ⟨bl, off + k * 3, none⟩ = some (.int .i64 P.block) ∧ wr.cell? ⟨bl, off + k * 3 + 1, none⟩ = some P.tv ∧ wr.cell? ⟨bl, off + k * 3 + 2, none⟩ = some (.bool P.past) ∧
            wr.cell? ⟨w6.heap.size, 0, none⟩ = some (.slice (some ⟨g, 0, none⟩) nb x3) ∧ wr.cell? ⟨w6.heap.size, 1, none⟩ = some (.slice (some ⟨g', 0, none⟩) nb x6) ∧ wr.cell? ⟨g, P.at_ nb, none⟩ = some u ∧ wr.cell? ⟨g', P.at_ nb, none⟩ = some (.int .i64 0)) := hide fun wr hb => by
          have hbe := (HD7.out.below hb).be
          exact ⟨by rw [hbe.cell (World.block_lt_of_cell? w _ c0)]; exact c0, by rw [hbe.cell (World.block_lt_of_cell? w _ c1)]; exact c1, by rw [hbe.cell (World.block_lt_of_cell? w _ c2)]; exact c2,
            by rw [hb.cell (World.block_lt_of_cell? w7 _ hbox0)]; exact hbox0, by rw [hb.cell (World.block_lt_of_cell? w7 _ hbox1)]; exact hbox1, by rw [hb.cell (World.block_lt_of_cell? w7 _ hu)]; exact hu, by rw [hb.cell (World.block_lt_of_cell? w7 _ hi)]; exact hi⟩
        have HKK : Hid (∀ wr w2, Below w7.heap.size w7 wr → Below wr.heap.size wr w2 → Below w7.heap.size w7 w2) := hide fun wr w2 a b => a.trans (b.mono a.size)
        obtain ⟨av, nv, cv, huu⟩ := HSV.out.one
        subst huu
        have HKE : Hid (blk P.block nb = P.at_ nb) := hide rfl
        have HBG := hide (block_gen nb hn1 hn2)
        have HBY : Hid (∀ wr, Below w7.heap.size w7 wr → Calls Try.prog 13 #[.agg #[.int .i64 P.block, P.tv, .bool P.past], .int .i64 (sz : Int)] wr fun e w' => ∃ g, e = .returned (sl g sz) ∧ wr.heap.size ≤ g ∧ PieceAt w' g (P.bs sz) ∧ Below wr.heap.size wr w') := hide fun wr hb =>
          bytes_any wr P sz HS.out (HBS.out.below (HD7.out.below hb).be)
        have HSB : Hid (lastOf ps k nb = true → ∀ wr gp, Below w7.heap.size w7 wr → PieceAt wr gp (P.bs sz) → Calls Try.prog 18 #[.slice av nv cv, sl gp sz] wr fun e w' => e = .returned (.bool true) ∧ Below wr.heap.size wr w') := hide fun hl wr gp hb hpc => by
          have y1 := (HSV.out.kept (w' := wr) (U' := M.U) fun b hlt hu => ⟨hb.block b hlt, hu⟩).bsl
          rw [HBR2.out hl] at y1
          have y2 := hpc.bsl
          rw [bs_len] at y2
          refine (same_any _ _ _ _ wr y1 y2).mono ?_
          rintro e w' ⟨rfl, j, rfl⟩
          exact ⟨by simp, below_drewN (Below.refl _ _) j⟩
        obtain ⟨k0, k1, k2, k3, k4, k5, k6⟩ := HK.out _ hbr
        clear c0 c1 c2 hbox0 hbox1 hu hi hsv br1 br2 hbs hc hP
        go_wp2_with (first
          | (go_at_call 12; refine (HBG.out _ _ _ _ hib).mono ?_; rintro e w8 ⟨rfl, hb8⟩; have hbw := HKK.out _ w8 hbr hb8; clear hb8))
        obtain ⟨q0, q1, q2, q3, q4, q5, q6⟩ := HK.out _ hbw
        clear k0 k1 k2 k3 k4 k5 k6 hbr
        rw [HKE.out]
        generalize P.at_ nb = K at *
        generalize P.bs sz = BB at *
        cases hla : lastOf ps k nb with
        | false =>
          rw [hla] at HLA
          go_wp2_with fail
          refine wp_region_held_drew (S := (fun w' => Below w7.heap.size w7 w' ∧ w'.cell? ⟨bl, off + k * 3, none⟩ = some (.int .i64 P.block) ∧ w'.cell? ⟨bl, off + k * 3 + 1, none⟩ = some P.tv ∧ w'.cell? ⟨bl, off + k * 3 + 2, none⟩ = some (.bool P.past) ∧ w'.cell? ⟨w6.heap.size, 0, none⟩ = some (.slice (some ⟨g, 0, none⟩) nb x3) ∧ w'.cell? ⟨w6.heap.size, 1, none⟩ = some (.slice (some ⟨g', 0, none⟩) nb x6) ∧ w'.cell? ⟨g, K, none⟩ = some (.slice av nv cv) ∧ w'.cell? ⟨g', K, none⟩ = some (.int .i64 0))) (by kernel_rfl) ⟨Below.drew hbw, q0, q1, q2, q3, q4, q5, q6⟩ (fun hHeld => ?_)
          refine wpAnyH_take (i := 0) (oi := { dst := some 57, op := Op.fieldAddr 53 (Operand.tmp 16) 1, type := 0, pos := "outright.go:182", after := #[], guard := none }) (v := ?_) rfl (by kernel_rfl) (by kernel_rfl) (by kernel_rfl) (fun _ _ _ h => h) (Or.inl ⟨by rfl, ?_⟩) hHeld ?_
          case refine_2 => (intro w hSw; (try dsimp only at hSw); go_simp; try with_reducible rfl)
          try simp only [Act.put, List.setIfInBounds_toArray, List.set_cons_zero, List.set_cons_succ]
          refine wpAnyH_take (i := 1) (oi := { dst := some 58, op := Op.load 51 (Operand.tmp 57), type := 51, pos := "outright.go:182", after := #[{ on := 0, ground := Ground.data }], guard := none }) (v := ?_) rfl (by kernel_rfl) (by kernel_rfl) (by kernel_rfl) (fun _ _ _ h => h) (Or.inl ⟨by rfl, ?_⟩) hHeld ?_
          case refine_2 => (intro w hSw; (try dsimp only at hSw); go_simp; try with_reducible rfl)
          try simp only [Act.put, List.setIfInBounds_toArray, List.set_cons_zero, List.set_cons_succ]
          refine wpAnyH_take (i := 2) (oi := { dst := some 59, op := Op.move (Operand.tmp 18), type := 3, pos := "outright.go:182", after := #[], guard := none }) (v := ?_) rfl (by kernel_rfl) (by kernel_rfl) (by kernel_rfl) (fun _ _ _ h => h) (Or.inl ⟨by rfl, ?_⟩) hHeld ?_
          case refine_2 => (intro w hSw; (try dsimp only at hSw); go_simp; try with_reducible rfl)
          try simp only [Act.put, List.setIfInBounds_toArray, List.set_cons_zero, List.set_cons_succ]
          refine wpAnyH_take (i := 3) (oi := { dst := some 60, op := Op.indexAddr 51 (Operand.tmp 58) (Operand.tmp 59), type := 0, pos := "outright.go:182", after := #[{ on := 1, ground := Ground.data }, { on := 2, ground := Ground.data }], guard := none }) (v := ?_) rfl (by kernel_rfl) (by kernel_rfl) (by kernel_rfl) (fun _ _ _ h => h) (Or.inl ⟨by rfl, ?_⟩) hHeld ?_
          case refine_2 => (intro w hSw; (try dsimp only at hSw); go_simp; try with_reducible rfl)
          try simp only [Act.put, List.setIfInBounds_toArray, List.set_cons_zero, List.set_cons_succ]
          refine wpAnyH_take (i := 4) (oi := { dst := some 61, op := Op.load 3 (Operand.tmp 60), type := 3, pos := "outright.go:182", after := #[{ on := 3, ground := Ground.data }], guard := none }) (v := ?_) rfl (by kernel_rfl) (by kernel_rfl) (by kernel_rfl) (fun _ _ _ h => h) (Or.inl ⟨by rfl, ?_⟩) hHeld ?_
          case refine_2 => (intro w hSw; (try dsimp only at hSw); go_simp; try with_reducible rfl)
          try simp only [Act.put, List.setIfInBounds_toArray, List.set_cons_zero, List.set_cons_succ]
          refine wpAnyH_take (i := 5) (oi := { dst := some 62, op := Op.binOp BinOp.neq 3 (Operand.tmp 61) (Operand.const (Value.int IntKind.i64 0)) 3, type := 4, pos := "outright.go:182", after := #[{ on := 4, ground := Ground.data }], guard := none }) (v := ?_) rfl (by kernel_rfl) (by kernel_rfl) (by kernel_rfl) (fun _ _ _ h => h) (Or.inl ⟨by rfl, ?_⟩) hHeld ?_
          case refine_2 => (intro w hSw; (try dsimp only at hSw); go_simp; try with_reducible rfl)
          try simp only [Act.put, List.setIfInBounds_toArray, List.set_cons_zero, List.set_cons_succ]
          refine wpAnyH_take (i := 6) (oi := { dst := some 63, op := Op.move (Operand.tmp 62), type := 4, pos := "outright.go:182", after := #[{ on := 5, ground := Ground.data }], guard := none }) (v := ?_) rfl (by kernel_rfl) (by kernel_rfl) (by kernel_rfl) (fun _ _ _ h => h) (Or.inl ⟨by rfl, ?_⟩) hHeld ?_
          case refine_2 => (intro w hSw; (try dsimp only at hSw); go_simp; try with_reducible rfl)
          try simp only [Act.put, List.setIfInBounds_toArray, List.set_cons_zero, List.set_cons_succ]
          refine wpAnyH_take (i := 7) (oi := { dst := some 64, op := Op.move (Operand.tmp 3), type := 23, pos := "outright.go:182", after := #[{ on := 6, ground := Ground.guard }], guard := some (6, false) }) (v := ?_) rfl (by kernel_rfl) (by kernel_rfl) (by kernel_rfl) (fun _ _ _ h => h) (Or.inl ⟨by rfl, ?_⟩) hHeld ?_
          case refine_2 => (intro w hSw; (try dsimp only at hSw); go_simp; try with_reducible rfl)
          try simp only [Act.put, List.setIfInBounds_toArray, List.set_cons_zero, List.set_cons_succ]
          refine wpAnyH_take (i := 8) (oi := { dst := some 65, op := Op.move (Operand.tmp 17), type := 3, pos := "outright.go:182", after := #[{ on := 6, ground := Ground.guard }], guard := some (6, false) }) (v := ?_) rfl (by kernel_rfl) (by kernel_rfl) (by kernel_rfl) (fun _ _ _ h => h) (Or.inl ⟨by rfl, ?_⟩) hHeld ?_
          case refine_2 => (intro w hSw; (try dsimp only at hSw); go_simp; try with_reducible rfl)
          try simp only [Act.put, List.setIfInBounds_toArray, List.set_cons_zero, List.set_cons_succ]
          refine wpAnyH_take (i := 9) (oi := { dst := some 66, op := Op.move (Operand.tmp 0), type := 3, pos := "outright.go:182", after := #[{ on := 6, ground := Ground.guard }], guard := some (6, false) }) (v := ?_) rfl (by kernel_rfl) (by kernel_rfl) (by kernel_rfl) (fun _ _ _ h => h) (Or.inl ⟨by rfl, ?_⟩) hHeld ?_
          case refine_2 => (intro w hSw; (try dsimp only at hSw); go_simp; try with_reducible rfl)
          try simp only [Act.put, List.setIfInBounds_toArray, List.set_cons_zero, List.set_cons_succ]
          refine wpAnyH_ready (rs := [10]) (by kernel_rfl) (by simp) ?_
          refine AllReadyH.cons (o := { dst := some 67, op := Op.call { callee := Callee.value (Operand.func 31), args := #[Operand.tmp 64, Operand.tmp 65, Operand.tmp 66], argTypes := #[23, 3, 3] }, type := 4, pos := "outright.go:182", after := #[{ on := 7, ground := Ground.data }, { on := 8, ground := Ground.data }, { on := 9, ground := Ground.data }, { on := 6, ground := Ground.chain }, { on := 6, ground := Ground.guard }], guard := some (6, false) }) rfl (fun K hK => ?_) AllReadyH.nil
          go_simp
          refine (HLA.out _ (Below.drew hbw)).mono ?_
          rintro e wa ⟨rfl, hba⟩
          have hbw2 := HKK.out _ wa (Below.drew hbw) hba
          obtain ⟨r0, r1, r2, r3, r4, r5, r6⟩ := HK.out wa hbw2
          clear hba
          dsimp only
          refine hK.out _ _ ⟨hbw2, r0, r1, r2, r3, r4, r5, r6⟩ (fun hHeld => ?_)
          clear hK K
          try simp only [Act.put, List.setIfInBounds_toArray, List.set_cons_zero, List.set_cons_succ]
          refine wpAnyH_take (i := 11) (oi := { dst := some 68, op := Op.move (Operand.tmp 67), type := 4, pos := "outright.go:182", after := #[{ on := 10, ground := Ground.data }, { on := 10, ground := Ground.chain }, { on := 6, ground := Ground.guard }], guard := some (6, false) }) (v := ?_) rfl (by kernel_rfl) (by kernel_rfl) (by kernel_rfl) (fun _ _ _ h => h) (Or.inl ⟨by rfl, ?_⟩) hHeld ?_
          case refine_2 => (intro w hSw; (try dsimp only at hSw); go_simp; try with_reducible rfl)
          try simp only [Act.put, List.setIfInBounds_toArray, List.set_cons_zero, List.set_cons_succ]
          refine wpAnyH_take (i := 12) (oi := { dst := some 69, op := Op.fieldAddr 53 (Operand.tmp 16) 0, type := 0, pos := "outright.go:182", after := #[{ on := 11, ground := Ground.guard }], guard := some (11, true) }) (v := undef) rfl (by kernel_rfl) (by kernel_rfl) (by kernel_rfl) (fun _ _ _ h => h) (Or.inr ⟨by kernel_rfl, rfl⟩) hHeld ?_
          try simp only [Act.put, List.setIfInBounds_toArray, List.set_cons_zero, List.set_cons_succ]
          refine wpAnyH_take (i := 13) (oi := { dst := some 70, op := Op.load 50 (Operand.tmp 69), type := 50, pos := "outright.go:182", after := #[{ on := 12, ground := Ground.data }, { on := 11, ground := Ground.guard }], guard := some (11, true) }) (v := undef) rfl (by kernel_rfl) (by kernel_rfl) (by kernel_rfl) (fun _ _ _ h => h) (Or.inr ⟨by kernel_rfl, rfl⟩) hHeld ?_
          try simp only [Act.put, List.setIfInBounds_toArray, List.set_cons_zero, List.set_cons_succ]
          refine wpAnyH_take (i := 14) (oi := { dst := some 71, op := Op.move (Operand.tmp 18), type := 3, pos := "outright.go:182", after := #[{ on := 11, ground := Ground.guard }], guard := some (11, true) }) (v := undef) rfl (by kernel_rfl) (by kernel_rfl) (by kernel_rfl) (fun _ _ _ h => h) (Or.inr ⟨by kernel_rfl, rfl⟩) hHeld ?_
          try simp only [Act.put, List.setIfInBounds_toArray, List.set_cons_zero, List.set_cons_succ]
          refine wpAnyH_take (i := 15) (oi := { dst := some 72, op := Op.indexAddr 50 (Operand.tmp 70) (Operand.tmp 71), type := 0, pos := "outright.go:182", after := #[{ on := 13, ground := Ground.data }, { on := 14, ground := Ground.data }, { on := 11, ground := Ground.guard }], guard := some (11, true) }) (v := undef) rfl (by kernel_rfl) (by kernel_rfl) (by kernel_rfl) (fun _ _ _ h => h) (Or.inr ⟨by kernel_rfl, rfl⟩) hHeld ?_
          try simp only [Act.put, List.setIfInBounds_toArray, List.set_cons_zero, List.set_cons_succ]
          refine wpAnyH_take (i := 16) (oi := { dst := some 73, op := Op.load 24 (Operand.tmp 72), type := 24, pos := "outright.go:182", after := #[{ on := 15, ground := Ground.data }, { on := 11, ground := Ground.guard }], guard := some (11, true) }) (v := undef) rfl (by kernel_rfl) (by kernel_rfl) (by kernel_rfl) (fun _ _ _ h => h) (Or.inr ⟨by kernel_rfl, rfl⟩) hHeld ?_
          try simp only [Act.put, List.setIfInBounds_toArray, List.set_cons_zero, List.set_cons_succ]
          refine wpAnyH_take (i := 17) (oi := { dst := some 74, op := Op.move (Operand.tmp 3), type := 23, pos := "outright.go:182", after := #[{ on := 11, ground := Ground.guard }], guard := some (11, true) }) (v := undef) rfl (by kernel_rfl) (by kernel_rfl) (by kernel_rfl) (fun _ _ _ h => h) (Or.inr ⟨by kernel_rfl, rfl⟩) hHeld ?_
          try simp only [Act.put, List.setIfInBounds_toArray, List.set_cons_zero, List.set_cons_succ]
          refine wpAnyH_take (i := 18) (oi := { dst := some 75, op := Op.move (Operand.tmp 17), type := 3, pos := "outright.go:182", after := #[{ on := 11, ground := Ground.guard }], guard := some (11, true) }) (v := undef) rfl (by kernel_rfl) (by kernel_rfl) (by kernel_rfl) (fun _ _ _ h => h) (Or.inr ⟨by kernel_rfl, rfl⟩) hHeld ?_
          try simp only [Act.put, List.setIfInBounds_toArray, List.set_cons_zero, List.set_cons_succ]
          refine wpAnyH_take (i := 19) (oi := { dst := some 76, op := Op.indexAddr 23 (Operand.tmp 74) (Operand.tmp 75), type := 0, pos := "outright.go:182", after := #[{ on := 17, ground := Ground.data }, { on := 18, ground := Ground.data }, { on := 11, ground := Ground.guard }], guard := some (11, true) }) (v := undef) rfl (by kernel_rfl) (by kernel_rfl) (by kernel_rfl) (fun _ _ _ h => h) (Or.inr ⟨by kernel_rfl, rfl⟩) hHeld ?_
          try simp only [Act.put, List.setIfInBounds_toArray, List.set_cons_zero, List.set_cons_succ]
          refine wpAnyH_take (i := 20) (oi := { dst := some 77, op := Op.load 26 (Operand.tmp 76), type := 26, pos := "outright.go:182", after := #[{ on := 19, ground := Ground.data }, { on := 11, ground := Ground.guard }], guard := some (11, true) }) (v := undef) rfl (by kernel_rfl) (by kernel_rfl) (by kernel_rfl) (fun _ _ _ h => h) (Or.inr ⟨by kernel_rfl, rfl⟩) hHeld ?_
          try simp only [Act.put, List.setIfInBounds_toArray, List.set_cons_zero, List.set_cons_succ]
          refine wpAnyH_take (i := 21) (oi := { dst := some 78, op := Op.move (Operand.tmp 1), type := 3, pos := "outright.go:182", after := #[{ on := 11, ground := Ground.guard }], guard := some (11, true) }) (v := undef) rfl (by kernel_rfl) (by kernel_rfl) (by kernel_rfl) (fun _ _ _ h => h) (Or.inr ⟨by kernel_rfl, rfl⟩) hHeld ?_
          try simp only [Act.put, List.setIfInBounds_toArray, List.set_cons_zero, List.set_cons_succ]
          refine wpAnyH_take (i := 22) (oi := { dst := some 79, op := Op.call { callee := Callee.value (Operand.func 13), args := #[Operand.tmp 77, Operand.tmp 78], argTypes := #[26, 3] }, type := 24, pos := "outright.go:182", after := #[{ on := 20, ground := Ground.data }, { on := 21, ground := Ground.data }, { on := 11, ground := Ground.chain }, { on := 11, ground := Ground.guard }], guard := some (11, true) }) (v := undef) rfl (by kernel_rfl) (by kernel_rfl) (by kernel_rfl) (fun _ _ _ h => h) (Or.inr ⟨by kernel_rfl, rfl⟩) hHeld ?_
          try simp only [Act.put, List.setIfInBounds_toArray, List.set_cons_zero, List.set_cons_succ]
          refine wpAnyH_take (i := 23) (oi := { dst := some 80, op := Op.call { callee := Callee.value (Operand.func 18), args := #[Operand.tmp 73, Operand.tmp 79], argTypes := #[24, 24] }, type := 4, pos := "outright.go:182", after := #[{ on := 16, ground := Ground.data }, { on := 22, ground := Ground.data }, { on := 22, ground := Ground.chain }, { on := 11, ground := Ground.guard }], guard := some (11, true) }) (v := undef) rfl (by kernel_rfl) (by kernel_rfl) (by kernel_rfl) (fun _ _ _ h => h) (Or.inr ⟨by kernel_rfl, rfl⟩) hHeld ?_
          try simp only [Act.put, List.setIfInBounds_toArray, List.set_cons_zero, List.set_cons_succ]
          refine wpAnyH_take (i := 24) (oi := { dst := some 81, op := Op.unOp UnOp.not 4 (Operand.tmp 80), type := 4, pos := "outright.go:182", after := #[{ on := 23, ground := Ground.data }, { on := 11, ground := Ground.guard }], guard := some (11, true) }) (v := undef) rfl (by kernel_rfl) (by kernel_rfl) (by kernel_rfl) (fun _ _ _ h => h) (Or.inr ⟨by kernel_rfl, rfl⟩) hHeld ?_
          try simp only [Act.put, List.setIfInBounds_toArray, List.set_cons_zero, List.set_cons_succ]
          refine wpAnyH_take (i := 25) (oi := { dst := some 82, op := Op.pick (Operand.tmp 68) (Operand.tmp 81) (Operand.const (Value.bool false)), type := 4, pos := "outright.go:182", after := #[{ on := 11, ground := Ground.data }, { on := 24, ground := Ground.data }, { on := 6, ground := Ground.guard }], guard := some (6, false) }) (v := ?_) rfl (by kernel_rfl) (by kernel_rfl) (by kernel_rfl) (fun _ _ _ h => h) (Or.inl ⟨by rfl, ?_⟩) hHeld ?_
          case refine_2 => (intro w hSw; (try dsimp only at hSw); go_simp; try with_reducible rfl)
          try simp only [Act.put, List.setIfInBounds_toArray, List.set_cons_zero, List.set_cons_succ]
          refine wpAnyH_take (i := 26) (oi := { dst := some 83, op := Op.pick (Operand.tmp 63) (Operand.const (Value.bool true)) (Operand.tmp 82), type := 4, pos := "outright.go:182", after := #[{ on := 6, ground := Ground.data }, { on := 25, ground := Ground.data }], guard := none }) (v := ?_) rfl (by kernel_rfl) (by kernel_rfl) (by kernel_rfl) (fun _ _ _ h => h) (Or.inl ⟨by rfl, ?_⟩) hHeld ?_
          case refine_2 => (intro w hSw; (try dsimp only at hSw); go_simp; try with_reducible rfl)
          try simp only [Act.put, List.setIfInBounds_toArray, List.set_cons_zero, List.set_cons_succ]
          refine wpAnyH_done (by kernel_rfl) ?_ _
          go_wp2
          go_roundw
          case rel => exact ⟨k + 1, by omega, by go_num, hbw2⟩
          case measure => simp [intOf]; omega
        | true =>
          rw [hla] at HLA
          have HSB2 := hide (HSB.out hla)
          go_wp2_with fail
          go_region_held3 (fun w' => Below w7.heap.size w7 w' ∧ w'.cell? ⟨bl, off + k * 3, none⟩ = some (.int .i64 P.block) ∧ w'.cell? ⟨bl, off + k * 3 + 1, none⟩ = some P.tv ∧ w'.cell? ⟨bl, off + k * 3 + 2, none⟩ = some (.bool P.past) ∧ w'.cell? ⟨w6.heap.size, 0, none⟩ = some (.slice (some ⟨g, 0, none⟩) nb x3) ∧ w'.cell? ⟨w6.heap.size, 1, none⟩ = some (.slice (some ⟨g', 0, none⟩) nb x6) ∧ w'.cell? ⟨g, K, none⟩ = some (.slice av nv cv) ∧ w'.cell? ⟨g', K, none⟩ = some (.int .i64 0))
            (first | exact ⟨Below.drew hbw, q0, q1, q2, q3, q4, q5, q6⟩ | exact ⟨hbw2, r0, r1, r2, r3, r4, r5, r6⟩ | exact ⟨hbw3, s0, s1, s2, s3, s4, s5, s6⟩ | exact ⟨hbw4, t0, t1, t2, t3, t4, t5, t6⟩)
            (first
              | (go_at_call 31; refine (HLA.out _ (Below.drew hbw)).mono ?_; rintro e wa ⟨rfl, hba⟩; have hbw2 := HKK.out _ wa (Below.drew hbw) hba; obtain ⟨r0, r1, r2, r3, r4, r5, r6⟩ := HK.out wa hbw2; clear hba)
              | (go_at_call 13; refine (HBY.out _ hbw2).mono ?_; rintro e wb ⟨gp, rfl, -, hpc, hbb⟩; have hbw3 := HKK.out _ wb hbw2 hbb; have HPC := hide hpc; obtain ⟨s0, s1, s2, s3, s4, s5, s6⟩ := HK.out wb hbw3; clear hbb hpc)
              | (go_at_call 18; refine (HSB2.out _ gp hbw3 HPC.out).mono ?_; rintro e wc ⟨rfl, hbc⟩; have hbw4 := HKK.out _ wc hbw3 hbc; obtain ⟨t0, t1, t2, t3, t4, t5, t6⟩ := HK.out wc hbw4; clear hbc))
          go_wp2
          go_roundw
          case rel => exact ⟨k + 1, by omega, by go_num, hbw4⟩
          case measure => simp [intOf]; omega
      · have HD8 := hide (HD7.out.below hbr)
        have HI8 := hide (HI7.out.grow (Grow.ofBelow M.U hbr))
        have HBE := hide hbr
        clear hbr HI7 HBR HCELLS hbox0 hbox1
        -- the first crash
        go_wp2_with fail
        have lk0 : (V.reads nb).dry := fun k => by rw [(reads_same V nb).2.2.2.1]; exact HVD.out k
        have lk1 : (V.reads nb).calm := ⟨(reads_same V nb).2.2.2.2.1.trans HVC.out.1, (reads_same V nb).2.2.2.2.2.trans HVC.out.2⟩
        have HLK := hide (like_trans (reads_same V nb) (like_crash lk0 lk1 p))
        have HC2 := hide (Crash_any HD8.out.rep (HD8.out.bsl H3.out) (fun hpos g hg hu => by have := H3.out.old hpos g hg; have := HD8.out.up g hu; omega) (fun k => by rw [lk0 k]; simp))
        unfold PD at HC2
        clear lk0 lk1
        refine HC2.out.mono ?_
        rintro e w9 ⟨rfl, hR9, hG9⟩
        have HD9 := hide (HD8.out.growS hR9 hG9)
        have HI9 := hide (HI8.out.grow hG9)
        clear hR9 hG9 HC2 HI8
        have HE1 := hide (like_reads HLK.out)
        have HV1C := hide (crash_calm (V.reads nb) p)
        have HV1D := hide (dry_crash (V.reads nb) p)
        have HV1N : Hid (((V.reads nb).crash p).nb = nb) := hide (by rw [HLK.out.1]; exact HVN.out)
        generalize (V.reads nb).crash p = V1 at *
        -- seen again
        go_wp2_with fail
        have HSE2 := hide (seen_any HD9.out)
        rw [HV1N.out] at HSE2
        unfold PD at HSE2
        refine HSE2.out.mono ?_
        rintro e w10 ⟨b2, e2, rfl, hD10, hS10, hG10⟩
        rw [HV1N.out] at hD10 hS10
        rw [HE1.out.1, HE1.out.2] at hS10
        have HD10 := hide hD10
        have HS10 := hide hS10
        have HI10 := hide (HI9.out.grow hG10)
        clear hD10 hS10 hG10 HSE2 HI9 HE1
        obtain ⟨y1, y2, y3, y4, y5, y6, ef1, ef2⟩ := HS10.out.form
        subst ef1 ef2
        have HJ11 := hide (SeenIn.mk' HD10.out.rep HS10.out)
        have hb11 := (Below.refl w10.heap.size w10).alloc (Nat.le_refl _) (.cells #[.slice y1 y2 y3, .slice y4 y5 y6] 53)
        have HD11 := hide (HD10.out.below hb11)
        have HI11 := hide (HI10.out.grow (Grow.ofBelow M.U hb11))
        clear HS10 HI10 hb11
        -- the second crash
        go_wp2_with fail
        generalize hW11 : w10.alloc (.cells #[.slice y1 y2 y3, .slice y4 y5 y6] 53) = w11 at *
        clear hW11
        have lk0 : (V1.reads nb).dry := fun k => by rw [(reads_same V1 nb).2.2.2.1]; exact HV1D.out k
        have lk1 : (V1.reads nb).calm := ⟨(reads_same V1 nb).2.2.2.2.1.trans HV1C.out.1, (reads_same V1 nb).2.2.2.2.2.trans HV1C.out.2⟩
        have HLK2 := hide (like_trans HLK.out (like_trans (reads_same V1 nb) (like_crash lk0 lk1 q)))
        have HC3 := hide (Crash_any HD11.out.rep (HD11.out.bsl H4.out) (fun hpos g hg hu => by have := H4.out.old hpos g hg; have := HD11.out.up g hu; omega) (fun k => by rw [lk0 k]; simp))
        unfold PD at HC3
        clear lk0 lk1
        refine HC3.out.mono ?_
        rintro e w12 ⟨rfl, hR12, hG12⟩
        have HD12 := hide (HD11.out.growS hR12 hG12)
        have HI12 := hide (HI11.out.grow hG12)
        have HJ12 := hide (HJ11.out.grow hG12)
        clear hR12 hG12 HC3 HI11 HJ11
        have HE2 := hide (like_reads HLK2.out)
        have HV2N : Hid (((V1.reads nb).crash q).nb = nb) := hide (by rw [HLK2.out.1]; exact HVN.out)
        generalize (V1.reads nb).crash q = V2 at *
        go_wp2_with fail
        have HSE3 := hide (seen_any HD12.out)
        rw [HV2N.out] at HSE3
        unfold PD at HSE3
        refine HSE3.out.mono ?_
        rintro e w13 ⟨b3, e3, rfl, hD13, hS13, hG13⟩
        rw [HV2N.out] at hD13 hS13
        rw [HE2.out.1, HE2.out.2] at hS13
        have HD13 := hide hD13
        have HS13 := hide hS13
        have HI13 := hide (HI12.out.grow hG13)
        have HJ13 := hide (HJ12.out.grow hG13)
        clear hD13 hS13 hG13 HSE3 HI12 HJ12 HE2
        obtain ⟨z1, z2, z3, z4, z5, z6, ef1, ef2⟩ := HS13.out.form
        subst ef1 ef2
        have HK14 := hide (SeenIn.mk' HD13.out.rep HS13.out)
        have hb14 := (Below.refl w13.heap.size w13).alloc (Nat.le_refl _) (.cells #[.slice z1 z2 z3, .slice z4 z5 z6] 53)
        have HD14 := hide (HD13.out.below hb14)
        have HI14 := hide (HI13.out.grow (Grow.ofBelow M.U hb14))
        have HJ14 := hide (HJ13.out.grow (Grow.ofBelow M.U hb14))
        clear HS13 HI13 HJ13 hb14
        generalize hW14 : w13.alloc (.cells #[.slice z1 z2 z3, .slice z4 z5 z6] 53) = w14 at *
        have hk1 : w14.cell? ⟨w6.heap.size, 0, none⟩ = some (.slice (some ⟨g, 0, none⟩) nb x3) := by rw [cell_of_row _ _ _ _ _ _ HI14.out.at_]; rfl
        have hk2 : w14.cell? ⟨w6.heap.size, 1, none⟩ = some (.slice (some ⟨g', 0, none⟩) nb x6) := by rw [cell_of_row _ _ _ _ _ _ HI14.out.at_]; rfl
        have hk3 : w14.cell? ⟨w10.heap.size, 0, none⟩ = some (.slice y1 y2 y3) := by rw [cell_of_row _ _ _ _ _ _ HJ14.out.at_]; rfl
        have hk4 : w14.cell? ⟨w10.heap.size, 1, none⟩ = some (.slice y4 y5 y6) := by rw [cell_of_row _ _ _ _ _ _ HJ14.out.at_]; rfl
        have hk5 : w14.cell? ⟨w13.heap.size, 0, none⟩ = some (.slice z1 z2 z3) := by rw [cell_of_row _ _ _ _ _ _ HK14.out.at_]; rfl
        have hk6 : w14.cell? ⟨w13.heap.size, 1, none⟩ = some (.slice z4 z5 z6) := by rw [cell_of_row _ _ _ _ _ _ HK14.out.at_]; rfl
        subst hW14
        go_wp2_with fail
        refine (sameSeen_eq (by simp; omega) HI14.out.sa HJ14.out.sa).mono ?_
        rintro e w15 ⟨rfl, hb15⟩
        have HD15 := hide (HD14.out.below hb15)
        have HJ15 := hide (HJ14.out.grow (Grow.ofBelow M.U hb15))
        have HK15 := hide (HK14.out.grow (Grow.ofBelow M.U hb15))
        clear hb15 hk1 hk2 hk3 hk4 hk5 hk6
        have hk3 : w15.cell? ⟨w10.heap.size, 0, none⟩ = some (.slice y1 y2 y3) := by rw [cell_of_row _ _ _ _ _ _ HJ15.out.at_]; rfl
        have hk4 : w15.cell? ⟨w10.heap.size, 1, none⟩ = some (.slice y4 y5 y6) := by rw [cell_of_row _ _ _ _ _ _ HJ15.out.at_]; rfl
        have hk5 : w15.cell? ⟨w13.heap.size, 0, none⟩ = some (.slice z1 z2 z3) := by rw [cell_of_row _ _ _ _ _ _ HK15.out.at_]; rfl
        have hk6 : w15.cell? ⟨w13.heap.size, 1, none⟩ = some (.slice z4 z5 z6) := by rw [cell_of_row _ _ _ _ _ _ HK15.out.at_]; rfl
        go_wp2_with fail
        refine (sameSeen_eq (by simp; omega) HJ15.out.sa HK15.out.sa).mono ?_
        rintro e w16 ⟨rfl, hb16⟩
        have HD16 := hide (HD15.out.below hb16)
        go_wp2
        go_ret
        exact ⟨rfl, HD16.out.be⟩
end Go.Proofs.Ytlpmpicmpklaoaa
