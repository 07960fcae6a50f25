import Derived.Test.YtlpmpicmpklaoaaDKeepM
import Derived.Test.YtlpmpicmpklaoaaDBarrier
namespace Go.Proofs.Ytlpmpicmpklaoaa
open Go.RowKit Go.Maps Go.Sort
set_option linter.unusedVariables false
set_option linter.unusedSimpArgs false
set_option maxRecDepth 20000

theorem ErrIs.zero {w w' : World} {U : Nat → Prop} {v : Value} {b : Int} (h : ErrIs w w' U v b 0) : v = .nilIface := by
  rcases h with ⟨_, e⟩ | ⟨e, _⟩
  · exact e
  · exact absurd rfl e

/-- the cells of a list of writes -/
def putCells (ms : List PutV) : List Value := ms.flatMap fun p => [.int .i64 p.block, p.tv, .bool p.past]
theorem putCells_snoc (ms : List PutV) (p : PutV) : putCells (ms ++ [p]) = putCells ms ++ [.int .i64 p.block, p.tv, .bool p.past] := by simp [putCells]
theorem putCells_len : ∀ ms : List PutV, (putCells ms).length = ms.length * 3
  | [] => rfl
  | p :: r => by
    have := putCells_len r
    simp only [putCells, List.flatMap_cons, List.length_append, List.length_cons, List.length_nil] at *
    omega
theorem putCells_at : ∀ (ms : List PutV) (i : Nat) (h : i < ms.length), (putCells ms)[i * 3]? = some (.int .i64 ms[i].block) ∧ (putCells ms)[i * 3 + 1]? = some ms[i].tv ∧ (putCells ms)[i * 3 + 2]? = some (.bool ms[i].past)
  | p :: r, 0, h => ⟨rfl, rfl, rfl⟩
  | p :: r, i + 1, h => by
    have := putCells_at r i (by simpa using h)
    have e : putCells (p :: r) = .int .i64 p.block :: p.tv :: .bool p.past :: putCells r := rfl
    rw [e, show (i + 1) * 3 = i * 3 + 1 + 1 + 1 from by omega]
    simpa using this
theorem ownsRow_keptIf3 {w w' : World} {base c : Nat} {e : TypeId} {v : Value} {n : Nat} {xs : List Value} (h : w.ownsRow base e c v n xs) (hk : ∀ g, v.ownBlock = some g → w'.heap[g]? = w.heap[g]?) : w'.ownsRow base e c v n xs := by
  refine ⟨h.1, ?_⟩
  rcases h.2 with h0 | ⟨g, cap, cur, rfl, h1, hg, r⟩
  · exact .inl h0
  · exact .inr ⟨g, cap, cur, rfl, h1, by rw [hk g rfl]; exact hg, r⟩
theorem cell_three_new (w : World) (a b c : Value) (t : TypeId) : ∀ j u, [a, b, c][j]? = some u → (w.alloc (.cells #[a, b, c] t)).cell? ((⟨w.heap.size, 0, none⟩ : Addr).add j) = some u := by
  intro j u hu
  rw [Addr.add_lit, Nat.zero_add, cell_of_row _ _ _ _ _ _ (Go.heap_alloc_new w _), List.getElem?_toArray]
  exact hu
theorem ownsRow_form {w : World} {base c : Nat} {e : TypeId} {v : Value} {n : Nat} {xs : List Value} (h : w.ownsRow base e c v n xs) : ∃ a cap, v = .slice a n cap ∧ n ≤ cap ∧ cap ≤ maxLen := by
  rcases h.2 with ⟨rfl, rfl⟩ | ⟨g, cap, cur, rfl, _, _, h1, h2, _⟩
  · exact ⟨_, _, rfl, Nat.le_refl _, Nat.zero_le _⟩
  · exact ⟨_, _, rfl, h1, h2⟩
theorem ownsRow_cells {w : World} {base c : Nat} {e : TypeId} {a : Option Addr} {n cap : Nat} {xs : List Value} (h : w.ownsRow base e c (.slice a n cap) n xs) (h0 : 0 < n) : ∃ g, a = some ⟨g, 0, none⟩ ∧ ∀ i u, xs[i]? = some u → w.cell? ⟨g, i, none⟩ = some u := by
  rcases h.2 with ⟨_, e⟩ | ⟨g, cap', cur, e, _, hh, _, _, _, ht⟩
  · omega
  · simp only [Value.slice.injEq] at e
    obtain ⟨rfl, -, -⟩ := e
    refine ⟨g, rfl, fun i u hu => ?_⟩
    rw [cell_of_row _ _ _ _ _ _ hh]
    rw [← ht, List.getElem?_take] at hu
    split at hu
    · rw [← Array.getElem?_toList]; exact hu
    · simp at hu
theorem info_put : (Try.prog.info? 26).map (fun i => (i.zero, i.size, i.bytes)) = some (some (.agg #[.int .i64 0, .slice none 0 0, .bool false]), 3, 40) := by kernel_rfl
theorem mineL_mem {ps : List PutV} {nb k : Nat} {p : PutV} (h : p ∈ mineL ps nb k) : p ∈ ps := (List.mem_filter.1 h).1

set_option maxHeartbeats 4000000 in
theorem keeps_any (w : World) (n s : Int) (v1 v2 v3 : Value) (os : List OpV) (ps : List PutV) (p : List Nat) (h1 : OSl w v1 os) (h2 : PSl w v2 ps) (h3 : BSl w v3 p) (ho : os.length ≤ 5864062014800) (hp : ps.length ≤ 3518437208780) :
    Calls Try.prog 5 #[.int .i64 n, .int .i64 s, v1, v2, v3] w fun e w' => e = .returned (.bool true) ∧ Below w.heap.size w w' := by
  have q0 := ptrEqNil
  have q1 := nilNe
  cases hgg : goodGeo n s with
  | false =>
    go_enter Try.func5, Try.ntmps5
    go_wp2_with (go_at_call 9; refine (usable_any _ _ _).mono ?_; rintro e w' ⟨rfl, rfl⟩; rw [hgg])
    go_ret
    exact ⟨rfl, Below.refl _ _⟩
  | true =>
    have hgg' := of_decide_eq_true hgg
    obtain ⟨nb, rfl⟩ : ∃ nb : Nat, n = (nb : Int) := ⟨n.toNat, by omega⟩
    obtain ⟨sz, rfl⟩ : ∃ sz : Nat, s = (sz : Int) := ⟨s.toNat, by omega⟩
    have hn1 : 1 ≤ nb := by omega
    have hn2 : nb ≤ 8192 := by omega
    have hs : sz = 128 ∨ sz = 256 ∨ sz = 512 ∨ sz = 1024 := by omega
    obtain ⟨fc, fd, fn, fs⟩ := freshSt_calm nb sz os
    have HF := hide (fresh_any w nb sz hn1 hn2 hs v1 os h1 ho)
    have HS := hide hs
    have H2 := hide h2
    have H3 := hide h3
    have HFC := hide fc
    have HFD := hide fd
    have HFN := hide fn
    have HFS := hide fs
    clear h1 h2 h3 fc fd fn fs hs hgg'
    go_enter Try.func5, Try.ntmps5
    go_wp2_with (first
      | (go_at_call 9; refine (usable_any _ _ _).mono ?_; rintro e w' ⟨rfl, hw'⟩; cases hw'; rw [hgg])
      | (go_at_call 10; refine HF.out.mono ?_; rintro e w1 ⟨L, rfl, hD1⟩; have HD1 := hide hD1; clear hD1; unfold PD))
    unfold FreshPost at HF
    generalize freshSt nb sz os = F at *
    clear HF
    -- seen
    have HSE := hide (seen_any HD1.out)
    rw [HFN.out] at HSE
    unfold PD at HSE
    refine HSE.out.mono ?_
    rintro e w6 ⟨b1, e1, rfl, hD6, hS6, hG6⟩
    rw [HFN.out] at hD6 hS6
    have HD6 := hide hD6
    have HS6 := hide hS6
    clear hD6 hS6 hG6 HSE HD1
    obtain ⟨x1, x2, x3, x4, x5, x6, ef1, ef2⟩ := HS6.out.form
    subst ef1 ef2
    have HI7 := hide (SeenIn.mk' HD6.out.rep HS6.out)
    have HD7 := hide (HD6.out.below ((Below.refl _ _).alloc (Nat.le_refl _) (.cells #[.slice x1 x2 x3, .slice x4 x5 x6] 53)))
    clear HS6 HD6
    obtain ⟨a2, cap2, ev2, hl2, hm2, -, -⟩ := H2.out
    subst ev2
    unfold maxLen at hm2
    go_wp2
    generalize hW7 : w6.alloc (.cells #[.slice x1 x2 x3, .slice x4 x5 x6] 53) = w7 at *
    clear hW7
    have HCK : Hid (CK F (F.reads nb) (ps.take 0)) := hide (CK.start HFC.out HFD.out (reads_same F nb))
    have HKC := hide hp
    go_loopw [14] (fun x wr => ∃ (k : Nat) (U' : Nat → Prop) (S : St), k ≤ ps.length ∧ x = .int .i64 (k : Int) ∧ Dk w wr { L with U := U' } S ∧ CK F S (ps.take k) ∧ SeenIn wr U' w6.heap.size (.slice x1 x2 x3) (.slice x4 x5 x6) ((List.range nb).map F.rdV) ((List.range nb).map F.rdE)) (fun x _ => ps.length - (intOf x).toNat)
    case atStart => exact ⟨0, L.U, F.reads nb, Nat.zero_le _, rfl, HD7.out, HCK.out, HI7.out⟩
    case round =>
      clear HD7 HCK HI7
      obtain ⟨k, U', S, hk, rfl, hD, hCK, hIn⟩ := hrel
      have HD := hide hD
      have HCK := hide hCK
      have HIN := hide hIn
      clear hD hCK hIn
      by_cases hlt : k < ps.length
      · obtain ⟨bl, off, cap, ev2, -, -, hbs, hib, hc⟩ := H2.out.at_ hlt
        simp only [Value.slice.injEq] at ev2
        obtain ⟨rfl, -, rfl⟩ := ev2
        obtain ⟨c0, c1, c2⟩ := hc k hlt
        obtain ⟨hw1, hw2⟩ := HCK.out.wrote hlt (by rw [HFN.out]; exact hn1)
        rw [HFN.out, HFS.out] at hw1 hw2
        have HW1 := hide hw1
        have HW2 := hide hw2
        have HCB : Hid (∀ j, (S.cache j).length + 1 ≤ 5864062014805) := hide fun j => by
          have h1 := mineL_len (ps.take k) F.nb j
          rw [HCK.out.cache j, List.length_map]
          simp only [List.length_take] at h1
          omega
        generalize hP : ps[k] = P at *
        have hKlt : P.at_ nb < nb := P.at_lt hn1
        have HBS := hide hbs
        have HK : Hid (∀ wr, Below w.heap.size w wr → wr.cell? ⟨bl, off + k * 3, none⟩ = some (.int .i64 P.block) ∧ wr.cell? ⟨bl, off + k * 3 + 1, none⟩ = some P.tv ∧ wr.cell? ⟨bl, off + k * 3 + 2, none⟩ = some (.bool P.past)) := hide fun wr hbe =>
          ⟨by rw [hbe.cell (World.block_lt_of_cell? w _ c0)]; exact c0, by rw [hbe.cell (World.block_lt_of_cell? w _ c1)]; exact c1, by rw [hbe.cell (World.block_lt_of_cell? w _ c2)]; exact c2⟩
        have HKE : Hid (blk P.block nb = P.at_ nb) := hide rfl
        have HBG := hide (block_gen nb hn1 hn2)
        have HBY : Hid (∀ wr, Below w.heap.size w wr → Calls Try.prog 13 #[.agg #[.int .i64 P.block, P.tv, .bool P.past], .int .i64 (sz : Int)] wr fun e w' => ∃ g, e = .returned (sl g sz) ∧ wr.heap.size ≤ g ∧ PieceAt w' g (P.bs sz) ∧ Below wr.heap.size wr w') := hide fun wr hb =>
          bytes_any wr P sz HS.out (HBS.out.below hb)
        have HBL : Hid ((P.bs sz).length = sz) := hide (bs_len _ _)
        obtain ⟨k0, k1, k2⟩ := HK.out _ HD.out.be
        have HSN : Hid (S.nb = nb) := hide (HCK.out.nb.trans HFN.out)
        have HSS : Hid (S.sz = sz) := hide (HCK.out.sz.trans HFS.out)
        have HSC := hide HCK.out.calm
        clear c0 c1 c2 hbs hc hP hw1 hw2
        go_wp2_with (first
          | (go_at_call 12; refine (HBG.out _ _ _ _ hib).mono ?_; rintro e wa ⟨rfl, hba⟩; rw [HKE.out]; have HD2 := hide (HD.out.below hba); have HIN2 := hide (HIN.out.grow (Grow.ofBelow U' hba)); obtain ⟨m0, m1, m2⟩ := HK.out _ HD2.out.be; clear hba)
          | (go_at_call 13; refine (HBY.out _ HD2.out.be).mono ?_; rintro e wb ⟨gp, rfl, -, hpc, hbb⟩; have HD3 := hide (HD2.out.below hbb); have HIN3 := hide (HIN2.out.grow (Grow.ofBelow U' hbb)); have HPC := hide hpc; clear hbb hpc))
        generalize hKK : P.at_ nb = K at *
        generalize P.bs sz = BB at *
        have HWR := hide (write_calm HD3.out.rep HSC.out (k := K) (by rw [HSN.out]; exact hKlt) HPC.out (by rw [HBL.out, HSS.out]) HSS.out.symm HCB.out)
        unfold PD at HWR
        refine HWR.out.mono ?_
        rintro e w4 ⟨rfl, U4, hR4, hG4⟩
        have HD4 := hide (HD3.out.grow hR4 hG4)
        have HIN4 := hide (HIN3.out.grow hG4)
        clear hR4 hG4 HWR HD2 HD3 HIN2 HIN3 m0 m1 m2 k0 k1 k2 HPC
        generalize S.write (K : Nat) BB = T at *
        have HTN : Hid (T.nb = nb) := hide (HW1.out.nb.trans HFN.out)
        go_wp2_with fail
        have hre : T.readErr (K : Int) = 0 := by
          unfold St.readErr
          rw [if_neg (by rw [HTN.out]; omega), if_neg (by rw [HW1.out.calm.1]; simp), if_neg (by rw [Int.toNat_natCast, HW2.out]; simp)]
        have HRD := hide (Read_any HD4.out.rep (K : Int))
        rw [hre, Int.toNat_natCast, HW2.out] at HRD
        unfold PD at HRD
        refine HRD.out.mono ?_
        rintro e w5 ⟨v, u, rfl, hE, hV0, -, hR5, hG5⟩
        obtain rfl := hE.zero
        obtain ⟨l, hl, gl, rfl, -, hpl, -⟩ := hV0 rfl
        have el : BB = l := Option.some.inj hl
        subst el
        have HPL := hide hpl
        have HD5 := hide (HD4.out.grow hR5 hG5)
        have HIN5 := hide (HIN4.out.grow hG5)
        have HCK5 := hide (HW1.out.like (read_like T (K : Int)))
        clear hV0 hR5 hG5 hl hpl HRD HD4 HIN4
        generalize T.read (K : Int) = V at *
        obtain ⟨k0, k1, k2⟩ := HK.out _ HD5.out.be
        have HSB : Hid (∀ wr gp, BSl wr (sl gl BB.length) BB → PieceAt wr gp BB → Calls Try.prog 18 #[sl gl BB.length, sl gp sz] wr fun e w' => e = .returned (.bool true) ∧ Below wr.heap.size wr w') := hide fun wr gp y1 hpc => by
          have y2 := hpc.bsl
          rw [HBL.out] at y2
          refine (same_any _ _ _ _ wr y1 y2).mono ?_
          rintro e w' ⟨rfl, j, rfl⟩
          exact ⟨by simp, below_drewN (Below.refl _ _) j⟩
        go_wp2_with (first
          | (go_at_call 13; refine (HBY.out _ HD5.out.be).mono ?_; rintro e wb ⟨gp, rfl, -, hpc, hbb⟩; have HD6 := hide (HD5.out.below hbb); have HIN6 := hide (HIN5.out.grow (Grow.ofBelow U4 hbb)); have HPC := hide hpc; have HPL6 := hide (HPL.out.bsl.below hbb); clear hbb hpc)
          | (go_at_call 18; refine (HSB.out _ _ HPL6.out HPC.out).mono ?_; rintro e wc ⟨rfl, hbc⟩; have HD7 := hide (HD6.out.below hbc); have HIN7 := hide (HIN6.out.grow (Grow.ofBelow U4 hbc)); clear hbc))
        go_roundw
        case rel => exact ⟨k + 1, U4, V, by omega, by go_num, HD7.out, HCK5.out, HIN7.out⟩
        case measure => simp [intOf]; omega
      · have HTE : Hid (ps.take k = ps) := hide (List.take_of_length_le (by omega))
        rw [HTE.out] at HCK
        -- the crash
        go_wp2_with fail
        have HC3 := hide (Crash_any HD.out.rep (HD.out.bsl H3.out) (fun hpos g hg hu => by have := H3.out.old hpos g hg; have := HD.out.up g hu; omega) (fun j => by
          have h1 := mineL_len ps F.nb j
          rw [HCK.out.cache j, List.length_map]
          omega))
        unfold PD at HC3
        refine HC3.out.mono ?_
        rintro e w8 ⟨rfl, hR8, hG8⟩
        have HD8 := hide (HD.out.growS hR8 hG8)
        have HIN8 := hide (HIN.out.grow hG8)
        have HCR : Hid (∀ j, j < nb → (keptN p j (mineL ps nb j).length = 0 → (S.crash p).rdE j = F.rdE j ∧ (S.crash p).rdV j = F.rdV j) ∧ (∀ i (hi : i < (mineL ps nb j).length), keptN p j (mineL ps nb j).length = i + 1 → (S.crash p).rdE j = 0 ∧ (S.crash p).rdV j = some ((mineL ps nb j)[i].bs sz))) := hide fun j hj => by
          have := HCK.out.crash HFC.out HFD.out p j (by rw [HFN.out]; exact hj)
          rw [HFS.out] at this
          have e := HFN.out
          revert this
          rw [e]
          exact fun h => h
        have HVN : Hid ((S.crash p).nb = nb) := hide (HCK.out.nb.trans HFN.out)
        have hof : (S.crash p).off = false := rfl
        have HOF := hide hof
        clear hR8 hG8 HC3 HD HIN HCK HTE hof
        generalize S.crash p = V at *
        generalize hLU : ({ L with U := U' } : Lay) = M at *
        have eP : L.p = M.p := by rw [← hLU]
        rw [eP]
        clear hLU eP
        -- seen
        go_wp2_with fail
        have HSE := hide (seen_any HD8.out)
        rw [HVN.out] at HSE
        unfold PD at HSE
        refine HSE.out.mono ?_
        rintro e w9 ⟨b2, e2, rfl, hD9, hS9, hG9⟩
        rw [HVN.out] at hD9 hS9
        have HD9 := hide hD9
        have HS9 := hide hS9
        have HIN9 := hide (HIN8.out.grow hG9)
        clear hD9 hS9 hG9 HSE HD8 HIN8
        obtain ⟨y1, y2, y3, y4, y5, y6, ef1, ef2⟩ := HS9.out.form
        subst ef1 ef2
        have HJ10 := hide (SeenIn.mk' HD9.out.rep HS9.out)
        have hb10 := (Below.refl w9.heap.size w9).alloc (Nat.le_refl _) (.cells #[.slice y1 y2 y3, .slice y4 y5 y6] 53)
        have HD10 := hide (HD9.out.below hb10)
        have HI10 := hide (HIN9.out.grow (Grow.ofBelow M.U hb10))
        clear HS9 HIN9 hb10 HD9
        go_wp2
        generalize hW10 : w9.alloc (.cells #[.slice y1 y2 y3, .slice y4 y5 y6] 53) = w10 at *
        clear hW10
        obtain ⟨g, g', rfl, ex2, ha3, ha4, rfl, ex5, hb3, hb4, hbox0, hbox1, hcells⟩ := HI10.out.both hn1
        replace ex2 := ex2.symm
        replace ex5 := ex5.symm
        subst ex2
        subst ex5
        obtain ⟨f, f', rfl, ey2, hc3, hc4, rfl, ey5, hd3, hd4, hbox2, hbox3, hcells2⟩ := HJ10.out.both hn1
        replace ey2 := ey2.symm
        replace ey5 := ey5.symm
        subst ey2
        subst ey5
        unfold maxLen at ha4 hb4 hc4 hd4
        have HCELLS := hide hcells
        have HCELLS2 := hide hcells2
        clear hcells hcells2
        obtain ⟨i0, hi, hz0, hz1, hz2⟩ := info_parts info_put
        have HPS : Hid (∀ wr, Below w10.heap.size w10 wr → ∀ i (h : i < ps.length), ∃ bl off, a2 = some ⟨bl, off, none⟩ ∧ wr.cell? ⟨bl, off + i * 3, none⟩ = some (.int .i64 ps[i].block) ∧ wr.cell? ⟨bl, off + i * 3 + 1, none⟩ = some ps[i].tv ∧ wr.cell? ⟨bl, off + i * 3 + 2, none⟩ = some (.bool ps[i].past) ∧ BSl wr ps[i].tv ps[i].tl ∧ i64ok ps[i].block) := hide fun wr hb i h => by
          have h2 := H2.out.below (HD10.out.below hb).be
          obtain ⟨bl, off, cap, ev2, -, -, hbs, hib, hc⟩ := h2.at_ h
          simp only [Value.slice.injEq] at ev2
          obtain ⟨c0, c1, c2⟩ := hc i h
          exact ⟨bl, off, ev2.1, c0, c1, c2, hbs, hib⟩
        go_loopw [19] (fun x wr => ∃ j : Nat, j ≤ nb ∧ x = .int .i64 (j : Int) ∧ Below w10.heap.size w10 wr) (fun x _ => nb - (intOf x).toNat)
        case atStart => exact ⟨0, Nat.zero_le _, rfl, Below.refl _ _⟩
        case round =>
          obtain ⟨j, hj, rfl, hbr⟩ := hrel
          by_cases hlj : j < nb
          · go_wp2_with fail
            go_loopw [20, 21] (fun mv x wr => ∃ i : Nat, i ≤ ps.length ∧ x = .int .i64 (i : Int) ∧ Below w10.heap.size w10 wr ∧ wr.ownsRow w10.heap.size 26 3 mv (mineL (ps.take i) nb j).length (putCells (mineL (ps.take i) nb j))) (fun _ x _ => ps.length - (intOf x).toNat)
            case atStart => exact ⟨0, Nat.zero_le _, rfl, hbr, World.ownsRow_nil _ _ _ _⟩
            case round =>
              clear hbr
              obtain ⟨i, hi', rfl, hbi, hown⟩ := hrel
              have HOW := hide hown
              clear hown
              by_cases hli : i < ps.length
              · obtain ⟨bl, off, ea, c0, c1, c2, hbs, hib⟩ := HPS.out _ hbi i hli
                subst ea
                have HSN := hide (mineL_snoc ps nb j hli)
                have hml : (mineL (ps.take i) nb j).length ≤ i := by
                  have := mineL_len (ps.take i) nb j
                  simp only [List.length_take] at this
                  omega
                generalize hP : ps[i] = P at *
                have HBS := hide hbs
                have HKE : Hid (blk P.block nb = P.at_ nb) := hide rfl
                have HBG := hide (block_gen nb hn1 hn2)
                have HLT : Hid (∀ wr', Below w10.heap.size w10 wr' → wr'.cell? ⟨bl, off + i * 3, none⟩ = some (.int .i64 P.block) ∧ wr'.cell? ⟨bl, off + i * 3 + 1, none⟩ = some P.tv ∧ wr'.cell? ⟨bl, off + i * 3 + 2, none⟩ = some (.bool P.past)) := hide fun wr' hb => by
                  obtain ⟨bl', off', ea, z0, z1, z2, -, -⟩ := HPS.out _ hb i hli
                  simp only [Option.some.injEq, Addr.mk.injEq] at ea
                  obtain ⟨rfl, rfl, -⟩ := ea
                  rw [hP] at z0 z1 z2
                  exact ⟨z0, z1, z2⟩
                have hto : P.tv.oneCell' = true := by
                  obtain ⟨a, cap, e, _⟩ := hbs
                  rw [e]; rfl
                have HTO := hide hto
                clear hbs hto hP
                by_cases hat : P.at_ nb = j
                · rw [if_pos hat] at HSN
                  go_wp2_with (first
                    | (go_at_call 12; refine (HBG.out _ _ _ _ hib).mono ?_; rintro e wa ⟨rfl, hba⟩; rw [HKE.out, hat]; have hbw := hbi.trans (hba.mono hbi.size); obtain ⟨m0, m1, m2⟩ := HLT.out wa hbw; have r3a := (ownsRow_keptIf3 HOW.out fun g hg => hba.block g (HOW.out.lt g hg).2).alloc (.cells #[.int .i64 P.block, P.tv, .bool P.past] 26); clear hba)
                    | (at_builtin; refine wpList_append_own_at _ rfl (.tmp 104) (.tmp 109) 23 rfl w10.heap.size 26 i0 (.agg #[.int .i64 0, .slice none 0 0, .bool false]) 3 40 Try.underlying23 hi hz0 hz1 hz2 rfl (by decide) _ _ _ rfl r3a ⟨wa.heap.size, 0, none⟩ 1 1 [.int .i64 P.block, P.tv, .bool P.past] rfl rfl (cell_three_new _ _ _ _ _) (by intro u hu; simp only [List.mem_cons, List.not_mem_nil, or_false] at hu; rcases hu with rfl | rfl | rfl; rfl; exact HTO.out; rfl) (by unfold maxLen; omega) (by omega) (by have := hbw.size; simp; omega) ?_))
                  intro mv' w4 ho4 hg4 _ hloc4
                  have hb4 : Below w10.heap.size w10 w4 := (hbw.alloc hbw.size _).grown hg4 (by have := hbw.size; simp; omega) (fun g hg => (r3a.lt g hg).1)
                  go_wp2
                  go_roundw
                  case rel => exact ⟨i + 1, by omega, by go_num, hb4, by rw [HSN.out, putCells_snoc, List.length_append]; exact ho4⟩
                  case measure => simp [intOf]; omega
                · rw [if_neg hat] at HSN
                  have hne : ¬ ((P.at_ nb : Nat) : Int) = (j : Int) := by omega
                  go_wp2_with (first
                    | (go_at_call 12; refine (HBG.out _ _ _ _ hib).mono ?_; rintro e wa ⟨rfl, hba⟩; rw [HKE.out]; have hbw := hbi.trans (hba.mono hbi.size); have r3a := (ownsRow_keptIf3 HOW.out fun g hg => hba.block g (HOW.out.lt g hg).2); clear hba))
                  go_roundw
                  case rel => exact ⟨i + 1, by omega, by go_num, hbw, by rw [HSN.out]; exact r3a⟩
                  case measure => simp [intOf]; omega
              · have HTE : Hid (ps.take i = ps) := hide (List.take_of_length_le (by omega))
                rw [HTE.out] at HOW
                obtain ⟨am, cm, em, hm1, hm2⟩ := ownsRow_form HOW.out
                subst em
                unfold maxLen at hm2
                have hml := mineL_len ps nb j
                obtain ⟨cr0, cr1⟩ := HCR.out j hlj
                have HL := hide (left_any (HD10.out.below hbi |>.bsl H3.out) j (mineL ps nb j).length (by omega) (by omega))
                have HKL := hide (keptN_le p j (mineL ps nb j).length)
                have HMS : Hid (∀ q ∈ mineL ps nb j, BSl w q.tv q.tl) := hide fun q hq => by
                  obtain ⟨_, _, _, _, _, hall, _⟩ := H2.out
                  exact (hall q (mineL_mem hq)).1
                have HCR0 := hide cr0
                have HCR1 := hide cr1
                have HBI := hide hbi
                clear cr0 cr1 HTE hbi
                generalize mineL ps nb j = ms at *
                cases hK : keptN p j ms.length with
                | zero =>
                  rw [hK] at HL HCR0
                  obtain ⟨eE, eV⟩ := HCR0.out rfl
                  obtain ⟨u1, hu1, hs1, hi1⟩ := HCELLS.out j hlj
                  obtain ⟨u2, hu2, hs2, hi2⟩ := HCELLS2.out j hlj
                  rw [eE] at hi2
                  rw [eV] at hs2
                  obtain ⟨a1, n1, c1, e1⟩ := hs1.one
                  obtain ⟨a3, n3, c3, e3⟩ := hs2.one
                  subst e1
                  subst e3
                  have HSB : Hid (∀ wr', Below w10.heap.size w10 wr' → Calls Try.prog 18 #[.slice a3 n3 c3, .slice a1 n1 c1] wr' fun e w' => e = .returned (.bool true) ∧ Below w10.heap.size w10 w') := hide fun wr' hb => by
                    have z1 := (hs1.kept (w' := wr') (U' := M.U) fun b hlt hu => ⟨hb.block b hlt, hu⟩).bsl
                    have z2 := (hs2.kept (w' := wr') (U' := M.U) fun b hlt hu => ⟨hb.block b hlt, hu⟩).bsl
                    refine (same_any _ _ _ _ wr' z2 z1).mono ?_
                    rintro e w' ⟨rfl, j, rfl⟩
                    exact ⟨by simp, below_drewN hb j⟩
                  have HK : Hid (∀ wr', Below w10.heap.size w10 wr' → wr'.cell? ⟨w9.heap.size, 0, none⟩ = some (.slice (some ⟨f, 0, none⟩) nb y3) ∧ wr'.cell? ⟨w9.heap.size, 1, none⟩ = some (.slice (some ⟨f', 0, none⟩) nb y6) ∧ wr'.cell? ⟨w6.heap.size, 0, none⟩ = some (.slice (some ⟨g, 0, none⟩) nb x3) ∧ wr'.cell? ⟨w6.heap.size, 1, none⟩ = some (.slice (some ⟨g', 0, none⟩) nb x6) ∧
                      wr'.cell? ⟨f, j, none⟩ = some (.slice a3 n3 c3) ∧ wr'.cell? ⟨f', j, none⟩ = some (.int .i64 (F.rdE j)) ∧ wr'.cell? ⟨g, j, none⟩ = some (.slice a1 n1 c1) ∧ wr'.cell? ⟨g', j, none⟩ = some (.int .i64 (F.rdE j))) := hide fun wr' hb =>
                    ⟨by rw [hb.cell (World.block_lt_of_cell? w10 _ hbox2)]; exact hbox2, by rw [hb.cell (World.block_lt_of_cell? w10 _ hbox3)]; exact hbox3, by rw [hb.cell (World.block_lt_of_cell? w10 _ hbox0)]; exact hbox0, by rw [hb.cell (World.block_lt_of_cell? w10 _ hbox1)]; exact hbox1,
                      by rw [hb.cell (World.block_lt_of_cell? w10 _ hu2)]; exact hu2, by rw [hb.cell (World.block_lt_of_cell? w10 _ hi2)]; exact hi2, by rw [hb.cell (World.block_lt_of_cell? w10 _ hu1)]; exact hu1, by rw [hb.cell (World.block_lt_of_cell? w10 _ hi1)]; exact hi1⟩
                  clear hu1 hu2 hi1 hi2 hs1 hs2 eE eV
                  generalize F.rdE j = ee at HK
                  go_wp2_with (go_at_call 26; refine HL.out.mono ?_; rintro e w' ⟨rfl, hw'⟩; cases hw')
                  have hbw := HBI.out
                  obtain ⟨t0, t1, t2, t3, t4, t5, t6, t7⟩ := HK.out _ hbw
                  go_region_held3 (fun w' => Below w10.heap.size w10 w' ∧ w'.cell? ⟨w9.heap.size, 0, none⟩ = some (.slice (some ⟨f, 0, none⟩) nb y3) ∧ w'.cell? ⟨w9.heap.size, 1, none⟩ = some (.slice (some ⟨f', 0, none⟩) nb y6) ∧ w'.cell? ⟨w6.heap.size, 0, none⟩ = some (.slice (some ⟨g, 0, none⟩) nb x3) ∧ w'.cell? ⟨w6.heap.size, 1, none⟩ = some (.slice (some ⟨g', 0, none⟩) nb x6) ∧
                      w'.cell? ⟨f, j, none⟩ = some (.slice a3 n3 c3) ∧ w'.cell? ⟨f', j, none⟩ = some (.int .i64 ee) ∧ w'.cell? ⟨g, j, none⟩ = some (.slice a1 n1 c1) ∧ w'.cell? ⟨g', j, none⟩ = some (.int .i64 ee))
                    (first | exact ⟨Below.drew hbw, t0, t1, t2, t3, t4, t5, t6, t7⟩ | exact ⟨hbw2, r0, r1, r2, r3, r4, r5, r6, r7⟩)
                    (first
                      | (go_at_call 18; refine (HSB.out _ (Below.drew hbw)).mono ?_; rintro e wc ⟨rfl, hbw2⟩; obtain ⟨r0, r1, r2, r3, r4, r5, r6, r7⟩ := HK.out wc hbw2))
                  go_wp2
                  go_roundw
                  case rel => exact ⟨j + 1, by omega, by go_num, hbw2⟩
                  case measure => simp [intOf]; omega
                | succ q =>
                  rw [hK] at HL HCR1 HKL
                  have hqm : q < ms.length := by have := HKL.out; omega
                  obtain ⟨eE, eV⟩ := HCR1.out q hqm rfl
                  obtain ⟨u2, hu2, hs2, hi2⟩ := HCELLS2.out j hlj
                  rw [eE] at hi2
                  rw [eV] at hs2
                  obtain ⟨gm, eam, hcm⟩ := ownsRow_cells HOW.out (by omega)
                  subst eam
                  obtain ⟨d0, d1, d2⟩ := putCells_at ms q hqm
                  have n0 := hcm _ _ d0
                  have n1 := hcm _ _ d1
                  have n2 := hcm _ _ d2
                  have HBQ := hide (HMS.out ms[q] (List.getElem_mem hqm))
                  generalize ms[q] = Q at *
                  obtain ⟨a3, n3, c3, e3⟩ := hs2.one
                  subst e3
                  have e4 : ((q + 1 : Nat) : Int) = (q : Int) + 1 := by omega
                  rw [e4] at HL
                  have hq63 : IntKind.i64.wrap ((q : Int) + 1 - 1) = (q : Int) := by simp [IntKind.wrap, IntKind.bits, IntKind.signed]; omega
                  have hqi : (0 : Int) ≤ (q : Int) := by omega
                  have hql : (q : Int) < (ms.length : Int) := by omega
                  have hq64 : IntKind.i64.wrap (q : Int) = (q : Int) := by simp [IntKind.wrap, IntKind.bits, IntKind.signed]; omega
                  have HUP : Hid (∀ wr', Below wr.heap.size wr wr' → Below w10.heap.size w10 wr') := hide fun wr' hb => HBI.out.trans (hb.mono HBI.out.size)
                  have HBY : Hid (∀ wr', Below wr.heap.size wr wr' → Calls Try.prog 13 #[.agg #[.int .i64 Q.block, Q.tv, .bool Q.past], .int .i64 (sz : Int)] wr' fun e w' => ∃ g, e = .returned (sl g sz) ∧ PieceAt w' g (Q.bs sz) ∧ Below wr.heap.size wr w') := hide fun wr' hb =>
                    (bytes_any wr' Q sz HS.out (HBQ.out.below (HD10.out.below (HUP.out wr' hb)).be)).mono (by
                      rintro e w' ⟨g, rfl, -, hpc, hbb⟩
                      exact ⟨g, rfl, hpc, hb.trans (hbb.mono hb.size)⟩)
                  have HSB : Hid (∀ wr' gp, Below wr.heap.size wr wr' → PieceAt wr' gp (Q.bs sz) → Calls Try.prog 18 #[.slice a3 n3 c3, sl gp sz] wr' fun e w' => e = .returned (.bool true) ∧ Below wr.heap.size wr w') := hide fun wr' gp hb hpc => by
                    have z2 := (hs2.kept (w' := wr') (U' := M.U) fun b hlt hu => ⟨(HUP.out wr' hb).block b hlt, hu⟩).bsl
                    have z1 := hpc.bsl
                    rw [bs_len] at z1
                    refine (same_any _ _ _ _ wr' z2 z1).mono ?_
                    rintro e w' ⟨rfl, j, rfl⟩
                    exact ⟨by simp, below_drewN hb j⟩
                  have HK : Hid (∀ wr', Below wr.heap.size wr wr' → wr'.cell? ⟨w9.heap.size, 0, none⟩ = some (.slice (some ⟨f, 0, none⟩) nb y3) ∧ wr'.cell? ⟨w9.heap.size, 1, none⟩ = some (.slice (some ⟨f', 0, none⟩) nb y6) ∧
                      wr'.cell? ⟨f, j, none⟩ = some (.slice a3 n3 c3) ∧ wr'.cell? ⟨f', j, none⟩ = some (.int .i64 0) ∧ wr'.cell? ⟨gm, q * 3, none⟩ = some (.int .i64 Q.block) ∧ wr'.cell? ⟨gm, q * 3 + 1, none⟩ = some Q.tv ∧ wr'.cell? ⟨gm, q * 3 + 2, none⟩ = some (.bool Q.past)) := hide fun wr' hb' => by
                    have hb := HUP.out wr' hb'
                    exact ⟨by rw [hb.cell (World.block_lt_of_cell? w10 _ hbox2)]; exact hbox2, by rw [hb.cell (World.block_lt_of_cell? w10 _ hbox3)]; exact hbox3,
                      by rw [hb.cell (World.block_lt_of_cell? w10 _ hu2)]; exact hu2, by rw [hb.cell (World.block_lt_of_cell? w10 _ hi2)]; exact hi2,
                      by rw [hb'.cell (World.block_lt_of_cell? wr _ n0)]; exact n0, by rw [hb'.cell (World.block_lt_of_cell? wr _ n1)]; exact n1, by rw [hb'.cell (World.block_lt_of_cell? wr _ n2)]; exact n2⟩
                  clear hu2 hi2 hs2 eE eV n0 n1 n2 d0 d1 d2 hcm
                  go_wp2_with (go_at_call 26; refine HL.out.mono ?_; rintro e w' ⟨rfl, hw'⟩; cases hw')
                  have hbw : Below wr.heap.size wr wr := Below.refl _ _
                  obtain ⟨t0, t1, t2, t3, t4, t5, t6⟩ := HK.out _ hbw
                  generalize Q.bs sz = BB at *
                  go_region_held3 (fun w' => Below wr.heap.size wr w' ∧ w'.cell? ⟨w9.heap.size, 0, none⟩ = some (.slice (some ⟨f, 0, none⟩) nb y3) ∧ w'.cell? ⟨w9.heap.size, 1, none⟩ = some (.slice (some ⟨f', 0, none⟩) nb y6) ∧
                      w'.cell? ⟨f, j, none⟩ = some (.slice a3 n3 c3) ∧ w'.cell? ⟨f', j, none⟩ = some (.int .i64 0) ∧ w'.cell? ⟨gm, q * 3, none⟩ = some (.int .i64 Q.block) ∧ w'.cell? ⟨gm, q * 3 + 1, none⟩ = some Q.tv ∧ w'.cell? ⟨gm, q * 3 + 2, none⟩ = some (.bool Q.past))
                    (first | exact ⟨Below.drew hbw, t0, t1, t2, t3, t4, t5, t6⟩ | exact ⟨hbw2, r0, r1, r2, r3, r4, r5, r6⟩ | exact ⟨hbw3, s0, s1, s2, s3, s4, s5, s6⟩)
                    (first
                      | (go_at_call 13; refine (HBY.out _ (Below.drew hbw)).mono ?_; rintro e wb ⟨gp, rfl, hpc, hbw2⟩; have HPC := hide hpc; clear hpc; obtain ⟨r0, r1, r2, r3, r4, r5, r6⟩ := HK.out wb hbw2)
                      | (go_at_call 18; refine (HSB.out _ gp hbw2 HPC.out).mono ?_; rintro e wc ⟨rfl, hbw3⟩; obtain ⟨s0, s1, s2, s3, s4, s5, s6⟩ := HK.out wc hbw3))
                  go_wp2
                  go_roundw
                  case rel => exact ⟨j + 1, by omega, by go_num, HUP.out _ hbw3⟩
                  case measure => simp [intOf]; omega
          · have HD11 := hide (HD10.out.below hbr)
            clear hbr
            have hrof : (V.reads nb).off = false := by rw [(reads_same V nb).2.2.2.2.1]; exact HOF.out
            go_wp2_with fail
            have HON := hide (On_any HD11.out.rep)
            unfold PD at HON
            refine HON.out.mono ?_
            rintro e w12 ⟨rfl, hw12⟩
            cases hw12
            rw [hrof]
            go_wp2
            go_ret
            exact ⟨rfl, HD11.out.be⟩
end Go.Proofs.Ytlpmpicmpklaoaa
