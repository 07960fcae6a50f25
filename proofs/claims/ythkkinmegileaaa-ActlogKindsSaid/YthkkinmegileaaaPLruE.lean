import Derived.Test.YthkkinmegileaaaPLruD
namespace Go.Proofs.Ythkkinmegileaaa.Sp
open Go.RowKit Go.Sort
set_option linter.unusedVariables false
set_option linter.unusedSimpArgs false
set_option maxRecDepth 20000

theorem keys_step {w wr w4 : World} {n : Nat} {v v' : Value} {xs ys zs : List Value} {o : Obj} (ho : w4.ownsRow 0 34 2 v' (n + 1) (xs ++ ys)) (hu : Upon (wr.alloc o) w4 v v') (hb : Below w.heap.size w wr) (hl : ∀ b, v.ownBlock = some b → w.heap.size ≤ b) (he : zs = xs ++ ys) :
    w4.ownsRow 0 34 2 v' (n + 1) zs ∧ Below w.heap.size w w4 ∧ ∀ b, v'.ownBlock = some b → w.heap.size ≤ b := by
  have hs := hb.size
  refine ⟨he ▸ ho, (hu.chg (U := fun _ => False) (Chg.ofBelow hb) fun b e => .inr (hl b e)).below (Nat.le_refl _) fun b e => e.elim, fun b e => ?_⟩
  rcases hu.loc b e with e | e
  · exact hl b e
  · rw [World.size_alloc] at e; omega
set_option maxHeartbeats 2000000 in
theorem Keys_any {w : World} {p bm : Nat} {kv rv iv : Value} {S : LS} {M : Nat} (h : LRep w p bm kv rv iv S) (hS : S.Ok M) :
    Calls Try.prog 35 #[.pointer (some ⟨p, 0, none⟩)] w fun e w' => ∃ v, e = .returned v ∧ w'.ownsRow 0 34 2 v S.keys.length (S.keys.flatMap pC) ∧ Below w.heap.size w w' ∧ ∀ b, v.ownBlock = some b → w.heap.size ≤ b := by
  obtain ⟨i0, hi, hz0, hz1, hz2⟩ := spot_parts info_spot
  have h16 := hS.s2
  have hkl := hS.kl
  have HRL := hide hS.rl
  have hni : S.idle.length ≤ 16 := by
    have hsub : ∀ x ∈ S.idle, x < S.rs.length := fun x hx => (List.getElem?_eq_some_iff.1 ((hS.im x).1 hx)).1
    have := nodup_bound hS.id hsub
    have := hS.rl
    omega
  have hnk : S.ks.length ≤ 16 := by omega
  have HIM : Hid (∀ i, i < S.idle.length → S.idle.getD i 0 < S.ks.length) := hide fun i hi => by
    have h1 : S.idle.getD i 0 ∈ S.idle := by simp [List.getD, hi]
    have h2 := (List.getElem?_eq_some_iff.1 ((hS.im _).1 h1)).1
    rw [hS.rl] at h2
    exact h2
  obtain ⟨ak, ck, ekv, hk1, hk2⟩ := rowForm h.ko
  obtain ⟨ar, cr, erv, hr1, hr2⟩ := rowForm h.ro
  obtain ⟨ai, ci, eiv, hi1, hi2⟩ := rowForm h.io
  subst ekv erv eiv
  unfold maxLen at hk2 hr2 hi2
  have HB : Hid (∀ x, Below w.heap.size w x → LRep x p bm (.slice ak S.ks.length ck) (.slice ar S.rs.length cr) (.slice ai S.idle.length ci) S) := hide fun x hx => h.below hx
  have HCI : Hid (∀ x, Below w.heap.size w x → ∀ i, i < S.idle.length → ∃ g, ai = some ⟨g, 0, none⟩ ∧ x.cell? ⟨g, i, none⟩ = some (.int .i64 (S.idle.getD i 0 : Nat))) := hide fun x hx i hi => by
    obtain ⟨g, cap, cs, e, hc, -⟩ := row_at (s := i) (r := S.idle.getD i 0) (HB.out x hx).io (by simp [List.getD, hi])
    simp only [Value.slice.injEq] at e
    exact ⟨g, e.1, hc⟩
  have HCK : Hid (∀ x, Below w.heap.size w x → ∀ i, i < S.ks.length → ∃ g, ak = some ⟨g, 0, none⟩ ∧ x.cell? ⟨g, i * 2, none⟩ = some (.int .i64 (pA (S.ks.getD i 0))) ∧ x.cell? ⟨g, i * 2 + 1, none⟩ = some (.int .u8 (pB (S.ks.getD i 0)))) := hide fun x hx i hi => by
    obtain ⟨g, cap, cs, e, hc, hd, -⟩ := row_atS (s := i) (r := S.ks.getD i 0) (HB.out x hx).ko (by simp [List.getD, hi])
    simp only [Value.slice.injEq] at e
    exact ⟨g, e.1, hc, hd⟩
  have HCR : Hid (∀ x, Below w.heap.size w x → ∀ i, i < S.ks.length → ∃ g, ar = some ⟨g, 0, none⟩ ∧ x.cell? ⟨g, i, none⟩ = some (.int .i64 (S.rs.getD i 0 : Nat)) ∧ i < S.rs.length) := hide fun x hx i hi => by
    rw [← HRL.out] at hi
    obtain ⟨g, cap, cs, e, hc, -⟩ := row_at (s := i) (r := S.rs.getD i 0) (HB.out x hx).ro (by simp [List.getD, hi])
    simp only [Value.slice.injEq] at e
    exact ⟨g, e.1, hc, hi⟩
  have c4 : w.cell? ⟨p, 4, none⟩ = some (.slice ai S.idle.length ci) := h.c 4
  have HT0 : Hid (w.ownsRow 0 34 2 (.slice none 0 0) 0 []) := hide ⟨rfl, .inl ⟨rfl, rfl⟩⟩
  have HBL := hide (LS.busy_len S)
  clear h hS hkl
  generalize hnke : S.ks.length = nk at *
  generalize hnie : S.idle.length = ni at *
  generalize hnre : S.rs.length = nr at *
  have HNK := hide hnke
  have HNI := hide hnie
  clear hnke hnie hnre
  go_enter Try.func35, Try.ntmps35
  go_wp2_with fail
  go_loopw [3, 13] (fun lv x wr => ∃ i : Nat, i ≤ ni ∧ x = .int .i64 (i : Int) ∧ wr.ownsRow 0 34 2 lv i (((S.idle.take i).map (fun s => S.ks.getD s 0)).flatMap pC) ∧ Below w.heap.size w wr ∧ ∀ b, lv.ownBlock = some b → w.heap.size ≤ b) (fun _ x _ => ni - (intOf x).toNat)
  case atStart => exact ⟨0, Nat.zero_le _, rfl, HT0.out, Below.refl _ _, fun b e => by simp [Value.ownBlock] at e⟩
  case round =>
    clear HT0 c4
    obtain ⟨i, hin, rfl, hown, hbe, hloc⟩ := hrel
    have HOW := hide hown
    have HBE := hide hbe
    have HLC := hide hloc
    obtain ⟨al, cl, el, hl1, hl2⟩ := rowForm hown
    subst el
    clear hown hloc
    have c2 : wr.cell? ⟨p, 2, none⟩ = some (.slice ak nk ck) := (HB.out wr hbe).c 2
    by_cases hlt : i < ni
    · obtain ⟨gi, rfl, hci⟩ := HCI.out wr hbe i hlt
      have hsk := HIM.out i hlt
      obtain ⟨gk, rfl, hck, hck2⟩ := HCK.out wr hbe (S.idle.getD i 0) hsk
      have HNX : Hid ((((S.idle.take (i + 1)).map (fun s => S.ks.getD s 0)).flatMap pC) = (((S.idle.take i).map (fun s => S.ks.getD s 0)).flatMap pC) ++ pC (S.ks.getD (S.idle.getD i 0) 0)) := hide (by
        rw [List.take_add_one, List.map_append, List.flatMap_append]
        congr 1
        rw [List.getElem?_eq_getElem (by rw [HNI.out]; exact hlt)]
        simp [List.getD, HNI.out, hlt])
      generalize (((S.idle.take i).map (fun s => S.ks.getD s 0)).flatMap pC) = xs at *
      generalize S.ks.getD (S.idle.getD i 0) 0 = key at *
      generalize S.idle.getD i 0 = s at *
      have o3 := HOW.out.alloc (.cells #[.int .i64 (pA key), .int .u8 (pB key)] 34)
      clear hbe
      go_wp2_with (at_builtin; refine wpList_appendC _ rfl (.tmp 17) (.tmp 25) 76 rfl 34 i0 (.agg #[.int .i64 0, .int .u8 0]) 2 16 Try.underlying76 hi hz0 hz1 hz2 rfl (by decide) _ _ _ rfl o3 ⟨wr.heap.size, 0, none⟩ 1 1 (pC key) rfl rfl (by decide) (cell_two_new _ _ _ _) (by simp [pC, Value.oneCell']) (by unfold maxLen; omega) (by omega) ?_)
      intro v' w4 ho4 hup4
      have hu4 : Upon (wr.alloc (.cells #[.int .i64 (pA key), .int .u8 (pB key)] 34)) w4 (.slice al i cl) v' := hup4
      have HN : Hid (w4.ownsRow 0 34 2 v' (i + 1) (((S.idle.take (i + 1)).map (fun s => S.ks.getD s 0)).flatMap pC) ∧ Below w.heap.size w w4 ∧ ∀ b, v'.ownBlock = some b → w.heap.size ≤ b) := hide (keys_step ho4 hu4 HBE.out HLC.out HNX.out)
      clear ho4 hup4 hu4 o3 c2
      go_wp2_with fail
      go_roundw
      case rel => exact ⟨i + 1, by omega, by go_num, HN.out.1, HN.out.2.1, HN.out.2.2⟩
      case measure => simp [intOf]; omega
    · have ei : i = ni := by omega
      subst ei
      have HOW2 : Hid (wr.ownsRow 0 34 2 (.slice al i cl) ((S.idle.map (fun s => S.ks.getD s 0) ++ S.busy 0).length) ((S.idle.map (fun s => S.ks.getD s 0) ++ S.busy 0).flatMap pC)) := hide (by
        have e1 : S.idle.take i = S.idle := by rw [← HNI.out, List.take_length]
        have := HOW.out
        rw [e1] at this
        have e2 : S.busy 0 = [] := rfl
        rw [e2, List.append_nil, List.length_map, HNI.out]
        exact this)
      clear hin hlt hl1 hl2 HOW HCI HIM
      go_wp2_with fail
      go_loopw [3, 33] (fun lv x wr => ∃ j : Nat, j ≤ nk ∧ x = .int .i64 (j : Int) ∧ wr.ownsRow 0 34 2 lv ((S.idle.map (fun s => S.ks.getD s 0) ++ S.busy j).length) ((S.idle.map (fun s => S.ks.getD s 0) ++ S.busy j).flatMap pC) ∧ Below w.heap.size w wr ∧ ∀ b, lv.ownBlock = some b → w.heap.size ≤ b) (fun _ x _ => nk - (intOf x).toNat)
      case atStart => exact ⟨0, Nat.zero_le _, rfl, HOW2.out, HBE.out, HLC.out⟩
      case round =>
        clear HOW2 HBE HLC c2 hbe
        obtain ⟨j, hjn, rfl, hown, hbe, hloc⟩ := hrel
        have HOW := hide hown
        have HBE := hide hbe
        have HLC := hide hloc
        obtain ⟨al, cl, el, hl1, hl2⟩ := rowForm hown
        subst el
        clear hown hloc
        have c3 : wr.cell? ⟨p, 3, none⟩ = some (.slice ar nr cr) := (HB.out wr hbe).c 3
        by_cases hlt : j < nk
        · obtain ⟨gk, rfl, hck, hck2⟩ := HCK.out wr hbe j hlt
          obtain ⟨gr, rfl, hcr0, -⟩ := HCR.out wr hbe j hlt
          have hbx : Below wr.heap.size wr (wr.alloc (.cells #[.int .i64 (pA (S.ks.getD j 0)), .int .u8 (pB (S.ks.getD j 0))] 34)) := (Below.refl _ _).alloc (Nat.le_refl _) _
          have hbw : Below w.heap.size w (wr.alloc (.cells #[.int .i64 (pA (S.ks.getD j 0)), .int .u8 (pB (S.ks.getD j 0))] 34)) := hbe.trans (hbx.mono hbe.size)
          have c3 := (HB.out _ hbw).c 3
          obtain ⟨gr', egr, hcr, hjr⟩ := HCR.out _ hbw j hlt
          simp only [Option.some.injEq, Addr.mk.injEq] at egr
          obtain ⟨rfl, -, -⟩ := egr
          have HOX := hide (HOW.out.alloc (.cells #[.int .i64 (pA (S.ks.getD j 0)), .int .u8 (pB (S.ks.getD j 0))] 34))
          have hrow := Go.heap_alloc_new wr (.cells #[.int .i64 (pA (S.ks.getD j 0)), .int .u8 (pB (S.ks.getD j 0))] 34)
          have hbl := HBL.out j
          have HBS := hide (LS.busy_succ S j)
          by_cases hpos : 0 < S.rs.getD j 0
          · rw [if_pos hpos] at HBS
            have b1 : (0 : Int) < ((S.rs.getD j 0 : Nat) : Int) := by omega
            have hlen : (S.idle.map (fun s => S.ks.getD s 0) ++ S.busy j).length ≤ 32 := by rw [List.length_append, List.length_map, HNI.out]; omega
            have HNX : Hid ((S.idle.map (fun s => S.ks.getD s 0) ++ S.busy (j + 1)).flatMap pC = (S.idle.map (fun s => S.ks.getD s 0) ++ S.busy j).flatMap pC ++ pC (S.ks.getD j 0)) := hide (by rw [HBS.out, ← List.append_assoc, List.flatMap_append]; simp)
            have HNL : Hid ((S.idle.map (fun s => S.ks.getD s 0) ++ S.busy (j + 1)).length = (S.idle.map (fun s => S.ks.getD s 0) ++ S.busy j).length + 1) := hide (by rw [HBS.out, ← List.append_assoc, List.length_append]; rfl)
            have hsz : (wr.alloc (.cells #[.int .i64 (pA (S.ks.getD j 0)), .int .u8 (pB (S.ks.getD j 0))] 34)).heap.size = wr.heap.size + 1 := World.size_alloc _ _
            generalize S.rs.getD j 0 = rr at *
            generalize S.ks.getD j 0 = key at *
            generalize hLL : (S.idle.map (fun s => S.ks.getD s 0) ++ S.busy j).length = LL at *
            generalize (S.idle.map (fun s => S.ks.getD s 0) ++ S.busy j).flatMap pC = xs at *
            clear hbe hpos hbl hLL HOW hbx HBE
            have HBE := hide hbw
            clear hbw
            have o3 := HOX.out.alloc (.cells #[.int .i64 (pA key), .int .u8 (pB key)] 34)
            have hnw : ∀ (j : Nat) (u : Value), (pC key)[j]? = some u → ((wr.alloc (.cells #[.int .i64 (pA key), .int .u8 (pB key)] 34)).alloc (.cells #[.int .i64 (pA key), .int .u8 (pB key)] 34)).cell? ((⟨wr.heap.size + 1, 0, none⟩ : Addr).add j) = some u := by
              rw [← hsz]
              exact cell_two_new _ _ _ _
            have HNW := hide hnw
            clear hnw hsz
            go_wp2_with (at_builtin; refine wpList_appendC _ rfl (.tmp 46) (.tmp 48) 76 rfl 34 i0 (.agg #[.int .i64 0, .int .u8 0]) 2 16 Try.underlying76 hi hz0 hz1 hz2 rfl (by decide) _ _ _ rfl o3 ⟨wr.heap.size + 1, 0, none⟩ 1 1 (pC key) rfl rfl (by decide) HNW.out (by simp [pC, Value.oneCell']) (by unfold maxLen; omega) (by omega) ?_)
            intro v' w4 ho4 hup4
            have hu4 : Upon ((wr.alloc (.cells #[.int .i64 (pA key), .int .u8 (pB key)] 34)).alloc (.cells #[.int .i64 (pA key), .int .u8 (pB key)] 34)) w4 (.slice al LL cl) v' := hup4
            have HN : Hid (w4.ownsRow 0 34 2 v' ((S.idle.map (fun s => S.ks.getD s 0) ++ S.busy (j + 1)).length) ((S.idle.map (fun s => S.ks.getD s 0) ++ S.busy (j + 1)).flatMap pC) ∧ Below w.heap.size w w4 ∧ ∀ b, v'.ownBlock = some b → w.heap.size ≤ b) := hide (by
              rw [HNL.out]
              exact keys_step ho4 hu4 HBE.out HLC.out HNX.out)
            clear ho4 hup4 hu4 o3 c3 HNW
            go_wp2_with fail
            go_roundw
            case rel => exact ⟨j + 1, by omega, by go_num, HN.out.1, HN.out.2.1, HN.out.2.2⟩
            case measure => simp [intOf]; omega
          · rw [if_neg hpos] at HBS
            have hz : S.rs.getD j 0 = 0 := by omega
            rw [hz] at hcr
            have HN : Hid ((wr.alloc (.cells #[.int .i64 (pA (S.ks.getD j 0)), .int .u8 (pB (S.ks.getD j 0))] 34)).ownsRow 0 34 2 (.slice al (S.idle.map (fun s => S.ks.getD s 0) ++ S.busy j).length cl) ((S.idle.map (fun s => S.ks.getD s 0) ++ S.busy (j + 1)).length) ((S.idle.map (fun s => S.ks.getD s 0) ++ S.busy (j + 1)).flatMap pC)) := hide (by rw [HBS.out]; exact HOX.out)
            generalize S.ks.getD j 0 = key at *
            generalize hLL : (S.idle.map (fun s => S.ks.getD s 0) ++ S.busy j).length = LL at *
            have HBW := hide hbw
            clear hpos hz hbl hbe hLL hbw hbx
            go_wp2_with fail
            go_roundw
            case rel => exact ⟨j + 1, by omega, by go_num, HN.out, HBW.out, HLC.out⟩
            case measure => simp [intOf]; omega
        · have ej : j = nk := by omega
          subst ej
          have HF : Hid (wr.ownsRow 0 34 2 (.slice al (S.idle.map (fun s => S.ks.getD s 0) ++ S.busy j).length cl) S.keys.length (S.keys.flatMap pC)) := hide (by
            have := HOW.out
            rw [LS.keys_eq, HNK.out]
            exact this)
          generalize hLL : (S.idle.map (fun s => S.ks.getD s 0) ++ S.busy j).length = LL at *
          clear hLL HOW hbe hjn hlt
          go_wp2_with fail
          go_ret
          exact ⟨_, rfl, HF.out, HBE.out, HLC.out⟩
end Go.Proofs.Ythkkinmegileaaa.Sp
