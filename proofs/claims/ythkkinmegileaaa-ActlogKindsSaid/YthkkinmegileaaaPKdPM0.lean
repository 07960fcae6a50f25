import Derived.Test.YthkkinmegileaaaSLru9
import Derived.Test.YthkkinmegileaaaARef7
import Derived.Test.YthkkinmegileaaaPLruE
import Derived.Test.YthkkinmegileaaaABook3
import Derived.Laws.IdiomStrings
import Derived.Test.YthkkinmegileaaaAOwn
import Derived.Deep.DeepHandedRow
namespace Go.Proofs.Ythkkinmegileaaa.St
open Go.RowKit Go.Sort
set_option linter.unusedVariables false
set_option linter.unusedSimpArgs false
set_option maxRecDepth 20000

theorem keys_step {w wr w4 : World} {n : Nat} {v v' y : Value} {xs zs : List Value} {o : Obj} (ho : w4.ownsRow 0 9 1 v' (n + 1) (xs ++ [y])) (hu : Upon (wr.alloc o) w4 v v') (hb : Below w.heap.size w wr) (hl : ∀ b, v.ownBlock = some b → w.heap.size ≤ b) (he : zs = xs ++ [y]) :
    w4.ownsRow 0 9 1 v' (n + 1) zs ∧ Below w.heap.size w w4 ∧ ∀ b, v'.ownBlock = some b → w.heap.size ≤ b := by
  have hs := hb.size
  refine ⟨he ▸ ho, (hu.chg (U := fun _ => False) (Chg.ofBelow hb) fun b e => .inr (hl b e)).below (Nat.le_refl _) fun b e => e.elim, fun b e => ?_⟩
  rcases hu.loc b e with e | e
  · exact hl b e
  · rw [World.size_alloc] at e; omega
set_option maxHeartbeats 2000000 in
theorem Keys_any {w : World} {p bm : Nat} {kv rv iv : Value} {S : LS} {M : Nat} (h : LRep w p bm kv rv iv S) (hS : S.Ok M) :
    Calls Try.prog 28 #[.pointer (some ⟨p, 0, none⟩)] w fun e w' => ∃ v, e = .returned v ∧ w'.ownsRow 0 9 1 v S.keys.length (S.keys.map sK) ∧ Below w.heap.size w w' ∧ ∀ b, v.ownBlock = some b → w.heap.size ≤ b := by
  obtain ⟨i0, hi, hz0, hz1, hz2⟩ := info_parts info_string
  have h16 := hS.s2
  have hkl := hS.kl
  have HRL := hide hS.rl
  have hni : S.idle.length ≤ 16 := by
    have hsub : ∀ x ∈ S.idle, x < S.rs.length := fun x hx => (List.getElem?_eq_some_iff.1 ((hS.im x).1 hx)).1
    have := nodup_bound hS.id hsub
    have := hS.rl
    omega
  have hnk : S.ks.length ≤ 16 := by omega
  have HIM : Hid (∀ i, i < S.idle.length → S.idle.getD i 0 < S.ks.length) := hide fun i hi => by
    have h1 : S.idle.getD i 0 ∈ S.idle := by simp [List.getD, hi]
    have h2 := (List.getElem?_eq_some_iff.1 ((hS.im _).1 h1)).1
    rw [hS.rl] at h2
    exact h2
  obtain ⟨ak, ck, ekv, hk1, hk2⟩ := rowForm h.ko
  obtain ⟨ar, cr, erv, hr1, hr2⟩ := rowForm h.ro
  obtain ⟨ai, ci, eiv, hi1, hi2⟩ := rowForm h.io
  subst ekv erv eiv
  unfold maxLen at hk2 hr2 hi2
  have HB : Hid (∀ x, Below w.heap.size w x → LRep x p bm (.slice ak S.ks.length ck) (.slice ar S.rs.length cr) (.slice ai S.idle.length ci) S) := hide fun x hx => h.below hx
  have HCI : Hid (∀ x, Below w.heap.size w x → ∀ i, i < S.idle.length → ∃ g, ai = some ⟨g, 0, none⟩ ∧ x.cell? ⟨g, i, none⟩ = some (.int .i64 (S.idle.getD i 0 : Nat))) := hide fun x hx i hi => by
    obtain ⟨g, cap, cs, e, hc, -⟩ := row_at (s := i) (r := S.idle.getD i 0) (HB.out x hx).io (by simp [List.getD, hi])
    simp only [Value.slice.injEq] at e
    exact ⟨g, e.1, hc⟩
  have HCK : Hid (∀ x, Below w.heap.size w x → ∀ i, i < S.ks.length → ∃ g, ak = some ⟨g, 0, none⟩ ∧ x.cell? ⟨g, i, none⟩ = some (.string (nm (S.ks.getD i 0)))) := hide fun x hx i hi => by
    obtain ⟨g, cap, cs, e, hc, -⟩ := row_atS (s := i) (r := S.ks.getD i 0) (HB.out x hx).ko (by simp [List.getD, hi])
    simp only [Value.slice.injEq] at e
    exact ⟨g, e.1, hc⟩
  have HCR : Hid (∀ x, Below w.heap.size w x → ∀ i, i < S.ks.length → ∃ g, ar = some ⟨g, 0, none⟩ ∧ x.cell? ⟨g, i, none⟩ = some (.int .i64 (S.rs.getD i 0 : Nat)) ∧ i < S.rs.length) := hide fun x hx i hi => by
    rw [← HRL.out] at hi
    obtain ⟨g, cap, cs, e, hc, -⟩ := row_at (s := i) (r := S.rs.getD i 0) (HB.out x hx).ro (by simp [List.getD, hi])
    simp only [Value.slice.injEq] at e
    exact ⟨g, e.1, hc, hi⟩
  have c4 : w.cell? ⟨p, 4, none⟩ = some (.slice ai S.idle.length ci) := h.c 4
  have HT0 : Hid (w.ownsRow 0 9 1 (.slice none 0 0) 0 []) := hide ⟨rfl, .inl ⟨rfl, rfl⟩⟩
  have HBL := hide (LS.busy_len S)
  clear h hS hkl
  generalize hnke : S.ks.length = nk at *
  generalize hnie : S.idle.length = ni at *
  generalize hnre : S.rs.length = nr at *
  have HNK := hide hnke
  have HNI := hide hnie
  clear hnke hnie hnre
  go_enter Try.func28, Try.ntmps28
  go_wp2_with fail
  go_loopw [3, 13] (fun lv x wr => ∃ i : Nat, i ≤ ni ∧ x = .int .i64 (i : Int) ∧ wr.ownsRow 0 9 1 lv i (((S.idle.take i).map (fun s => S.ks.getD s 0)).map sK) ∧ Below w.heap.size w wr ∧ ∀ b, lv.ownBlock = some b → w.heap.size ≤ b) (fun _ x _ => ni - (intOf x).toNat)
  case atStart => exact ⟨0, Nat.zero_le _, rfl, HT0.out, Below.refl _ _, fun b e => by simp [Value.ownBlock] at e⟩
  case round =>
    clear HT0 c4
    obtain ⟨i, hin, rfl, hown, hbe, hloc⟩ := hrel
    have HOW := hide hown
    have HBE := hide hbe
    have HLC := hide hloc
    obtain ⟨al, cl, el, hl1, hl2⟩ := rowForm hown
    subst el
    clear hown hloc
    have c2 : wr.cell? ⟨p, 2, none⟩ = some (.slice ak nk ck) := (HB.out wr hbe).c 2
    by_cases hlt : i < ni
    · obtain ⟨gi, rfl, hci⟩ := HCI.out wr hbe i hlt
      have hsk := HIM.out i hlt
      obtain ⟨gk, rfl, hck⟩ := HCK.out wr hbe (S.idle.getD i 0) hsk
      have HNX : Hid ((((S.idle.take (i + 1)).map (fun s => S.ks.getD s 0)).map sK) = (((S.idle.take i).map (fun s => S.ks.getD s 0)).map sK) ++ [.string (nm (S.ks.getD (S.idle.getD i 0) 0))]) := hide (by
        rw [List.take_add_one, List.map_append, List.map_append]
        congr 1
        rw [List.getElem?_eq_getElem (by rw [HNI.out]; exact hlt)]
        simp [sK, List.getD, HNI.out, hlt])
      generalize (((S.idle.take i).map (fun s => S.ks.getD s 0)).map sK) = xs at *
      generalize S.ks.getD (S.idle.getD i 0) 0 = key at *
      generalize S.idle.getD i 0 = s at *
      have o3 := HOW.out.alloc (.cells #[.string (nm key)] 9)
      clear hbe
      go_wp2_with (at_builtin; refine wpList_append1 _ rfl (.tmp 17) (.tmp 25) 66 rfl 9 i0 (.string ByteArray.empty) 16 Try.underlying66 hi hz0 hz1 hz2 rfl _ _ _ rfl o3 ⟨wr.heap.size, 0, none⟩ 1 (.string (nm key)) rfl (cell_one_new _ _ _) rfl (by unfold maxLen; omega) (by omega) ?_)
      intro v' w4 ho4 hup4
      have hu4 : Upon (wr.alloc (.cells #[.string (nm key)] 9)) w4 (.slice al i cl) v' := by unfold Upon; rw [World.size_alloc]; exact hup4
      have HN : Hid (w4.ownsRow 0 9 1 v' (i + 1) (((S.idle.take (i + 1)).map (fun s => S.ks.getD s 0)).map sK) ∧ Below w.heap.size w w4 ∧ ∀ b, v'.ownBlock = some b → w.heap.size ≤ b) := hide (keys_step ho4 hu4 HBE.out HLC.out HNX.out)
      clear ho4 hup4 hu4 o3 c2
      go_wp2_with fail
      go_roundw
      case rel => exact ⟨i + 1, by omega, by go_num, HN.out.1, HN.out.2.1, HN.out.2.2⟩
      case measure => simp [intOf]; omega
    · have ei : i = ni := by omega
      subst ei
      have HOW2 : Hid (wr.ownsRow 0 9 1 (.slice al i cl) ((S.idle.map (fun s => S.ks.getD s 0) ++ S.busy 0).length) ((S.idle.map (fun s => S.ks.getD s 0) ++ S.busy 0).map sK)) := hide (by
        have e1 : S.idle.take i = S.idle := by rw [← HNI.out, List.take_length]
        have := HOW.out
        rw [e1] at this
        have e2 : S.busy 0 = [] := rfl
        rw [e2, List.append_nil, List.length_map, HNI.out]
        exact this)
      clear hin hlt hl1 hl2 HOW HCI HIM
      go_wp2_with fail
      go_loopw [3, 33] (fun lv x wr => ∃ j : Nat, j ≤ nk ∧ x = .int .i64 (j : Int) ∧ wr.ownsRow 0 9 1 lv ((S.idle.map (fun s => S.ks.getD s 0) ++ S.busy j).length) ((S.idle.map (fun s => S.ks.getD s 0) ++ S.busy j).map sK) ∧ Below w.heap.size w wr ∧ ∀ b, lv.ownBlock = some b → w.heap.size ≤ b) (fun _ x _ => nk - (intOf x).toNat)
      case atStart => exact ⟨0, Nat.zero_le _, rfl, HOW2.out, HBE.out, HLC.out⟩
      case round =>
        clear HOW2 HBE HLC c2 hbe
        obtain ⟨j, hjn, rfl, hown, hbe, hloc⟩ := hrel
        have HOW := hide hown
        have HBE := hide hbe
        have HLC := hide hloc
        obtain ⟨al, cl, el, hl1, hl2⟩ := rowForm hown
        subst el
        clear hown hloc
        have c3 : wr.cell? ⟨p, 3, none⟩ = some (.slice ar nr cr) := (HB.out wr hbe).c 3
        by_cases hlt : j < nk
        · obtain ⟨gk, rfl, hck⟩ := HCK.out wr hbe j hlt
          obtain ⟨gr, rfl, hcr, hjr⟩ := HCR.out wr hbe j hlt
          have hbl := HBL.out j
          have HBS := hide (LS.busy_succ S j)
          by_cases hpos : 0 < S.rs.getD j 0
          · rw [if_pos hpos] at HBS
            have b1 : (0 : Int) < ((S.rs.getD j 0 : Nat) : Int) := by omega
            have hlen : (S.idle.map (fun s => S.ks.getD s 0) ++ S.busy j).length ≤ 32 := by rw [List.length_append, List.length_map, HNI.out]; omega
            have HNX : Hid ((S.idle.map (fun s => S.ks.getD s 0) ++ S.busy (j + 1)).map sK = (S.idle.map (fun s => S.ks.getD s 0) ++ S.busy j).map sK ++ [.string (nm (S.ks.getD j 0))]) := hide (by rw [HBS.out, ← List.append_assoc, List.map_append]; rfl)
            have HNL : Hid ((S.idle.map (fun s => S.ks.getD s 0) ++ S.busy (j + 1)).length = (S.idle.map (fun s => S.ks.getD s 0) ++ S.busy j).length + 1) := hide (by rw [HBS.out, ← List.append_assoc, List.length_append]; rfl)
            generalize S.rs.getD j 0 = rr at *
            generalize S.ks.getD j 0 = key at *
            have o3 := HOW.out.alloc (.cells #[.string (nm key)] 9)
            generalize hLL : (S.idle.map (fun s => S.ks.getD s 0) ++ S.busy j).length = LL at *
            generalize (S.idle.map (fun s => S.ks.getD s 0) ++ S.busy j).map sK = xs at *
            clear hbe hpos hbl hLL
            go_wp2_with (at_builtin; refine wpList_append1 _ rfl (.tmp 46) (.tmp 48) 66 rfl 9 i0 (.string ByteArray.empty) 16 Try.underlying66 hi hz0 hz1 hz2 rfl _ _ _ rfl o3 ⟨wr.heap.size, 0, none⟩ 1 (.string (nm key)) rfl (cell_one_new _ _ _) rfl (by unfold maxLen; omega) (by omega) ?_)
            intro v' w4 ho4 hup4
            have hu4 : Upon (wr.alloc (.cells #[.string (nm key)] 9)) w4 (.slice al LL cl) v' := by unfold Upon; rw [World.size_alloc]; exact hup4
            have HN : Hid (w4.ownsRow 0 9 1 v' ((S.idle.map (fun s => S.ks.getD s 0) ++ S.busy (j + 1)).length) ((S.idle.map (fun s => S.ks.getD s 0) ++ S.busy (j + 1)).map sK) ∧ Below w.heap.size w w4 ∧ ∀ b, v'.ownBlock = some b → w.heap.size ≤ b) := hide (by
              rw [HNL.out]
              exact keys_step ho4 hu4 HBE.out HLC.out HNX.out)
            clear ho4 hup4 hu4 o3 c3
            go_wp2_with fail
            go_roundw
            case rel => exact ⟨j + 1, by omega, by go_num, HN.out.1, HN.out.2.1, HN.out.2.2⟩
            case measure => simp [intOf]; omega
          · rw [if_neg hpos] at HBS
            have hz : S.rs.getD j 0 = 0 := by omega
            rw [hz] at hcr
            have HN : Hid (wr.ownsRow 0 9 1 (.slice al (S.idle.map (fun s => S.ks.getD s 0) ++ S.busy j).length cl) ((S.idle.map (fun s => S.ks.getD s 0) ++ S.busy (j + 1)).length) ((S.idle.map (fun s => S.ks.getD s 0) ++ S.busy (j + 1)).map sK)) := hide (by rw [HBS.out]; exact HOW.out)
            generalize S.ks.getD j 0 = key at *
            generalize hLL : (S.idle.map (fun s => S.ks.getD s 0) ++ S.busy j).length = LL at *
            clear hpos hz hbl hbe hLL
            go_wp2_with fail
            go_roundw
            case rel => exact ⟨j + 1, by omega, by go_num, HN.out, HBE.out, HLC.out⟩
            case measure => simp [intOf]; omega
        · have ej : j = nk := by omega
          subst ej
          have HF : Hid (wr.ownsRow 0 9 1 (.slice al (S.idle.map (fun s => S.ks.getD s 0) ++ S.busy j).length cl) S.keys.length (S.keys.map sK)) := hide (by
            have := HOW.out
            rw [LS.keys_eq, HNK.out]
            exact this)
          generalize hLL : (S.idle.map (fun s => S.ks.getD s 0) ++ S.busy j).length = LL at *
          clear hLL HOW hbe hjn hlt
          go_wp2_with fail
          go_ret
          exact ⟨_, rfl, HF.out, HBE.out, HLC.out⟩
end Go.Proofs.Ythkkinmegileaaa.St
namespace Go.Proofs.Ythkkinmegileaaa.St
open Go.RowKit Go.Sort
set_option linter.unusedVariables false
set_option linter.unusedSimpArgs false
set_option maxRecDepth 20000

set_option maxHeartbeats 1000000 in
theorem Slot_any {w : World} {p bm : Nat} {kv rv iv : Value} {S : LS} {M : Nat} {key : Int} (h : LRep w p bm kv rv iv S) (hS : S.Ok M) (hk : i64ok key) :
    Calls Try.prog 26 #[.pointer (some ⟨p, 0, none⟩), .string (nm key)] w fun e w' => ∃ r, e = .returned (.int .i64 r) ∧ w' = w ∧ SRes S key r := by
  have hkey := keyS hk
  obtain ⟨D, hown, hD1, hD2⟩ := h.look hS key
  have c1 : w.cell? ⟨p, 1, none⟩ = some (.map (some bm)) := h.c 1
  by_cases hin : key ∈ S.ks
  · obtain ⟨s, hs⟩ := List.getElem?_of_mem hin
    obtain ⟨hh, hc⟩ := hD1 s hs
    have HF : Hid (SRes S key (s : Int)) := hide (.inl ⟨s, hs, rfl⟩)
    clear h hS hs hD1 hD2 hin
    go_enter Try.func26, Try.ntmps26
    go_wp2_with (at_lookup; refine wpList_lookup_own_ok_int _ rfl _ _ 65 rfl 9 3 .i64 kStr Try.underlying65 Try.underlying3 (zeroI _) bm 16 D rfl hown _ (kL key) rfl hkey ?_)
    intro c hat hwc
    obtain rfl := hc c hat
    clear hat hwc hc
    go_wp2_with fail
    go_ret
    exact ⟨_, rfl, rfl, HF.out⟩
  · obtain ⟨hh, hc⟩ := hD2 hin
    have HF : Hid (SRes S key (-1)) := hide (.inr ⟨hin, rfl⟩)
    clear h hS hD1 hD2 hin
    go_enter Try.func26, Try.ntmps26
    go_wp2_with (at_lookup; refine wpList_lookup_own_ok_int _ rfl _ _ 65 rfl 9 3 .i64 kStr Try.underlying65 Try.underlying3 (zeroI _) bm 16 D rfl hown _ (kL key) rfl hkey ?_)
    intro c hat hwc
    obtain rfl := hc c hat
    clear hat hwc hc
    go_wp2_with fail
    go_ret
    exact ⟨_, rfl, rfl, HF.out⟩
set_option maxHeartbeats 1000000 in
theorem Refs_any {w : World} {p bm : Nat} {kv rv iv : Value} {S : LS} {M : Nat} {key : Int} (h : LRep w p bm kv rv iv S) (hS : S.Ok M) (hk : i64ok key) :
    Calls Try.prog 24 #[.pointer (some ⟨p, 0, none⟩), .string (nm key)] w fun e w' => ∃ r : Nat, e = .returned (.int .i64 (r : Int)) ∧ w' = w ∧ RefRes S key r := by
  have hkey := keyS hk
  obtain ⟨D, hown, hD1, hD2⟩ := h.look hS key
  have c1 : w.cell? ⟨p, 1, none⟩ = some (.map (some bm)) := h.c 1
  have h16 := hS.s2
  have hkl := hS.kl
  by_cases hin : key ∈ S.ks
  · obtain ⟨s, hs⟩ := List.getElem?_of_mem hin
    obtain ⟨hh, hc⟩ := hD1 s hs
    have hsr : s < S.rs.length := by rw [hS.rl]; exact (List.getElem?_eq_some_iff.1 hs).1
    have hrs : S.rs[s]? = some S.rs[s] := List.getElem?_eq_getElem hsr
    obtain ⟨g, cap, cs, erv, hcg, hcs⟩ := row_at h.ro hrs
    have hcap : S.rs.length ≤ cap ∧ cap ≤ 9223372036854775807 := by
      obtain ⟨a', c', e', q1, q2⟩ := rowForm (erv ▸ h.ro)
      simp only [Value.slice.injEq] at e'
      unfold maxLen at q2
      omega
    obtain ⟨hcap1, hcap2⟩ := hcap
    subst erv
    have hrl : S.rs.length ≤ 16 := by rw [hS.rl]; omega
    have c3 : w.cell? ⟨p, 3, none⟩ = some (.slice (some ⟨g, 0, none⟩) S.rs.length cap) := h.c 3
    have HF : Hid (RefRes S key S.rs[s]) := hide (.inl ⟨s, hs, hrs⟩)
    generalize S.rs[s] = r at *
    clear h hS hs hrs hD1 hD2 hin hcs
    generalize S.rs.length = nr at *
    go_enter Try.func24, Try.ntmps24
    go_wp2_with (at_lookup; refine wpList_lookup_own_ok_int _ rfl _ _ 65 rfl 9 3 .i64 kStr Try.underlying65 Try.underlying3 (zeroI _) bm 16 D rfl hown _ (kL key) rfl hkey ?_)
    intro c hat hwc
    obtain rfl := hc c hat
    clear hat hwc hc
    go_wp2_with fail
    go_ret
    exact ⟨_, rfl, rfl, HF.out⟩
  · obtain ⟨hh, hc⟩ := hD2 hin
    have HF : Hid (RefRes S key 0) := hide (.inr ⟨hin, rfl⟩)
    clear h hS hD1 hD2 hin
    go_enter Try.func24, Try.ntmps24
    go_wp2_with (at_lookup; refine wpList_lookup_own_ok_int _ rfl _ _ 65 rfl 9 3 .i64 kStr Try.underlying65 Try.underlying3 (zeroI _) bm 16 D rfl hown _ (kL key) rfl hkey ?_)
    intro c hat hwc
    obtain rfl := hc c hat
    clear hat hwc hc
    go_wp2_with fail
    go_ret
    exact ⟨0, rfl, rfl, HF.out⟩
theorem new_no (w : World) (n : Int) (h : ¬ (1 ≤ n ∧ n ≤ 16)) : Calls Try.prog 5 #[.int .i64 n] w fun e w' => e = .returned (.tuple #[.pointer none, .int .i64 1]) ∧ w' = w := by
  have HV := hide (validSlots_any w n)
  rw [decide_eq_false h] at HV
  go_enter Try.func5, Try.ntmps5
  go_wp2_with (first
    | (go_at_call 18; refine HV.out.mono ?_; rintro e w2 ⟨rfl, rfl⟩))
  go_ret2
  exact ⟨rfl, rfl⟩
theorem new_any (w : World) (n : Nat) (h1 : 1 ≤ n) (h2 : n ≤ 16) : Calls Try.prog 5 #[.int .i64 (n : Int)] w fun e w' => e = .returned (.tuple #[.pointer (some ⟨w.heap.size + 1, 0, none⟩), .int .i64 0]) ∧ LRep w' (w.heap.size + 1) w.heap.size (.slice none 0 0) (.slice none 0 0) (.slice none 0 0) ⟨n, [], [], [], []⟩ ∧ Below w.heap.size w w' := by
  have HV := hide (validSlots_any w (n : Int))
  rw [decide_eq_true (by omega)] at HV
  have hmm := fun W : World => run_makeMap (P := Try.prog) 65 W
  have HF : Hid (LRep ((w.alloc (.map #[] 0)).alloc (.cells #[.int .i64 (n : Int), .map (some w.heap.size), .slice none 0 0, .slice none 0 0, .slice none 0 0] 69)) (w.heap.size + 1) w.heap.size (.slice none 0 0) (.slice none 0 0) (.slice none 0 0) ⟨n, [], [], [], []⟩ ∧ Below w.heap.size w ((w.alloc (.map #[] 0)).alloc (.cells #[.int .i64 (n : Int), .map (some w.heap.size), .slice none 0 0, .slice none 0 0, .slice none 0 0] 69))) := hide (by
    have hb := ((Below.refl w.heap.size w).alloc (Nat.le_refl _) (.map #[] 0)).alloc (by simp) (.cells #[.int .i64 (n : Int), .map (some w.heap.size), .slice none 0 0, .slice none 0 0, .slice none 0 0] 69)
    refine ⟨⟨?_, (MP.new w).kept (Below.heap_alloc _ _ _ (by simp)), ⟨rfl, .inl ⟨rfl, rfl⟩⟩, ⟨rfl, .inl ⟨rfl, rfl⟩⟩, ⟨rfl, .inl ⟨rfl, rfl⟩⟩, fun b e => by simp [Value.ownBlock] at e, fun b e => by simp [Value.ownBlock] at e⟩, hb⟩
    have := Go.heap_alloc_new (w.alloc (.map #[] 0)) (.cells #[.int .i64 (n : Int), .map (some w.heap.size), .slice none 0 0, .slice none 0 0, .slice none 0 0] 69)
    rw [World.size_alloc] at this
    exact this)
  go_enter Try.func5, Try.ntmps5
  go_wp2_with (first
    | (go_at_call 18; refine HV.out.mono ?_; rintro e w2 ⟨rfl, rfl⟩))
  go_ret2
  exact ⟨rfl, HF.out.1, HF.out.2⟩
end Go.Proofs.Ythkkinmegileaaa.St
namespace Go.Proofs.Ythkkinmegileaaa.Sp
open Go.RowKit Go.Sort
set_option linter.unusedVariables false
set_option linter.unusedSimpArgs false
set_option maxRecDepth 20000

theorem getDet {S S1 S2 : LS} {M : Nat} {key o1 o2 r1 r2 : Int} {s1 s2 : Nat} {f1 f2 g1 g2 : Bool} (hS : S.Ok M) (h1 : GetRes S key S1 s1 f1 o1 g1 r1) (h2 : GetRes S key S2 s2 f2 o2 g2 r2) : S1 = S2 ∧ s1 = s2 ∧ f1 = f2 ∧ o1 = o2 ∧ g1 = g2 ∧ r1 = r2 := by
  rcases h1 with ⟨s, hs, rfl, rfl, rfl, rfl, rfl, rfl⟩ | ⟨hn, hl, rfl, rfl, rfl, rfl, rfl, rfl⟩ | ⟨hn, hl, s, r, o, hi, ho, rfl, rfl, rfl, rfl, rfl, rfl⟩ | ⟨hn, hl, hi, rfl, rfl, rfl, rfl, rfl, rfl⟩ <;>
  rcases h2 with ⟨t, ht, rfl, rfl, rfl, rfl, rfl, rfl⟩ | ⟨hn', hl', rfl, rfl, rfl, rfl, rfl, rfl⟩ | ⟨hn', hl', t, r', o', hi', ho', rfl, rfl, rfl, rfl, rfl, rfl⟩ | ⟨hn', hl', hi', rfl, rfl, rfl, rfl, rfl, rfl⟩
  · have := nodup_inj hS.kd hs ht
    subst this
    exact ⟨rfl, rfl, rfl, rfl, rfl, rfl⟩
  · exact absurd (List.mem_of_getElem? hs) hn'
  · exact absurd (List.mem_of_getElem? hs) hn'
  · exact absurd (List.mem_of_getElem? hs) hn'
  · exact absurd (List.mem_of_getElem? ht) hn
  · exact ⟨rfl, rfl, rfl, rfl, rfl, rfl⟩
  · omega
  · omega
  · exact absurd (List.mem_of_getElem? ht) hn
  · omega
  · rw [hi] at hi'
    simp only [List.cons.injEq] at hi'
    obtain ⟨rfl, rfl⟩ := hi'
    rw [ho] at ho'
    obtain rfl := Option.some.inj ho'
    exact ⟨rfl, rfl, rfl, rfl, rfl, rfl⟩
  · rw [hi] at hi'; cases hi'
  · exact absurd (List.mem_of_getElem? ht) hn
  · omega
  · rw [hi] at hi'; cases hi'
  · exact ⟨rfl, rfl, rfl, rfl, rfl, rfl⟩
theorem putDet {S S1 S2 : LS} {M : Nat} {key r1 r2 : Int} (hS : S.Ok M) (h1 : PutRes S key S1 r1) (h2 : PutRes S key S2 r2) : S1 = S2 ∧ r1 = r2 := by
  rcases h1 with ⟨h, rfl, rfl⟩ | ⟨s, r, hs, hr, rfl, rfl⟩ <;> rcases h2 with ⟨h', rfl, rfl⟩ | ⟨t, r', ht, hr', rfl, rfl⟩
  · exact ⟨rfl, rfl⟩
  · have := h t ht; rw [this] at hr'; simp at hr'
  · have := h' s hs; rw [this] at hr; simp at hr
  · have := nodup_inj hS.kd hs ht
    subst this
    exact ⟨rfl, rfl⟩
theorem refDet {S : LS} {M : Nat} {key : Int} {r1 r2 : Nat} (hS : S.Ok M) (h1 : RefRes S key r1) (h2 : RefRes S key r2) : r1 = r2 := by
  rcases h1 with ⟨s, hs, hr⟩ | ⟨hn, rfl⟩ <;> rcases h2 with ⟨t, ht, hr'⟩ | ⟨hn', rfl⟩
  · have := nodup_inj hS.kd hs ht
    subst this
    rw [hr] at hr'
    exact Option.some.inj hr'
  · exact absurd (List.mem_of_getElem? hs) hn'
  · exact absurd (List.mem_of_getElem? ht) hn
  · rfl
theorem slotDet {S : LS} {M : Nat} {key r1 r2 : Int} (hS : S.Ok M) (h1 : SRes S key r1) (h2 : SRes S key r2) : r1 = r2 := by
  rcases h1 with ⟨s, hs, rfl⟩ | ⟨hn, rfl⟩ <;> rcases h2 with ⟨t, ht, rfl⟩ | ⟨hn', rfl⟩
  · rw [nodup_inj hS.kd hs ht]
  · exact absurd (List.mem_of_getElem? hs) hn'
  · exact absurd (List.mem_of_getElem? ht) hn
  · rfl
/-- the two lie apart, on blocks that A lets -/
structure Apart (A : Nat → Prop) (p bm : Nat) (kv rv iv : Value) (q : Nat) (cv : Value) : Prop where
  lb : ∀ b, LU p bm kv rv iv b → A b
  rb : ∀ b, RU q cv b → A b
  ap : ∀ b, LU p bm kv rv iv b → ¬ RU q cv b
/-- both Lrus in memory, of one state -/
def Two (A : Nat → Prop) (w : World) (p q M : Nat) : Prop :=
  ∃ bm kv rv iv cv S C P, LRep w p bm kv rv iv S ∧ RLR w q cv C P ∧ Rel S C P ∧ S.Ok M ∧ P ≤ M ∧ Apart A p bm kv rv iv q cv ∧ ∀ b, w.heap.size ≤ b → A b
theorem Two.below {A : Nat → Prop} {p q M : Nat} {w w' : World} (h : Two A w p q M) (hb : Below w.heap.size w w') : Two A w' p q M := by
  obtain ⟨bm, kv, rv, iv, cv, S, C, P, h1, h2, h3, h4, h5, h6, h7⟩ := h
  exact ⟨bm, kv, rv, iv, cv, S, C, P, h1.below hb, h2.below hb, h3, h4, h5, h6, fun b e => h7 b (Nat.le_trans hb.size e)⟩
theorem Two.more {A : Nat → Prop} {p q M N : Nat} {w : World} (h : Two A w p q M) (hn : M ≤ N) : Two A w p q N := by
  obtain ⟨bm, kv, rv, iv, cv, S, C, P, h1, h2, h3, h4, h5, h6, h7⟩ := h
  exact ⟨bm, kv, rv, iv, cv, S, C, P, h1, h2, h3, h4.more hn, by omega, h6, h7⟩
theorem Two.mono {A A2 : Nat → Prop} {p q M : Nat} {w : World} (h : Two A w p q M) (ha : ∀ b, A b → A2 b) : Two A2 w p q M := by
  obtain ⟨bm, kv, rv, iv, cv, S, C, P, h1, h2, h3, h4, h5, h6, h7⟩ := h
  exact ⟨bm, kv, rv, iv, cv, S, C, P, h1, h2, h3, h4, h5, ⟨fun b e => ha b (h6.lb b e), fun b e => ha b (h6.rb b e), h6.ap⟩, fun b e => ha b (h7 b e)⟩
theorem Two.narrow {A : Nat → Prop} {p q M : Nat} {w x : World} (h : Two A w p q M) (hb : Below w.heap.size w x) : Two (fun b => A b ∧ ¬ (w.heap.size ≤ b ∧ b < x.heap.size)) x p q M := by
  obtain ⟨bm, kv, rv, iv, cv, S, C, P, h1, h2, h3, h4, h5, h6, h7⟩ := h
  have hs := hb.size
  refine ⟨bm, kv, rv, iv, cv, S, C, P, h1.below hb, h2.below hb, h3, h4, h5, ⟨fun b e => ⟨h6.lb b e, ?_⟩, fun b e => ⟨h6.rb b e, ?_⟩, h6.ap⟩, fun b e => ⟨h7 b ?_, ?_⟩⟩
  · have := h1.lt b e; omega
  · have := h2.lt b e; omega
  · omega
  · omega
theorem afterL {A : Nat → Prop} {p bm q : Nat} {kv rv iv kv' rv' iv' cv : Value} {w w1 : World} {C : List RC} {P : Nat} {S : LS} (hl : LRep w p bm kv rv iv S) (hr : RLR w q cv C P) (ha : Apart A p bm kv rv iv q cv) (hA : ∀ b, w.heap.size ≤ b → A b) (hc : Chg (LU p bm kv rv iv) w w1) (hloc : LLoc w p bm kv rv iv kv' rv' iv') :
    RLR w1 q cv C P ∧ Apart A p bm kv' rv' iv' q cv ∧ Chg A w w1 ∧ ∀ b, w1.heap.size ≤ b → A b := by
  refine ⟨hr.kept fun b e => hc.keep b (hr.lt b e) fun hx => ha.ap b hx e, ⟨fun b e => ?_, ha.rb, fun b e1 e2 => ?_⟩, hc.mono fun b _ e => ha.lb b e, fun b e => hA b (Nat.le_trans hc.size e)⟩
  · rcases hloc b e with e | e
    · exact ha.lb b e
    · exact hA b e
  · rcases hloc b e1 with e | e
    · exact ha.ap b e e2
    · have := hr.lt b e2; omega
theorem afterR {A : Nat → Prop} {p bm q : Nat} {kv rv iv cv : Value} {w w1 : World} {C : List RC} {P : Nat} {S : LS} (hl : LRep w p bm kv rv iv S) (ha : Apart A p bm kv rv iv q cv) (hA : ∀ b, w.heap.size ≤ b → A b) (hc : Chg (RU q cv) w w1) :
    LRep w1 p bm kv rv iv S ∧ Chg A w w1 ∧ ∀ b, w1.heap.size ≤ b → A b :=
  ⟨hl.kept fun b e => hc.keep b (hl.lt b e) fun hx => ha.ap b e hx, hc.mono fun b _ e => ha.rb b e, fun b e => hA b (Nat.le_trans hc.size e)⟩
def GotL (A : Nat → Prop) (w : World) (p q M : Nat) (key : Int) (slot : Nat) (fresh : Bool) (old : Int) (gone : Bool) (er : Int) : Prop :=
  ∃ bm kv rv iv cv S S' C P, LRep w p bm kv rv iv S' ∧ S'.Ok (M + 1) ∧ RLR w q cv C P ∧ Rel S C P ∧ S.Ok M ∧ GetRes S key S' slot fresh old gone er ∧ P ≤ M ∧ Apart A p bm kv rv iv q cv ∧ ∀ b, w.heap.size ≤ b → A b
theorem two_getL {A : Nat → Prop} {p q M : Nat} {w : World} (h : Two A w p q M) (hM : M ≤ 4611686018427387904) {key : Int} (hk : i64ok key) :
    Calls Try.prog 31 #[.pointer (some ⟨p, 0, none⟩), .agg #[.int .i64 (pA key), .int .u8 (pB key)]] w fun e w' => ∃ (slot : Nat) (fresh : Bool) (old : Int) (gone : Bool) (er : Int), e = .returned (.tuple #[.int .i64 (slot : Int), .bool fresh, oldV gone old, .bool gone, .int .i64 er]) ∧ GotL A w' p q M key slot fresh old gone er ∧ Chg A w w' ∧ i64ok old := by
  obtain ⟨bm, kv, rv, iv, cv, S, C, P, h1, h2, h3, h4, h5, h6, h6a⟩ := h
  refine (Get_any h1 h4 hM hk).mono ?_
  rintro e w' ⟨S', slot, fresh, old, gone, er, kv', rv', iv', hg, rfl, hl, ho, hc, hloc⟩
  obtain ⟨q1, q2, q3, q4⟩ := afterL h1 h2 h6 h6a hc hloc
  refine ⟨slot, fresh, old, gone, er, rfl, ⟨bm, kv', rv', iv', cv, S, S', C, P, hl, ho, q1, h3, h4, hg, h5, q2, q4⟩, q3, ?_⟩
  rcases hg with ⟨s, hs, rfl, rfl, rfl, rfl, rfl, rfl⟩ | ⟨hn, hl, rfl, rfl, rfl, rfl, rfl, rfl⟩ | ⟨hn, hl, s, r, o, hi, ho, rfl, rfl, rfl, rfl, rfl, rfl⟩ | ⟨hn, hl, hi, rfl, rfl, rfl, rfl, rfl, rfl⟩
  · unfold i64ok; omega
  · unfold i64ok; omega
  · exact h4.kb _ (List.mem_of_getElem? ho)
  · unfold i64ok; omega
theorem two_getR {A : Nat → Prop} {p q M : Nat} {w : World} {key : Int} {slot : Nat} {fresh : Bool} {old : Int} {gone : Bool} {er : Int} (h : GotL A w p q M key slot fresh old gone er) (hM : M ≤ 4611686018427387904) :
    Calls Try.prog 21 #[.pointer (some ⟨q, 0, none⟩), .int .i64 key] w fun e w' => e = .returned (.tuple #[.int .i64 (slot : Int), .bool fresh, .int .i64 old, .bool gone, .int .i64 er]) ∧ Two A w' p q (M + 1) ∧ Chg A w w' := by
  obtain ⟨bm, kv, rv, iv, cv, S, S', C, P, h1, h2, h3, h4, h5, h6, h7, h8, h8a⟩ := h
  have hc : Calls Try.prog 21 #[.pointer (some ⟨q, 0, none⟩), .int .i64 key] w (RGet w q P cv S key) := by
    by_cases hin : key ∈ S.ks
    · obtain ⟨s, hs⟩ := List.getElem?_of_mem hin
      exact rGet_in h3 h4 h5 hM hs
    · exact rGet_out h3 h4 h5 hin
  refine hc.mono ?_
  rintro e w' ⟨S2, slot', fresh', old', gone', er', C', hg, rfl, hr, hrel, hc⟩
  obtain ⟨rfl, rfl, rfl, rfl, rfl, rfl⟩ := getDet h5 h6 hg
  obtain ⟨q1, q2, q4⟩ := afterR (C := C) (P := P) h1 h8 h8a hc
  exact ⟨rfl, ⟨bm, kv, rv, iv, cv, S', C', P, q1, hr, hrel, h2, by omega, h8, q4⟩, q2⟩
def PutL (A : Nat → Prop) (w : World) (p q M : Nat) (key er : Int) : Prop :=
  ∃ bm kv rv iv cv S S' C P, LRep w p bm kv rv iv S' ∧ S'.Ok M ∧ RLR w q cv C P ∧ Rel S C P ∧ S.Ok M ∧ PutRes S key S' er ∧ P ≤ M ∧ Apart A p bm kv rv iv q cv ∧ ∀ b, w.heap.size ≤ b → A b
theorem two_putL {A : Nat → Prop} {p q M : Nat} {w : World} (h : Two A w p q M) (hM : M ≤ 4611686018427387904) {key : Int} (hk : i64ok key) :
    Calls Try.prog 32 #[.pointer (some ⟨p, 0, none⟩), .agg #[.int .i64 (pA key), .int .u8 (pB key)]] w fun e w' => ∃ er, e = .returned (.int .i64 er) ∧ PutL A w' p q M key er ∧ Chg A w w' := by
  obtain ⟨bm, kv, rv, iv, cv, S, C, P, h1, h2, h3, h4, h5, h6, h6a⟩ := h
  refine (Put_any h1 h4 hM hk).mono ?_
  rintro e w' ⟨S', er, iv', hg, rfl, hl, ho, hc, hloc⟩
  obtain ⟨q1, q2, q3, q4⟩ := afterL h1 h2 h6 h6a hc hloc
  exact ⟨er, rfl, ⟨bm, kv, rv, iv', cv, S, S', C, P, hl, ho, q1, h3, h4, hg, h5, q2, q4⟩, q3⟩
theorem two_putR {A : Nat → Prop} {p q M : Nat} {w : World} {key er : Int} (h : PutL A w p q M key er) (hM : M ≤ 4611686018427387904) :
    Calls Try.prog 23 #[.pointer (some ⟨q, 0, none⟩), .int .i64 key] w fun e w' => e = .returned (.int .i64 er) ∧ Two A w' p q (M + 1) ∧ Chg A w w' := by
  obtain ⟨bm, kv, rv, iv, cv, S, S', C, P, h1, h2, h3, h4, h5, h6, h7, h8, h8a⟩ := h
  refine (rPut_any h3 h4 h5 hM (by omega) key).mono ?_
  rintro e w' ⟨S2, er', C', P', hg, rfl, hr, hrel, hP, hc⟩
  obtain ⟨rfl, rfl⟩ := putDet h5 h6 hg
  obtain ⟨q1, q2, q4⟩ := afterR (C := C) (P := P) h1 h8 h8a hc
  exact ⟨rfl, ⟨bm, kv, rv, iv, cv, S', C', P', q1, hr, hrel, h2.more (by omega), by omega, h8, q4⟩, q2⟩
theorem two_refs {A : Nat → Prop} {p q M : Nat} {w : World} (h : Two A w p q M) {key : Int} (hk : i64ok key) : ∃ r : Int, ∀ x, Below w.heap.size w x →
    Calls Try.prog 33 #[.pointer (some ⟨p, 0, none⟩), .agg #[.int .i64 (pA key), .int .u8 (pB key)]] x (fun e w' => e = .returned (.int .i64 r) ∧ Below x.heap.size x w') ∧
    Calls Try.prog 25 #[.pointer (some ⟨q, 0, none⟩), .int .i64 key] x (fun e w' => e = .returned (.int .i64 r) ∧ w' = x) := by
  obtain ⟨bm, kv, rv, iv, cv, S, C, P, h1, h2, h3, h4, h5, h6, h6a⟩ := h
  have hex : ∃ r, RefRes S key r := by
    by_cases hin : key ∈ S.ks
    · obtain ⟨s, hs⟩ := List.getElem?_of_mem hin
      exact ⟨_, .inl ⟨s, hs, (h3.us s (List.getElem?_eq_some_iff.1 hs).1).2.2⟩⟩
    · exact ⟨0, .inr ⟨hin, rfl⟩⟩
  obtain ⟨r, hr⟩ := hex
  refine ⟨(r : Int), fun x hx => ⟨(Refs_any (h1.below hx) h4 hk).mono ?_, (rRefs_any (h2.below hx) h3 h4 key).mono ?_⟩⟩
  · rintro e w' ⟨r', rfl, hbe, hr'⟩
    rw [refDet h4 hr hr']
    exact ⟨rfl, hbe⟩
  · rintro e w' ⟨r', rfl, rfl, hr'⟩
    rw [refDet h4 hr hr']
    exact ⟨rfl, rfl⟩
theorem two_slot {A : Nat → Prop} {p q M : Nat} {w : World} (h : Two A w p q M) {key : Int} (hk : i64ok key) : ∃ r : Int, ∀ x, Below w.heap.size w x →
    Calls Try.prog 34 #[.pointer (some ⟨p, 0, none⟩), .agg #[.int .i64 (pA key), .int .u8 (pB key)]] x (fun e w' => e = .returned (.int .i64 r) ∧ Below x.heap.size x w') ∧
    Calls Try.prog 27 #[.pointer (some ⟨q, 0, none⟩), .int .i64 key] x (fun e w' => e = .returned (.int .i64 r) ∧ w' = x) := by
  obtain ⟨bm, kv, rv, iv, cv, S, C, P, h1, h2, h3, h4, h5, h6, h6a⟩ := h
  have hex : ∃ r, SRes S key r := by
    by_cases hin : key ∈ S.ks
    · obtain ⟨s, hs⟩ := List.getElem?_of_mem hin
      exact ⟨_, .inl ⟨s, hs, rfl⟩⟩
    · exact ⟨-1, .inr ⟨hin, rfl⟩⟩
  obtain ⟨r, hr⟩ := hex
  refine ⟨r, fun x hx => ⟨(Slot_any (h1.below hx) h4 hk).mono ?_, (rSlot_any (h2.below hx) h3 h4 key).mono ?_⟩⟩
  · rintro e w' ⟨r', rfl, hbe, hr'⟩
    rw [slotDet h4 hr hr']
    exact ⟨rfl, hbe⟩
  · rintro e w' ⟨r', rfl, rfl, hr'⟩
    rw [slotDet h4 hr hr']
    exact ⟨rfl, rfl⟩
theorem two_keys {A : Nat → Prop} {p q M : Nat} {w : World} (h : Two A w p q M) (hM : M ≤ 4611686018427387904) : ∃ K : List Int, K.length ≤ 32 ∧ (∀ k ∈ K, i64ok k) ∧ ∀ w1, Below w.heap.size w w1 →
    Calls Try.prog 35 #[.pointer (some ⟨p, 0, none⟩)] w1 (fun e w' => ∃ v, e = .returned v ∧ w'.ownsRow 0 34 2 v K.length (K.flatMap pC) ∧ Below w1.heap.size w1 w' ∧ ∀ b, v.ownBlock = some b → w1.heap.size ≤ b) ∧
    Calls Try.prog 29 #[.pointer (some ⟨q, 0, none⟩)] w1 (fun e w' => ∃ v, e = .returned v ∧ w'.ownsRow 0 3 1 v K.length (K.map iV) ∧ Below w1.heap.size w1 w' ∧ ∀ b, v.ownBlock = some b → w1.heap.size ≤ b) := by
  obtain ⟨bm, kv, rv, iv, cv, S, C, P, h1, h2, h3, h4, h5, h6, h6a⟩ := h
  refine ⟨S.keys, ?_, ?_, fun w1 hb => ⟨Keys_any (h1.below hb) h4, rKeys_any (h2.below hb) h3 h4 (by omega)⟩⟩
  · rw [LS.keys_eq, List.length_append, List.length_map]
    have a1 := nodup_bound h4.id fun x hx => h4.idle_lt hx
    have a2 := LS.busy_len S S.ks.length
    have := h4.kl
    have := h4.s2
    omega
  · intro k hk
    have hget : ∀ s, s < S.ks.length → i64ok (S.ks.getD s 0) := fun s hs => by
      have : S.ks[s]? = some (S.ks.getD s 0) := by simp [List.getD, hs]
      exact h4.kb _ (List.mem_of_getElem? this)
    rw [LS.keys, List.mem_append, List.mem_map, List.mem_map] at hk
    rcases hk with ⟨s, hs, rfl⟩ | ⟨s, hs, rfl⟩
    · exact hget s (h4.idle_lt hs)
    · exact hget s (by simpa using (List.mem_filter.1 hs).1)
end Go.Proofs.Ythkkinmegileaaa.Sp
namespace Go.Proofs.Ythkkinmegileaaa.Sp
open Go.RowKit Go.Sort
set_option linter.unusedVariables false
set_option linter.unusedSimpArgs false
set_option maxRecDepth 20000

/-- the walk of pairs: both Lrus, the ask in its block, the key in its own -/
structure PX (A : Nat → Prop) (w y x : World) (p q M m : Nat) (k0 k1 k2 : Int) : Prop where
  two : Two (fun b => A b ∧ ¬ (w.heap.size ≤ b ∧ b < y.heap.size)) x p q M
  ch : Chg (fun b => A b ∧ ¬ (w.heap.size ≤ b ∧ b < y.heap.size)) y x
  be : Below w.heap.size w y
  o : y.heap[w.heap.size]? = some (.cells #[.int .i64 k0, .int .i64 k1, .int .i64 k2] 37 (0, 0))
  k : y.heap[m]? = some (.cells #[.int .i64 (pA k2), .int .u8 (pB k2)] 34 (0, 0))
  hm : w.heap.size ≤ m
theorem PX.start {A : Nat → Prop} {w w1 : World} {p q M : Nat} (h : Two A w p q M) {k0 k1 k2 : Int} (hb : Below (w.alloc (.cells #[.int .i64 k0, .int .i64 k1, .int .i64 k2] 37)).heap.size (w.alloc (.cells #[.int .i64 k0, .int .i64 k1, .int .i64 k2] 37)) w1) :
    PX A w (w1.alloc (.cells #[.int .i64 (pA k2), .int .u8 (pB k2)] 34)) (w1.alloc (.cells #[.int .i64 (pA k2), .int .u8 (pB k2)] 34)) p q M w1.heap.size k0 k1 k2 := by
  have hs := hb.size
  rw [World.size_alloc] at hs
  have h0 : Below w.heap.size w (w.alloc (.cells #[.int .i64 k0, .int .i64 k1, .int .i64 k2] 37)) := (Below.refl _ _).alloc (Nat.le_refl _) _
  have h1 : Below w.heap.size w w1 := h0.trans (hb.mono h0.size)
  have h2 : Below w.heap.size w (w1.alloc (.cells #[.int .i64 (pA k2), .int .u8 (pB k2)] 34)) := h1.alloc (by omega) _
  refine ⟨h.narrow h2, Chg.ofBelow (Below.refl _ _), h2, ?_, Go.heap_alloc_new _ _, by omega⟩
  rw [Below.heap_alloc _ _ _ (by omega), hb.block _ (by rw [World.size_alloc]; omega)]
  exact Go.heap_alloc_new _ _
theorem PX.step {A : Nat → Prop} {w y x x' : World} {p q M N m : Nat} {k0 k1 k2 : Int} (h : PX A w y x p q M m k0 k1 k2) (ht : Two (fun b => A b ∧ ¬ (w.heap.size ≤ b ∧ b < y.heap.size)) x' p q N) (hc : Chg (fun b => A b ∧ ¬ (w.heap.size ≤ b ∧ b < y.heap.size)) x x') : PX A w y x' p q N m k0 k1 k2 :=
  ⟨ht, h.ch.trans hc, h.be, h.o, h.k, h.hm⟩
theorem PX.below {A : Nat → Prop} {w y x x' : World} {p q M m : Nat} {k0 k1 k2 : Int} (h : PX A w y x p q M m k0 k1 k2) (hb : Below x.heap.size x x') : PX A w y x' p q M m k0 k1 k2 :=
  h.step (h.two.below hb) (Chg.ofBelow hb)
theorem PX.kept {A : Nat → Prop} {w y x x' : World} {p q M m : Nat} {k0 k1 k2 : Int} (h : PX A w y x p q M m k0 k1 k2) (hc : Chg (fun b => A b ∧ ¬ (w.heap.size ≤ b ∧ b < y.heap.size)) x x') : ∀ b, w.heap.size ≤ b → b < y.heap.size → x'.heap[b]? = y.heap[b]? := fun b h1 h2 =>
  (h.ch.trans hc).keep b h2 fun e => e.2 ⟨h1, h2⟩
theorem PX.oc {A : Nat → Prop} {w y x x' : World} {p q M m : Nat} {k0 k1 k2 : Int} (h : PX A w y x p q M m k0 k1 k2) (hc : Chg (fun b => A b ∧ ¬ (w.heap.size ≤ b ∧ b < y.heap.size)) x x') (i : Nat) : x'.cell? ⟨w.heap.size, i, none⟩ = (#[.int .i64 k0, .int .i64 k1, .int .i64 k2] : Array Value)[i]? :=
  cell_of_row _ _ _ _ _ _ ((h.kept hc _ (Nat.le_refl _) (Array.getElem?_eq_some_iff.1 h.o).1).trans h.o)
theorem PX.kc {A : Nat → Prop} {w y x x' : World} {p q M m : Nat} {k0 k1 k2 : Int} (h : PX A w y x p q M m k0 k1 k2) (hc : Chg (fun b => A b ∧ ¬ (w.heap.size ≤ b ∧ b < y.heap.size)) x x') (i : Nat) : x'.cell? ⟨m, i, none⟩ = (#[.int .i64 (pA k2), .int .u8 (pB k2)] : Array Value)[i]? :=
  cell_of_row _ _ _ _ _ _ ((h.kept hc _ h.hm (Array.getElem?_eq_some_iff.1 h.k).1).trans h.k)
theorem chg_refl (A : Nat → Prop) (x : World) : Chg A x x := Chg.ofBelow (Below.refl _ _)
theorem PX.fin {A : Nat → Prop} {w y x : World} {p q M N m : Nat} {k0 k1 k2 : Int} (h : PX A w y x p q M m k0 k1 k2) (hn : M ≤ N) : Two A x p q N ∧ Chg A w x := ⟨(h.two.mono fun b e => e.1).more hn, (Chg.ofBelow h.be).trans (h.ch.mono fun b _ e => e.1)⟩
/-- what stands of the four cells -/
theorem PX.four {A : Nat → Prop} {w y x : World} {p q M m : Nat} {k0 k1 k2 : Int} (h : PX A w y x p q M m k0 k1 k2) : x.cell? ⟨w.heap.size, 0, none⟩ = some (.int .i64 k0) ∧ x.cell? ⟨w.heap.size, 2, none⟩ = some (.int .i64 k2) ∧ x.cell? ⟨m, 0, none⟩ = some (.int .i64 (pA k2)) ∧ x.cell? ⟨m, 1, none⟩ = some (.int .u8 (pB k2)) :=
  ⟨h.oc (chg_refl _ _) 0, h.oc (chg_refl _ _) 2, h.kc (chg_refl _ _) 0, h.kc (chg_refl _ _) 1⟩
theorem PX.drew {A : Nat → Prop} {w y x : World} {p q M m : Nat} {k0 k1 k2 : Int} (h : PX A w y x p q M m k0 k1 k2) : PX A w y x.drew p q M m k0 k1 k2 := h.below ((Below.refl _ _).drew)
end Go.Proofs.Ythkkinmegileaaa.Sp
namespace Go.Proofs.Ythkkinmegileaaa.Sp
open Go.RowKit Go.Sort
set_option linter.unusedVariables false
set_option linter.unusedSimpArgs false
set_option maxRecDepth 20000

set_option maxHeartbeats 1000000 in
theorem pairs_slot {A : Nat → Prop} {p q M : Nat} {w : World} (h : Two A w p q M) (k1 k2 : Int) (hk : i64ok k2) :
    Calls Try.prog 11 #[.pointer (some ⟨p, 0, none⟩), .pointer (some ⟨q, 0, none⟩), .agg #[.int .i64 3, .int .i64 k1, .int .i64 k2]] w fun e w' => e = .returned (.bool true) ∧ Two A w' p q (M + 1) ∧ Chg A w w' := by
  have HSP := hide fun x => spot_any x k2 hk
  have HK := hide hk
  have HS := hide fun w1 => PX.start (w1 := w1) (k0 := 3) (k1 := k1) (k2 := k2) h
  have hrow := Go.heap_alloc_new w (.cells #[.int .i64 3, .int .i64 k1, .int .i64 k2] 37)
  have c2 : (w.alloc (.cells #[.int .i64 3, .int .i64 k1, .int .i64 k2] 37)).cell? ⟨w.heap.size, 2, none⟩ = some (.int .i64 k2) := by rw [cell_of_row _ _ _ _ _ _ hrow]; rfl
  clear hrow h hk
  go_enter Try.func11, Try.ntmps11
  go_wp2_with (first
    | (go_at_call 30; refine (HSP.out _).mono ?_; rintro e w1 ⟨rfl, hb⟩; have HX := hide (HS.out _ hb); obtain ⟨d0, d2, d3, d4⟩ := HX.out.four; clear hb HSP HS c2)
    | fail)
  clear d0
  obtain ⟨r, hr⟩ := two_slot HX.out.two HK.out
  have HR := hide hr
  clear hr HK
  go_region_held3 (fun z => z.cell? ⟨w.heap.size, 2, none⟩ = some (.int .i64 k2) ∧ z.cell? ⟨w1.heap.size, 0, none⟩ = some (.int .i64 (pA k2)) ∧ z.cell? ⟨w1.heap.size, 1, none⟩ = some (.int .u8 (pB k2))) (first | exact ⟨d2, d3, d4⟩ | exact ⟨y2, y3, y4⟩)
    (first
      | (go_at_call 34; refine (HR.out _ ((Below.refl _ _).drew)).1.mono ?_; rintro e w2 ⟨rfl, hb⟩; have HB := hide (((Below.refl _ _).drew).trans hb); have HY := hide (HX.out.drew.below hb); obtain ⟨-, y2, y3, y4⟩ := HY.out.four; clear hb)
      | (go_at_call 27; refine (HR.out _ HB.out).2.mono ?_; rintro e w3 ⟨rfl, rfl⟩))
  all_goals
    go_wp2_with fail
    go_ret
    exact ⟨rfl, HY.out.fin (by omega)⟩
set_option maxHeartbeats 1000000 in
theorem pairs_refs {A : Nat → Prop} {p q M : Nat} {w : World} (h : Two A w p q M) (k1 k2 : Int) (hk : i64ok k2) :
    Calls Try.prog 11 #[.pointer (some ⟨p, 0, none⟩), .pointer (some ⟨q, 0, none⟩), .agg #[.int .i64 2, .int .i64 k1, .int .i64 k2]] w fun e w' => e = .returned (.bool true) ∧ Two A w' p q (M + 1) ∧ Chg A w w' := by
  have HSP := hide fun x => spot_any x k2 hk
  have HK := hide hk
  have HS := hide fun w1 => PX.start (w1 := w1) (k0 := 2) (k1 := k1) (k2 := k2) h
  have hrow := Go.heap_alloc_new w (.cells #[.int .i64 2, .int .i64 k1, .int .i64 k2] 37)
  have c2 : (w.alloc (.cells #[.int .i64 2, .int .i64 k1, .int .i64 k2] 37)).cell? ⟨w.heap.size, 2, none⟩ = some (.int .i64 k2) := by rw [cell_of_row _ _ _ _ _ _ hrow]; rfl
  clear hrow h hk
  go_enter Try.func11, Try.ntmps11
  go_wp2_with (first
    | (go_at_call 30; refine (HSP.out _).mono ?_; rintro e w1 ⟨rfl, hb⟩; have HX := hide (HS.out _ hb); obtain ⟨d0, d2, d3, d4⟩ := HX.out.four; clear hb HSP HS c2)
    | fail)
  clear d0
  obtain ⟨r, hr⟩ := two_refs HX.out.two HK.out
  have HR := hide hr
  clear hr HK
  go_region_held3 (fun z => z.cell? ⟨w.heap.size, 2, none⟩ = some (.int .i64 k2) ∧ z.cell? ⟨w1.heap.size, 0, none⟩ = some (.int .i64 (pA k2)) ∧ z.cell? ⟨w1.heap.size, 1, none⟩ = some (.int .u8 (pB k2))) (first | exact ⟨d2, d3, d4⟩ | exact ⟨y2, y3, y4⟩)
    (first
      | (go_at_call 33; refine (HR.out _ ((Below.refl _ _).drew)).1.mono ?_; rintro e w2 ⟨rfl, hb⟩; have HB := hide (((Below.refl _ _).drew).trans hb); have HY := hide (HX.out.drew.below hb); obtain ⟨-, y2, y3, y4⟩ := HY.out.four; clear hb)
      | (go_at_call 25; refine (HR.out _ HB.out).2.mono ?_; rintro e w3 ⟨rfl, rfl⟩))
  all_goals
    go_wp2_with fail
    go_ret
    exact ⟨rfl, HY.out.fin (by omega)⟩
end Go.Proofs.Ythkkinmegileaaa.Sp
namespace Go.Proofs.Ythkkinmegileaaa.Sp
open Go.RowKit Go.Sort
set_option linter.unusedVariables false
set_option linter.unusedSimpArgs false
set_option maxRecDepth 20000

set_option maxHeartbeats 1000000 in
theorem pairs_put {A : Nat → Prop} {p q M : Nat} {w : World} (h : Two A w p q M) (hM : M ≤ 4611686018427387904) (k1 k2 : Int) (hk : i64ok k2) :
    Calls Try.prog 11 #[.pointer (some ⟨p, 0, none⟩), .pointer (some ⟨q, 0, none⟩), .agg #[.int .i64 1, .int .i64 k1, .int .i64 k2]] w fun e w' => e = .returned (.bool true) ∧ Two A w' p q (M + 1) ∧ Chg A w w' := by
  have HSP := hide fun x => spot_any x k2 hk
  have HK := hide hk
  have HS := hide fun w1 => PX.start (w1 := w1) (k0 := 1) (k1 := k1) (k2 := k2) h
  have hrow := Go.heap_alloc_new w (.cells #[.int .i64 1, .int .i64 k1, .int .i64 k2] 37)
  have c2 : (w.alloc (.cells #[.int .i64 1, .int .i64 k1, .int .i64 k2] 37)).cell? ⟨w.heap.size, 2, none⟩ = some (.int .i64 k2) := by rw [cell_of_row _ _ _ _ _ _ hrow]; rfl
  clear hrow h hk
  go_enter Try.func11, Try.ntmps11
  go_wp2_with (first
    | (go_at_call 30; refine (HSP.out _).mono ?_; rintro e w1 ⟨rfl, hb⟩; have HX := hide (HS.out _ hb); obtain ⟨d0, d2, d3, d4⟩ := HX.out.four; clear hb HSP HS c2)
    | fail)
  clear d0
  have HPL : Hid (∀ x, Two (fun b => A b ∧ ¬ (w.heap.size ≤ b ∧ b < (w1.alloc (.cells #[.int .i64 (pA k2), .int .u8 (pB k2)] 34)).heap.size)) x p q M → _) := hide fun x hx => two_putL hx hM HK.out
  have HPR : Hid (∀ x er, PutL (fun b => A b ∧ ¬ (w.heap.size ≤ b ∧ b < (w1.alloc (.cells #[.int .i64 (pA k2), .int .u8 (pB k2)] 34)).heap.size)) x p q M k2 er → _) := hide fun x er hx => two_putR hx hM
  have HNUM := hide num_any
  clear HK
  go_region_held3 (fun z => z.cell? ⟨w.heap.size, 2, none⟩ = some (.int .i64 k2) ∧ z.cell? ⟨w1.heap.size, 0, none⟩ = some (.int .i64 (pA k2)) ∧ z.cell? ⟨w1.heap.size, 1, none⟩ = some (.int .u8 (pB k2))) (first | exact ⟨d2, d3, d4⟩ | exact ⟨y2, y3, y4⟩ | exact ⟨z2, z3, z4⟩)
    (first
      | (go_at_call 32; refine (HPL.out _ HX.out.drew.two).mono ?_; rintro e w2 ⟨er, rfl, hpl, hch⟩; have HG := hide (And.intro hpl hch); have y2 := HX.out.drew.oc hch 2; have y3 := HX.out.drew.kc hch 0; have y4 := HX.out.drew.kc hch 1; clear hpl hch)
      | (go_at_call 23; refine (HPR.out _ _ HG.out.1).mono ?_; rintro e w3 ⟨rfl, ht, hch⟩; have HY := hide (HX.out.drew.step ht (HG.out.2.trans hch)); obtain ⟨-, z2, z3, z4⟩ := HY.out.four; clear ht hch)
      | (go_at_call 8; refine (HNUM.out _ _).mono ?_; rintro e w4 ⟨rfl, rfl⟩))
  all_goals
    go_wp2_with fail
    go_ret
    exact ⟨rfl, HY.out.fin (Nat.le_refl _)⟩
end Go.Proofs.Ythkkinmegileaaa.Sp
namespace Go.Proofs.Ythkkinmegileaaa.Sp
open Go.RowKit Go.Sort
set_option linter.unusedVariables false
set_option linter.unusedSimpArgs false
set_option maxRecDepth 20000

theorem GotL.narrow {A : Nat → Prop} {p q M : Nat} {w x : World} {key : Int} {slot : Nat} {fresh : Bool} {old : Int} {gone : Bool} {er : Int} (h : GotL A w p q M key slot fresh old gone er) (hb : Below w.heap.size w x) : GotL (fun b => A b ∧ ¬ (w.heap.size ≤ b ∧ b < x.heap.size)) x p q M key slot fresh old gone er := by
  obtain ⟨bm, kv, rv, iv, cv, S, S', C, P, h1, h2, h3, h4, h5, h6, h7, h8, h9⟩ := h
  have hs := hb.size
  refine ⟨bm, kv, rv, iv, cv, S, S', C, P, h1.below hb, h2, h3.below hb, h4, h5, h6, h7, ⟨fun b e => ⟨h8.lb b e, ?_⟩, fun b e => ⟨h8.rb b e, ?_⟩, h8.ap⟩, fun b e => ⟨h9 b ?_, ?_⟩⟩
  · have := h1.lt b e; omega
  · have := h3.lt b e; omega
  · omega
  · omega
/-- the key that went, as it is told -/
theorem old_parts (gone : Bool) (old : Int) : ∃ oa ob, oldV gone old = .agg #[.int .i64 oa, .int .u8 ob] ∧ (gone = true → oa = pA old ∧ ob = pB old) ∧ (gone = false → oa = 0 ∧ ob = 0) := by
  cases gone
  · exact ⟨0, 0, rfl, fun h => (Bool.noConfusion h), fun _ => ⟨rfl, rfl⟩⟩
  · exact ⟨pA old, pB old, rfl, fun _ => ⟨rfl, rfl⟩, fun h => (Bool.noConfusion h)⟩
/-- behind both Gets: the boxes, both Lrus -/
structure GX (A : Nat → Prop) (w w3 : World) (p q M m : Nat) (oa ob : Int) : Prop where
  fin : ∀ x, Below w3.heap.size w3 x → Two A x p q (M + 1) ∧ Chg A w x
  o : w3.heap[m]? = some (.cells #[.int .i64 oa, .int .u8 ob] 34 (0, 0))
theorem GX.mk' {A : Nat → Prop} {w y w2 w3 : World} {p q M m : Nat} {k0 k1 k2 : Int} {oa ob : Int} (h : PX A w y y p q M m k0 k1 k2)
    (h2 : Chg (fun b => A b ∧ ¬ (w.heap.size ≤ b ∧ b < y.heap.size)) y w2)
    (h3 : Two (fun b => (A b ∧ ¬ (w.heap.size ≤ b ∧ b < y.heap.size)) ∧ ¬ (w2.heap.size ≤ b ∧ b < (w2.alloc (.cells #[.int .i64 oa, .int .u8 ob] 34)).heap.size)) w3 p q (M + 1))
    (h4 : Chg (fun b => (A b ∧ ¬ (w.heap.size ≤ b ∧ b < y.heap.size)) ∧ ¬ (w2.heap.size ≤ b ∧ b < (w2.alloc (.cells #[.int .i64 oa, .int .u8 ob] 34)).heap.size)) (w2.alloc (.cells #[.int .i64 oa, .int .u8 ob] 34)) w3) : GX A w w3 p q M w2.heap.size oa ob := by
  have hb : Below w2.heap.size w2 (w2.alloc (.cells #[.int .i64 oa, .int .u8 ob] 34)) := (Below.refl _ _).alloc (Nat.le_refl _) _
  have hY := h.step (h3.mono fun b e => e.1) ((h2.trans (Chg.ofBelow hb)).trans (h4.mono fun b _ e => e.1))
  refine ⟨fun x hx => (hY.below hx).fin (Nat.le_refl _), ?_⟩
  rw [h4.keep _ (by rw [World.size_alloc]; omega) fun e => e.2 ⟨Nat.le_refl _, by rw [World.size_alloc]; omega⟩]
  exact Go.heap_alloc_new _ _
theorem GX.at {A : Nat → Prop} {w w3 x : World} {p q M m : Nat} {oa ob : Int} (h : GX A w w3 p q M m oa ob) (hx : Below w3.heap.size w3 x) : x.cell? ⟨m, 0, none⟩ = some (.int .i64 oa) ∧ x.cell? ⟨m, 1, none⟩ = some (.int .u8 ob) := by
  have hr := (hx.block m (Array.getElem?_eq_some_iff.1 h.o).1).trans h.o
  exact ⟨cell_of_row _ _ _ _ _ _ hr, cell_of_row _ _ _ _ _ _ hr⟩
set_option maxHeartbeats 1000000 in
theorem pairs_get {A : Nat → Prop} {p q M : Nat} {w : World} (h : Two A w p q M) (hM : M ≤ 4611686018427387904) (k1 k2 : Int) (hk : i64ok k2) :
    Calls Try.prog 11 #[.pointer (some ⟨p, 0, none⟩), .pointer (some ⟨q, 0, none⟩), .agg #[.int .i64 0, .int .i64 k1, .int .i64 k2]] w fun e w' => e = .returned (.bool true) ∧ Two A w' p q (M + 1) ∧ Chg A w w' := by
  have HSP := hide fun x => spot_any x k2 hk
  have HK := hide hk
  have HS := hide fun w1 => PX.start (w1 := w1) (k0 := 0) (k1 := k1) (k2 := k2) h
  have hrow := Go.heap_alloc_new w (.cells #[.int .i64 0, .int .i64 k1, .int .i64 k2] 37)
  have c2 : (w.alloc (.cells #[.int .i64 0, .int .i64 k1, .int .i64 k2] 37)).cell? ⟨w.heap.size, 2, none⟩ = some (.int .i64 k2) := by rw [cell_of_row _ _ _ _ _ _ hrow]; rfl
  clear hrow h hk
  go_enter Try.func11, Try.ntmps11
  go_wp2_with (first
    | (go_at_call 30; refine (HSP.out _).mono ?_; rintro e w1 ⟨rfl, hb⟩; have HX := hide (HS.out _ hb); obtain ⟨d0, d2, d3, d4⟩ := HX.out.four; clear hb HSP HS c2)
    | fail)
  clear d0
  have HGL : Hid (∀ x, Two (fun b => A b ∧ ¬ (w.heap.size ≤ b ∧ b < (w1.alloc (.cells #[.int .i64 (pA k2), .int .u8 (pB k2)] 34)).heap.size)) x p q M → _) := hide fun x hx => two_getL hx hM HK.out
  have HGR : Hid (∀ x B slot fresh old gone er, GotL B x p q M k2 slot fresh old gone er → _) := hide fun x B slot fresh old gone er (hx : GotL B x p q M k2 slot fresh old gone er) => two_getR hx hM
  have HNUM := hide num_any
  have HSPA := hide spot_any
  go_wp2_with (first
    | (go_at_call 31; refine (HGL.out _ HX.out.two).mono ?_; rintro e w2 ⟨slot, fresh, old, gone, er, rfl, hgl, hch, hok⟩; obtain ⟨oa, ob, ho, ho1, ho2⟩ := old_parts gone old; rw [ho]; have HOA := hide (And.intro ho1 ho2); have HG := hide (And.intro (hgl.narrow (x := w2.alloc (.cells #[.int .i64 oa, .int .u8 ob] 34)) ((Below.refl _ _).alloc (Nat.le_refl _) _)) (And.intro hch hok)); have e2 : (w2.alloc (.cells #[.int .i64 oa, .int .u8 ob] 34)).cell? ⟨w.heap.size, 2, none⟩ = some (.int .i64 k2) := HX.out.oc (hch.trans (Chg.ofBelow ((Below.refl _ _).alloc (Nat.le_refl _) _))) 2; clear hgl hch hok HGL d2 d3 d4 ho ho1 ho2)
    | (go_at_call 21; refine (HGR.out _ _ _ _ _ _ _ HG.out.1).mono ?_; rintro e w3 ⟨rfl, ht, hch⟩; have HT := hide (GX.mk' HX.out HG.out.2.1 ht hch); have HO := hide HG.out.2.2; obtain ⟨m0, m1⟩ := HT.out.at (x := w3.alloc (.cells #[.int .i64 0, .int .u8 0] 34)) ((Below.refl _ _).alloc (Nat.le_refl _) _); have hne : w2.heap.size < w3.heap.size := (Array.getElem?_eq_some_iff.1 HT.out.o).1; clear ht hch HGR e2 HG HX HK; cases gone; (obtain ⟨rfl, rfl⟩ := HOA.out.2 rfl); (skip))
    | (go_at_call 8; refine (HNUM.out _ _).mono ?_; rintro e w9 ⟨rfl, rfl⟩))
  · go_ret
    exact ⟨rfl, HT.out.fin _ ((Below.refl _ _).alloc (Nat.le_refl _) _)⟩
  · obtain ⟨rfl, rfl⟩ := HOA.out.1 trivial
    have HSP2 := hide (spot_any (w3.alloc (.cells #[.int .i64 0, .int .u8 0] 34)) old HO.out)
    clear m0 m1 HSPA
    have hz := Go.heap_alloc_new w3 (.cells #[.int .i64 0, .int .u8 0] 34)
    have HAL : Hid (Below w3.heap.size w3 (w3.alloc (.cells #[.int .i64 0, .int .u8 0] 34))) := hide ((Below.refl _ _).alloc (Nat.le_refl _) _)
    have hzl : w3.heap.size < (w3.alloc (.cells #[.int .i64 0, .int .u8 0] 34)).heap.size := by rw [World.size_alloc]; omega
    go_wp2_with (first
      | (go_at_call 30; refine HSP2.out.mono ?_; rintro e w4 ⟨rfl, hb⟩; have hbb := HAL.out.trans (hb.mono HAL.out.size); have hr := (hb.block w3.heap.size hzl).trans hz; have g0 : w4.cell? ⟨w3.heap.size, 0, none⟩ = some (.int .i64 0) := cell_of_row _ _ _ _ _ _ hr; have g1 : w4.cell? ⟨w3.heap.size, 1, none⟩ = some (.int .u8 0) := cell_of_row _ _ _ _ _ _ hr; have z0 : w4.frozen? ⟨w3.heap.size, 0, none⟩ = false := frozen_of_row _ _ _ _ 34 hr; have z1 : w4.frozen? ⟨w3.heap.size, 1, none⟩ = false := frozen_of_row _ _ _ _ 34 hr; obtain ⟨m0, m1⟩ := HT.out.at hbb; have HBB := hide hbb; have HR := hide hr; clear hb hbb hr HSP2 hz hzl)
      | (go_at_call 8; refine (HNUM.out _ _).mono ?_; rintro e w9 ⟨rfl, rfl⟩))
    go_ret
    exact ⟨rfl, HT.out.fin _ ((HBB.out.setCell (Nat.le_refl _) _).setCell (Nat.le_refl _) _)⟩
end Go.Proofs.Ythkkinmegileaaa.Sp
namespace Go.Proofs.Ythkkinmegileaaa.Sp
open Go.RowKit Go.Sort
set_option linter.unusedVariables false
set_option linter.unusedSimpArgs false
set_option maxRecDepth 20000

theorem keys_cells {w3 x : World} {K : List Int} {ga wa : Option Addr} {gc wc j : Nat} (h1 : w3.ownsRow 0 34 2 (.slice ga K.length gc) K.length (K.flatMap pC)) (h2 : w3.ownsRow 0 3 1 (.slice wa K.length wc) K.length (K.map iV)) (hx : Below w3.heap.size w3 x) (hj : j < K.length) :
    ∃ g g2, ga = some ⟨g, 0, none⟩ ∧ wa = some ⟨g2, 0, none⟩ ∧ x.cell? ⟨g, j * 2, none⟩ = some (.int .i64 (pA (K.getD j 0))) ∧ x.cell? ⟨g, j * 2 + 1, none⟩ = some (.int .u8 (pB (K.getD j 0))) ∧ x.cell? ⟨g2, j, none⟩ = some (.int .i64 (K.getD j 0)) := by
  have hk : K[j]? = some (K.getD j 0) := by simp [List.getD, hj]
  obtain ⟨g, cap, cs, e, c1, c2, -⟩ := row_atS (rowKept h1 fun g e => hx.block g (h1.lt g e).2) hk
  obtain ⟨g2, cap2, cs2, e2, c3, -⟩ := row_atZ (rowKept h2 fun g e => hx.block g (h2.lt g e).2) hk
  simp only [Value.slice.injEq] at e e2
  exact ⟨g, g2, e.1, e2.1, c1, c2, c3⟩
set_option maxHeartbeats 1000000 in
theorem pairs_other {A : Nat → Prop} {p q M : Nat} {w : World} (h : Two A w p q M) (hM : M ≤ 4611686018427387904) (k0 k1 k2 : Int) (h0 : k0 ≠ 0) (h1 : k0 ≠ 1) (h2 : k0 ≠ 2) (h3 : k0 ≠ 3) (hk : i64ok k2) :
    Calls Try.prog 11 #[.pointer (some ⟨p, 0, none⟩), .pointer (some ⟨q, 0, none⟩), .agg #[.int .i64 k0, .int .i64 k1, .int .i64 k2]] w fun e w' => e = .returned (.bool true) ∧ Two A w' p q (M + 1) ∧ Chg A w w' := by
  have HSP := hide fun x => spot_any x k2 hk
  have HK := hide hk
  have HS := hide fun w1 => PX.start (w1 := w1) (k0 := k0) (k1 := k1) (k2 := k2) h
  have hrow := Go.heap_alloc_new w (.cells #[.int .i64 k0, .int .i64 k1, .int .i64 k2] 37)
  have c2 : (w.alloc (.cells #[.int .i64 k0, .int .i64 k1, .int .i64 k2] 37)).cell? ⟨w.heap.size, 2, none⟩ = some (.int .i64 k2) := by rw [cell_of_row _ _ _ _ _ _ hrow]; rfl
  have HKS : Hid (∀ x B, Two B x p q M → _) := hide fun x B (hx : Two B x p q M) => two_keys hx hM
  have b0 : (k0 == 0) = false := by simpa using h0
  have b1 : (k0 == 1) = false := by simpa using h1
  have b2 : (k0 == 2) = false := by simpa using h2
  have b3 : (k0 == 3) = false := by simpa using h3
  clear hrow h hk h0 h1 h2 h3
  go_enter Try.func11, Try.ntmps11
  go_wp2_with (first
    | (go_at_call 30; refine (HSP.out _).mono ?_; rintro e w1 ⟨rfl, hb⟩; have HX := hide (HS.out _ hb); obtain ⟨d0, d2, d3, d4⟩ := HX.out.four; clear hb HSP HS c2)
    | fail)
  obtain ⟨K, hK1, hK2, hKC⟩ := HKS.out _ _ HX.out.two
  have HKL := hide (hKC _ (Below.refl _ _)).1
  have HKR := hide fun x hx => (hKC x hx).2
  have HKO := hide hK2
  clear hKC hK2 HKS HK
  go_wp2_with (first
    | (go_at_call 35; refine HKL.out.mono ?_; rintro e w2 ⟨got, rfl, hg1, hg2, hg3⟩; have HGOT := hide (And.intro hg1 hg2); obtain ⟨ga, gc, rfl, hgc1, hgc2⟩ := rowForm hg1; clear hg1 hg2 hg3 HKL)
    | (go_at_call 29; refine (HKR.out _ HGOT.out.2).mono ?_; rintro e w3 ⟨want, rfl, hw1, hw2, hw3⟩; have HFI := hide ((HX.out.below (HGOT.out.2.trans (hw2.mono HGOT.out.2.size)))); obtain ⟨wa, wc, rfl, hwc1, hwc2⟩ := rowForm hw1; have HCE := hide fun x j hx hj => keys_cells (x := x) (j := j) (rowKept HGOT.out.1 fun g e => hw2.block g (HGOT.out.1.lt g e).2) hw1 hx hj; clear hw1 hw2 hw3 HKR HGOT HX))
  unfold maxLen at hgc2 hwc2
  have HSPA := hide spot_any
  go_loopw [21] (fun x wr => ∃ j : Nat, j ≤ K.length ∧ x = .int .i64 (j : Int) ∧ Below w3.heap.size w3 wr) (fun x _ => K.length - (intOf x).toNat)
  case atStart => exact ⟨0, Nat.zero_le _, rfl, Below.refl _ _⟩
  case round =>
    obtain ⟨j, hjn, rfl, hbe⟩ := hrel
    have HBE := hide hbe
    by_cases hj : j < K.length
    · obtain ⟨g, g2, rfl, rfl, r1, r2, r3⟩ := HCE.out wr j hbe hj
      have hok : i64ok (K.getD j 0) := HKO.out _ (List.mem_of_getElem? (i := j) (by simp [List.getD, hj]))
      have HSP := hide (HSPA.out wr _ hok)
      have HC2 : Hid (∀ x, Below w3.heap.size w3 x → x.cell? ⟨g, j * 2, none⟩ = some (.int .i64 (pA (K.getD j 0))) ∧ x.cell? ⟨g, j * 2 + 1, none⟩ = some (.int .u8 (pB (K.getD j 0)))) := hide fun x hx => by
        obtain ⟨g', g2', e1, e2, q1, q2, -⟩ := HCE.out x j hx hj
        simp only [Option.some.injEq, Addr.mk.injEq] at e1
        obtain ⟨rfl, -, -⟩ := e1
        exact ⟨q1, q2⟩
      clear hok HSPA HKO HFI HCE hbe
      generalize K.getD j 0 = kk at *
      generalize hnn : K.length = n at *
      clear hnn r1 r2
      go_wp2_with (first
        | (go_at_call 30; refine HSP.out.mono ?_; rintro e w5 ⟨rfl, hb⟩; have hb5 := HBE.out.trans (hb.mono HBE.out.size); have hb6 := hb5.alloc hb5.size (.cells #[.int .i64 (pA kk), .int .u8 (pB kk)] 34); obtain ⟨q1, q2⟩ := HC2.out _ hb6; have HB6 := hide hb6; have hrow5 := Go.heap_alloc_new w5 (.cells #[.int .i64 (pA kk), .int .u8 (pB kk)] 34); clear hb hb5 hb6 HSP HC2 HBE))
      have q3 : (w5.alloc (.cells #[.int .i64 (pA kk), .int .u8 (pB kk)] 34)).cell? ⟨w5.heap.size, 0, none⟩ = some (.int .i64 (pA kk)) := cell_of_row _ _ _ _ _ _ hrow5
      have q4 : (w5.alloc (.cells #[.int .i64 (pA kk), .int .u8 (pB kk)] 34)).cell? ⟨w5.heap.size, 1, none⟩ = some (.int .u8 (pB kk)) := cell_of_row _ _ _ _ _ _ hrow5
      clear hrow5
      generalize w5.alloc (.cells #[.int .i64 (pA kk), .int .u8 (pB kk)] 34) = y6 at *
      generalize w5.heap.size = m5 at *
      go_quiet (fail)
      go_wp2_with fail
      go_roundw
      case rel => exact ⟨j + 1, by omega, by go_num, HB6.out.trans ((below_drewN (Below.refl _ _) _).mono HB6.out.size)⟩
      case measure => simp [intOf]; omega
    · have ej : j = K.length := by omega
      subst ej
      clear HSPA HKO HCE
      go_wp2_with fail
      go_ret
      exact ⟨rfl, (HFI.out.below HBE.out).fin (by omega)⟩
end Go.Proofs.Ythkkinmegileaaa.Sp
namespace Go.Proofs.Ythkkinmegileaaa.St
open Go.RowKit Go.Sort
set_option linter.unusedVariables false
set_option linter.unusedSimpArgs false
set_option maxRecDepth 20000

/-- what is left of a number when i digits are laid -/
def NLeft (k : Int) (i : Nat) (kk : Int) : Prop := kk.natAbs = k.natAbs / 10 ^ i ∧ (0 ≤ k → 0 ≤ kk) ∧ (k < 0 → kk ≤ 0)
theorem NLeft.start (k : Int) : NLeft k 0 k := ⟨by simp, id, fun h => by omega⟩
theorem NLeft.ok {k kk : Int} {i : Nat} (hk : i64ok k) (h : NLeft k i kk) : i64ok kk := by
  obtain ⟨h1, h2, h3⟩ := h
  have h4 : k.natAbs / 10 ^ i ≤ k.natAbs := Nat.div_le_self _ _
  rw [← h1] at h4
  unfold i64ok at *
  by_cases h0 : 0 ≤ k
  · have := h2 h0; omega
  · have := h3 (by omega); omega
theorem NLeft.next {k kk : Int} {i : Nat} (h : NLeft k i kk) : NLeft k (i + 1) (kk.tdiv 10) := by
  obtain ⟨h1, h2, h3⟩ := h
  refine ⟨?_, fun h0 => Int.tdiv_nonneg (h2 h0) (by omega), fun h0 => ?_⟩
  · rw [Int.natAbs_tdiv, h1, Nat.pow_succ]
    exact Nat.div_div_eq_div_mul _ _ _
  · have := Int.tdiv_nonneg (a := -kk) (b := 10) (by have := h3 h0; omega) (by omega)
    rw [Int.neg_tdiv] at this
    omega
theorem NLeft.dig {k kk : Int} {i : Nat} (h : NLeft k i kk) : (kk.tmod 10).natAbs = k.natAbs / 10 ^ i % 10 := by
  rw [Int.natAbs_tmod, h.1]
  rfl
theorem dig_conv (wr : World) (z : Int) (d : Nat) (hd : d < 10) (e : z = 48 + (d : Int)) : (convert 102 9 (.slice (some ⟨wr.heap.size, 0, none⟩) 1 1)).run Try.prog (wr.alloc (.cells #[.int .u8 z] 5)) = .ok (.string ⟨#[UInt8.ofNat (48 + d)]⟩) (wr.alloc (.cells #[.int .u8 z] 5)) := by
  have := run_convert_bytes_back (P := Try.prog) (wr.alloc (.cells #[.int .u8 z] 5)) 102 9 5 ⟨wr.heap.size, 0, none⟩ 1 [UInt8.ofNat (48 + d)] Try.underlying102 Try.underlying5 Try.underlying9 (fun j hj => by
    have hj0 : j = 0 := by simpa using hj
    subst hj0
    have hz : z = (((UInt8.ofNat (48 + d)).toNat : Nat) : Int) := by
      rw [UInt8.toNat_ofNat', Nat.mod_eq_of_lt (by omega), e]
      omega
    have h1 := cell_one_new wr (.int .u8 z) 5 0 (.int .u8 z) rfl
    refine h1.trans ?_
    rw [hz]
    rfl)
  exact this
theorem cat1 (u : UInt8) (l : List UInt8) : (⟨#[u]⟩ : ByteArray) ++ ⟨l.toArray⟩ = ⟨(u :: l).toArray⟩ := by
  apply ByteArray.ext
  simp
def NSt (w : World) (k : Int) (kv ss x : Value) (wr : World) : Prop := ∃ (i : Nat) (kk : Int), i ≤ 20 ∧ kv = .int .i64 kk ∧ NLeft k i kk ∧ ss = .string ⟨(digs k.natAbs i).toArray⟩ ∧ x = .int .i64 (i : Int) ∧ Below w.heap.size w wr
set_option maxHeartbeats 1000000 in
theorem name_any (w : World) (k : Int) (hk : i64ok k) :
    Calls Try.prog 19 #[.int .i64 k] w fun e w' => e = .returned (.string (nm k)) ∧ Below w.heap.size w w' := by
  have HK := hide hk
  clear hk
  go_enter Try.func19, Try.ntmps19
  go_wp2_with fail
  go_loopw [0, 3, 5] (fun kv ss x wr => NSt w k kv ss x wr) (fun _ _ x _ => 20 - (intOf x).toNat)
  case atStart => exact ⟨0, k, by omega, rfl, NLeft.start k, rfl, rfl, Below.refl _ _⟩
  case round =>
    obtain ⟨i, kk, hin, rfl, hnl, rfl, rfl, hbe⟩ := hrel
    have HBE : Hid (∀ o, Below w.heap.size w (wr.alloc o)) := hide fun o => hbe.alloc hbe.size o
    by_cases hlt : i < 20
    · obtain ⟨ho1, ho2⟩ := hnl.ok HK.out
      have hdg := hnl.dig
      have HNX := hide hnl.next
      have hdl : k.natAbs / 10 ^ i % 10 < 10 := Nat.mod_lt _ (by decide)
      have HDG : Hid (digs k.natAbs (i + 1) = (48 + UInt8.ofNat (k.natAbs / 10 ^ i % 10)) :: digs k.natAbs i) := hide (by
        have : UInt8.ofNat (48 + k.natAbs / 10 ^ i % 10) = 48 + UInt8.ofNat (k.natAbs / 10 ^ i % 10) := by simp
        rw [← this]; rfl)
      have hln : (digs k.natAbs i).length ≤ 20 := by rw [digs_len]; omega
      clear hnl hbe HK
      generalize k.natAbs / 10 ^ i % 10 = d at *
      by_cases hd : kk.tmod 10 < 0
      · have hcv := dig_conv wr (48 + -kk.tmod 10) d hdl (by omega)
        go_wp2_with fail
        go_roundw
        case rel => exact ⟨i + 1, _, by omega, rfl, HNX.out, by rw [HDG.out]; exact congrArg Value.string (cat1 _ _), by go_num, HBE.out _⟩
        case measure => simp [intOf]; omega
      · have hcv := dig_conv wr (48 + kk.tmod 10) d hdl (by omega)
        go_wp2_with fail
        go_roundw
        case rel => exact ⟨i + 1, _, by omega, rfl, HNX.out, by rw [HDG.out]; exact congrArg Value.string (cat1 _ _), by go_num, HBE.out _⟩
        case measure => simp [intOf]; omega
    · have ei : i = 20 := by omega
      subst ei
      have HN : Hid (nm k = ⟨(if k < 0 then 45 :: digs k.natAbs 20 else digs k.natAbs 20).toArray⟩) := hide (by
        unfold nm
        rw [if_pos]
        have := HK.out
        unfold i64ok at this
        omega)
      have hln : (digs k.natAbs 20).length ≤ 20 := by rw [digs_len]; omega
      generalize digs k.natAbs 20 = l at *
      by_cases h0 : k < 0
      · rw [if_pos h0] at HN
        clear hnl HK
        go_wp2_with fail
        generalize hs : ((⟨#[45]⟩ : ByteArray) ++ ⟨l.toArray⟩) = str
        go_ret
        exact ⟨by rw [HN.out, ← cat1, hs]; rfl, hbe⟩
      · rw [if_neg h0] at HN
        clear hnl HK
        go_wp2_with fail
        go_ret
        exact ⟨by rw [HN.out]; rfl, hbe⟩
end Go.Proofs.Ythkkinmegileaaa.St
namespace Go.Proofs.Ythkkinmegileaaa.St
open Go.RowKit Go.Sort
set_option linter.unusedVariables false
set_option linter.unusedSimpArgs false
set_option maxRecDepth 20000

theorem getDet {S S1 S2 : LS} {M : Nat} {key o1 o2 r1 r2 : Int} {s1 s2 : Nat} {f1 f2 g1 g2 : Bool} (hS : S.Ok M) (h1 : GetRes S key S1 s1 f1 o1 g1 r1) (h2 : GetRes S key S2 s2 f2 o2 g2 r2) : S1 = S2 ∧ s1 = s2 ∧ f1 = f2 ∧ o1 = o2 ∧ g1 = g2 ∧ r1 = r2 := by
  rcases h1 with ⟨s, hs, rfl, rfl, rfl, rfl, rfl, rfl⟩ | ⟨hn, hl, rfl, rfl, rfl, rfl, rfl, rfl⟩ | ⟨hn, hl, s, r, o, hi, ho, rfl, rfl, rfl, rfl, rfl, rfl⟩ | ⟨hn, hl, hi, rfl, rfl, rfl, rfl, rfl, rfl⟩ <;>
  rcases h2 with ⟨t, ht, rfl, rfl, rfl, rfl, rfl, rfl⟩ | ⟨hn', hl', rfl, rfl, rfl, rfl, rfl, rfl⟩ | ⟨hn', hl', t, r', o', hi', ho', rfl, rfl, rfl, rfl, rfl, rfl⟩ | ⟨hn', hl', hi', rfl, rfl, rfl, rfl, rfl, rfl⟩
  · have := nodup_inj hS.kd hs ht
    subst this
    exact ⟨rfl, rfl, rfl, rfl, rfl, rfl⟩
  · exact absurd (List.mem_of_getElem? hs) hn'
  · exact absurd (List.mem_of_getElem? hs) hn'
  · exact absurd (List.mem_of_getElem? hs) hn'
  · exact absurd (List.mem_of_getElem? ht) hn
  · exact ⟨rfl, rfl, rfl, rfl, rfl, rfl⟩
  · omega
  · omega
  · exact absurd (List.mem_of_getElem? ht) hn
  · omega
  · rw [hi] at hi'
    simp only [List.cons.injEq] at hi'
    obtain ⟨rfl, rfl⟩ := hi'
    rw [ho] at ho'
    obtain rfl := Option.some.inj ho'
    exact ⟨rfl, rfl, rfl, rfl, rfl, rfl⟩
  · rw [hi] at hi'; cases hi'
  · exact absurd (List.mem_of_getElem? ht) hn
  · omega
  · rw [hi] at hi'; cases hi'
  · exact ⟨rfl, rfl, rfl, rfl, rfl, rfl⟩
theorem putDet {S S1 S2 : LS} {M : Nat} {key r1 r2 : Int} (hS : S.Ok M) (h1 : PutRes S key S1 r1) (h2 : PutRes S key S2 r2) : S1 = S2 ∧ r1 = r2 := by
  rcases h1 with ⟨h, rfl, rfl⟩ | ⟨s, r, hs, hr, rfl, rfl⟩ <;> rcases h2 with ⟨h', rfl, rfl⟩ | ⟨t, r', ht, hr', rfl, rfl⟩
  · exact ⟨rfl, rfl⟩
  · have := h t ht; rw [this] at hr'; simp at hr'
  · have := h' s hs; rw [this] at hr; simp at hr
  · have := nodup_inj hS.kd hs ht
    subst this
    exact ⟨rfl, rfl⟩
theorem refDet {S : LS} {M : Nat} {key : Int} {r1 r2 : Nat} (hS : S.Ok M) (h1 : RefRes S key r1) (h2 : RefRes S key r2) : r1 = r2 := by
  rcases h1 with ⟨s, hs, hr⟩ | ⟨hn, rfl⟩ <;> rcases h2 with ⟨t, ht, hr'⟩ | ⟨hn', rfl⟩
  · have := nodup_inj hS.kd hs ht
    subst this
    rw [hr] at hr'
    exact Option.some.inj hr'
  · exact absurd (List.mem_of_getElem? hs) hn'
  · exact absurd (List.mem_of_getElem? ht) hn
  · rfl
theorem slotDet {S : LS} {M : Nat} {key r1 r2 : Int} (hS : S.Ok M) (h1 : SRes S key r1) (h2 : SRes S key r2) : r1 = r2 := by
  rcases h1 with ⟨s, hs, rfl⟩ | ⟨hn, rfl⟩ <;> rcases h2 with ⟨t, ht, rfl⟩ | ⟨hn', rfl⟩
  · rw [nodup_inj hS.kd hs ht]
  · exact absurd (List.mem_of_getElem? hs) hn'
  · exact absurd (List.mem_of_getElem? ht) hn
  · rfl
/-- the two lie apart, on blocks that A lets -/
structure Apart (A : Nat → Prop) (p bm : Nat) (kv rv iv : Value) (q : Nat) (cv : Value) : Prop where
  lb : ∀ b, LU p bm kv rv iv b → A b
  rb : ∀ b, RU q cv b → A b
  ap : ∀ b, LU p bm kv rv iv b → ¬ RU q cv b
/-- both Lrus in memory, of one state -/
def Two (A : Nat → Prop) (w : World) (p q M : Nat) : Prop :=
  ∃ bm kv rv iv cv S C P, LRep w p bm kv rv iv S ∧ RLR w q cv C P ∧ Rel S C P ∧ S.Ok M ∧ P ≤ M ∧ Apart A p bm kv rv iv q cv ∧ ∀ b, w.heap.size ≤ b → A b
theorem Two.below {A : Nat → Prop} {p q M : Nat} {w w' : World} (h : Two A w p q M) (hb : Below w.heap.size w w') : Two A w' p q M := by
  obtain ⟨bm, kv, rv, iv, cv, S, C, P, h1, h2, h3, h4, h5, h6, h7⟩ := h
  exact ⟨bm, kv, rv, iv, cv, S, C, P, h1.below hb, h2.below hb, h3, h4, h5, h6, fun b e => h7 b (Nat.le_trans hb.size e)⟩
theorem Two.more {A : Nat → Prop} {p q M N : Nat} {w : World} (h : Two A w p q M) (hn : M ≤ N) : Two A w p q N := by
  obtain ⟨bm, kv, rv, iv, cv, S, C, P, h1, h2, h3, h4, h5, h6, h7⟩ := h
  exact ⟨bm, kv, rv, iv, cv, S, C, P, h1, h2, h3, h4.more hn, by omega, h6, h7⟩
theorem Two.mono {A A2 : Nat → Prop} {p q M : Nat} {w : World} (h : Two A w p q M) (ha : ∀ b, A b → A2 b) : Two A2 w p q M := by
  obtain ⟨bm, kv, rv, iv, cv, S, C, P, h1, h2, h3, h4, h5, h6, h7⟩ := h
  exact ⟨bm, kv, rv, iv, cv, S, C, P, h1, h2, h3, h4, h5, ⟨fun b e => ha b (h6.lb b e), fun b e => ha b (h6.rb b e), h6.ap⟩, fun b e => ha b (h7 b e)⟩
theorem Two.narrow {A : Nat → Prop} {p q M : Nat} {w : World} (h : Two A w p q M) (o : Obj) : Two (fun b => A b ∧ b ≠ w.heap.size) (w.alloc o) p q M := by
  obtain ⟨bm, kv, rv, iv, cv, S, C, P, h1, h2, h3, h4, h5, h6, h7⟩ := h
  have hb : Below w.heap.size w (w.alloc o) := (Below.refl _ _).alloc (Nat.le_refl _) o
  refine ⟨bm, kv, rv, iv, cv, S, C, P, h1.below hb, h2.below hb, h3, h4, h5, ⟨fun b e => ⟨h6.lb b e, ?_⟩, fun b e => ⟨h6.rb b e, ?_⟩, h6.ap⟩, fun b e => ⟨h7 b ?_, ?_⟩⟩
  · have := h1.lt b e; omega
  · have := h2.lt b e; omega
  · rw [World.size_alloc] at e; omega
  · rw [World.size_alloc] at e; omega
theorem afterL {A : Nat → Prop} {p bm q : Nat} {kv rv iv kv' rv' iv' cv : Value} {w w1 : World} {C : List RC} {P : Nat} {S : LS} (hl : LRep w p bm kv rv iv S) (hr : RLR w q cv C P) (ha : Apart A p bm kv rv iv q cv) (hA : ∀ b, w.heap.size ≤ b → A b) (hc : Chg (LU p bm kv rv iv) w w1) (hloc : LLoc w p bm kv rv iv kv' rv' iv') :
    RLR w1 q cv C P ∧ Apart A p bm kv' rv' iv' q cv ∧ Chg A w w1 ∧ ∀ b, w1.heap.size ≤ b → A b := by
  refine ⟨hr.kept fun b e => hc.keep b (hr.lt b e) fun hx => ha.ap b hx e, ⟨fun b e => ?_, ha.rb, fun b e1 e2 => ?_⟩, hc.mono fun b _ e => ha.lb b e, fun b e => hA b (Nat.le_trans hc.size e)⟩
  · rcases hloc b e with e | e
    · exact ha.lb b e
    · exact hA b e
  · rcases hloc b e1 with e | e
    · exact ha.ap b e e2
    · have := hr.lt b e2; omega
theorem afterR {A : Nat → Prop} {p bm q : Nat} {kv rv iv cv : Value} {w w1 : World} {C : List RC} {P : Nat} {S : LS} (hl : LRep w p bm kv rv iv S) (ha : Apart A p bm kv rv iv q cv) (hA : ∀ b, w.heap.size ≤ b → A b) (hc : Chg (RU q cv) w w1) :
    LRep w1 p bm kv rv iv S ∧ Chg A w w1 ∧ ∀ b, w1.heap.size ≤ b → A b :=
  ⟨hl.kept fun b e => hc.keep b (hl.lt b e) fun hx => ha.ap b e hx, hc.mono fun b _ e => ha.rb b e, fun b e => hA b (Nat.le_trans hc.size e)⟩
def GotL (A : Nat → Prop) (w : World) (p q M : Nat) (key : Int) (slot : Nat) (fresh : Bool) (old : Int) (gone : Bool) (er : Int) : Prop :=
  ∃ bm kv rv iv cv S S' C P, LRep w p bm kv rv iv S' ∧ S'.Ok (M + 1) ∧ RLR w q cv C P ∧ Rel S C P ∧ S.Ok M ∧ GetRes S key S' slot fresh old gone er ∧ P ≤ M ∧ Apart A p bm kv rv iv q cv ∧ ∀ b, w.heap.size ≤ b → A b
theorem two_getL {A : Nat → Prop} {p q M : Nat} {w : World} (h : Two A w p q M) (hM : M ≤ 4611686018427387904) {key : Int} (hk : i64ok key) :
    Calls Try.prog 20 #[.pointer (some ⟨p, 0, none⟩), .string (nm key)] w fun e w' => ∃ (slot : Nat) (fresh : Bool) (old : Int) (gone : Bool) (er : Int), e = .returned (.tuple #[.int .i64 (slot : Int), .bool fresh, oldV gone old, .bool gone, .int .i64 er]) ∧ GotL A w' p q M key slot fresh old gone er ∧ Chg A w w' ∧ i64ok old := by
  obtain ⟨bm, kv, rv, iv, cv, S, C, P, h1, h2, h3, h4, h5, h6, h6a⟩ := h
  refine (Get_any h1 h4 hM hk).mono ?_
  rintro e w' ⟨S', slot, fresh, old, gone, er, kv', rv', iv', hg, rfl, hl, ho, hc, hloc⟩
  obtain ⟨q1, q2, q3, q4⟩ := afterL h1 h2 h6 h6a hc hloc
  refine ⟨slot, fresh, old, gone, er, rfl, ⟨bm, kv', rv', iv', cv, S, S', C, P, hl, ho, q1, h3, h4, hg, h5, q2, q4⟩, q3, ?_⟩
  rcases hg with ⟨s, hs, rfl, rfl, rfl, rfl, rfl, rfl⟩ | ⟨hn, hl, rfl, rfl, rfl, rfl, rfl, rfl⟩ | ⟨hn, hl, s, r, o, hi, ho, rfl, rfl, rfl, rfl, rfl, rfl⟩ | ⟨hn, hl, hi, rfl, rfl, rfl, rfl, rfl, rfl⟩
  · unfold i64ok; omega
  · unfold i64ok; omega
  · exact h4.kb _ (List.mem_of_getElem? ho)
  · unfold i64ok; omega
theorem two_getR {A : Nat → Prop} {p q M : Nat} {w : World} {key : Int} {slot : Nat} {fresh : Bool} {old : Int} {gone : Bool} {er : Int} (h : GotL A w p q M key slot fresh old gone er) (hM : M ≤ 4611686018427387904) :
    Calls Try.prog 21 #[.pointer (some ⟨q, 0, none⟩), .int .i64 key] w fun e w' => e = .returned (.tuple #[.int .i64 (slot : Int), .bool fresh, .int .i64 old, .bool gone, .int .i64 er]) ∧ Two A w' p q (M + 1) ∧ Chg A w w' := by
  obtain ⟨bm, kv, rv, iv, cv, S, S', C, P, h1, h2, h3, h4, h5, h6, h7, h8, h8a⟩ := h
  have hc : Calls Try.prog 21 #[.pointer (some ⟨q, 0, none⟩), .int .i64 key] w (RGet w q P cv S key) := by
    by_cases hin : key ∈ S.ks
    · obtain ⟨s, hs⟩ := List.getElem?_of_mem hin
      exact rGet_in h3 h4 h5 hM hs
    · exact rGet_out h3 h4 h5 hin
  refine hc.mono ?_
  rintro e w' ⟨S2, slot', fresh', old', gone', er', C', hg, rfl, hr, hrel, hc⟩
  obtain ⟨rfl, rfl, rfl, rfl, rfl, rfl⟩ := getDet h5 h6 hg
  obtain ⟨q1, q2, q4⟩ := afterR (C := C) (P := P) h1 h8 h8a hc
  exact ⟨rfl, ⟨bm, kv, rv, iv, cv, S', C', P, q1, hr, hrel, h2, by omega, h8, q4⟩, q2⟩
def PutL (A : Nat → Prop) (w : World) (p q M : Nat) (key er : Int) : Prop :=
  ∃ bm kv rv iv cv S S' C P, LRep w p bm kv rv iv S' ∧ S'.Ok M ∧ RLR w q cv C P ∧ Rel S C P ∧ S.Ok M ∧ PutRes S key S' er ∧ P ≤ M ∧ Apart A p bm kv rv iv q cv ∧ ∀ b, w.heap.size ≤ b → A b
theorem two_putL {A : Nat → Prop} {p q M : Nat} {w : World} (h : Two A w p q M) (hM : M ≤ 4611686018427387904) {key : Int} (hk : i64ok key) :
    Calls Try.prog 22 #[.pointer (some ⟨p, 0, none⟩), .string (nm key)] w fun e w' => ∃ er, e = .returned (.int .i64 er) ∧ PutL A w' p q M key er ∧ Chg A w w' := by
  obtain ⟨bm, kv, rv, iv, cv, S, C, P, h1, h2, h3, h4, h5, h6, h6a⟩ := h
  refine (Put_any h1 h4 hM hk).mono ?_
  rintro e w' ⟨S', er, iv', hg, rfl, hl, ho, hc, hloc⟩
  obtain ⟨q1, q2, q3, q4⟩ := afterL h1 h2 h6 h6a hc hloc
  exact ⟨er, rfl, ⟨bm, kv, rv, iv', cv, S, S', C, P, hl, ho, q1, h3, h4, hg, h5, q2, q4⟩, q3⟩
theorem two_putR {A : Nat → Prop} {p q M : Nat} {w : World} {key er : Int} (h : PutL A w p q M key er) (hM : M ≤ 4611686018427387904) :
    Calls Try.prog 23 #[.pointer (some ⟨q, 0, none⟩), .int .i64 key] w fun e w' => e = .returned (.int .i64 er) ∧ Two A w' p q (M + 1) ∧ Chg A w w' := by
  obtain ⟨bm, kv, rv, iv, cv, S, S', C, P, h1, h2, h3, h4, h5, h6, h7, h8, h8a⟩ := h
  refine (rPut_any h3 h4 h5 hM (by omega) key).mono ?_
  rintro e w' ⟨S2, er', C', P', hg, rfl, hr, hrel, hP, hc⟩
  obtain ⟨rfl, rfl⟩ := putDet h5 h6 hg
  obtain ⟨q1, q2, q4⟩ := afterR (C := C) (P := P) h1 h8 h8a hc
  exact ⟨rfl, ⟨bm, kv, rv, iv, cv, S', C', P', q1, hr, hrel, h2.more (by omega), by omega, h8, q4⟩, q2⟩
theorem two_refs {A : Nat → Prop} {p q M : Nat} {w : World} (h : Two A w p q M) {key : Int} (hk : i64ok key) : ∃ r : Int, ∀ n,
    Calls Try.prog 24 #[.pointer (some ⟨p, 0, none⟩), .string (nm key)] (w.drewN n) (fun e w' => e = .returned (.int .i64 r) ∧ w' = w.drewN n) ∧
    Calls Try.prog 25 #[.pointer (some ⟨q, 0, none⟩), .int .i64 key] (w.drewN n) (fun e w' => e = .returned (.int .i64 r) ∧ w' = w.drewN n) := by
  obtain ⟨bm, kv, rv, iv, cv, S, C, P, h1, h2, h3, h4, h5, h6, h6a⟩ := h
  have hex : ∃ r, RefRes S key r := by
    by_cases hin : key ∈ S.ks
    · obtain ⟨s, hs⟩ := List.getElem?_of_mem hin
      exact ⟨_, .inl ⟨s, hs, (h3.us s (List.getElem?_eq_some_iff.1 hs).1).2.2⟩⟩
    · exact ⟨0, .inr ⟨hin, rfl⟩⟩
  obtain ⟨r, hr⟩ := hex
  refine ⟨(r : Int), fun n => ⟨(Refs_any (h1.below (below_drewN (Below.refl _ _) n)) h4 hk).mono ?_, (rRefs_any (h2.below (below_drewN (Below.refl _ _) n)) h3 h4 key).mono ?_⟩⟩
  · rintro e w' ⟨r', rfl, rfl, hr'⟩
    rw [refDet h4 hr hr']
    exact ⟨rfl, rfl⟩
  · rintro e w' ⟨r', rfl, rfl, hr'⟩
    rw [refDet h4 hr hr']
    exact ⟨rfl, rfl⟩
theorem two_slot {A : Nat → Prop} {p q M : Nat} {w : World} (h : Two A w p q M) {key : Int} (hk : i64ok key) : ∃ r : Int, ∀ n,
    Calls Try.prog 26 #[.pointer (some ⟨p, 0, none⟩), .string (nm key)] (w.drewN n) (fun e w' => e = .returned (.int .i64 r) ∧ w' = w.drewN n) ∧
    Calls Try.prog 27 #[.pointer (some ⟨q, 0, none⟩), .int .i64 key] (w.drewN n) (fun e w' => e = .returned (.int .i64 r) ∧ w' = w.drewN n) := by
  obtain ⟨bm, kv, rv, iv, cv, S, C, P, h1, h2, h3, h4, h5, h6, h6a⟩ := h
  have hex : ∃ r, SRes S key r := by
    by_cases hin : key ∈ S.ks
    · obtain ⟨s, hs⟩ := List.getElem?_of_mem hin
      exact ⟨_, .inl ⟨s, hs, rfl⟩⟩
    · exact ⟨-1, .inr ⟨hin, rfl⟩⟩
  obtain ⟨r, hr⟩ := hex
  refine ⟨r, fun n => ⟨(Slot_any (h1.below (below_drewN (Below.refl _ _) n)) h4 hk).mono ?_, (rSlot_any (h2.below (below_drewN (Below.refl _ _) n)) h3 h4 key).mono ?_⟩⟩
  · rintro e w' ⟨r', rfl, rfl, hr'⟩
    rw [slotDet h4 hr hr']
    exact ⟨rfl, rfl⟩
  · rintro e w' ⟨r', rfl, rfl, hr'⟩
    rw [slotDet h4 hr hr']
    exact ⟨rfl, rfl⟩
theorem two_keys {A : Nat → Prop} {p q M : Nat} {w : World} (h : Two A w p q M) (hM : M ≤ 4611686018427387904) : ∃ K : List Int, K.length ≤ 32 ∧ (∀ k ∈ K, i64ok k) ∧ ∀ w1, Below w.heap.size w w1 →
    Calls Try.prog 28 #[.pointer (some ⟨p, 0, none⟩)] w1 (fun e w' => ∃ v, e = .returned v ∧ w'.ownsRow 0 9 1 v K.length (K.map sK) ∧ Below w1.heap.size w1 w' ∧ ∀ b, v.ownBlock = some b → w1.heap.size ≤ b) ∧
    Calls Try.prog 29 #[.pointer (some ⟨q, 0, none⟩)] w1 (fun e w' => ∃ v, e = .returned v ∧ w'.ownsRow 0 3 1 v K.length (K.map iV) ∧ Below w1.heap.size w1 w' ∧ ∀ b, v.ownBlock = some b → w1.heap.size ≤ b) := by
  obtain ⟨bm, kv, rv, iv, cv, S, C, P, h1, h2, h3, h4, h5, h6, h6a⟩ := h
  refine ⟨S.keys, ?_, ?_, fun w1 hb => ⟨Keys_any (h1.below hb) h4, rKeys_any (h2.below hb) h3 h4 (by omega)⟩⟩
  · rw [LS.keys_eq, List.length_append, List.length_map]
    have a1 := nodup_bound h4.id fun x hx => h4.idle_lt hx
    have a2 := LS.busy_len S S.ks.length
    have := h4.kl
    have := h4.s2
    omega
  · intro k hk
    have hget : ∀ s, s < S.ks.length → i64ok (S.ks.getD s 0) := fun s hs => by
      have : S.ks[s]? = some (S.ks.getD s 0) := by simp [List.getD, hs]
      exact h4.kb _ (List.mem_of_getElem? this)
    rw [LS.keys, List.mem_append, List.mem_map, List.mem_map] at hk
    rcases hk with ⟨s, hs, rfl⟩ | ⟨s, hs, rfl⟩
    · exact hget s (h4.idle_lt hs)
    · exact hget s (by simpa using (List.mem_filter.1 hs).1)
end Go.Proofs.Ythkkinmegileaaa.St
namespace Go.Proofs.Ythkkinmegileaaa.St
open Go.RowKit Go.Sort
set_option linter.unusedVariables false
set_option linter.unusedSimpArgs false
set_option maxRecDepth 20000

/-- the walk of texts: both Lrus, and the ask in its block -/
structure TX (A : Nat → Prop) (w0 x : World) (p q M m : Nat) (k0 k1 k2 : Int) : Prop where
  two : Two (fun b => A b ∧ b ≠ m) x p q M
  o : x.heap[m]? = some (.cells #[.int .i64 k0, .int .i64 k1, .int .i64 k2] 37 (0, 0))
  ch : Chg A w0 x
theorem TX.start {A : Nat → Prop} {w : World} {p q M : Nat} (h : Two A w p q M) (k0 k1 k2 : Int) : TX A w (w.alloc (.cells #[.int .i64 k0, .int .i64 k1, .int .i64 k2] 37)) p q M w.heap.size k0 k1 k2 :=
  ⟨h.narrow _, Go.heap_alloc_new _ _, Chg.ofBelow ((Below.refl _ _).alloc (Nat.le_refl _) _)⟩
theorem TX.step {A : Nat → Prop} {w0 x y : World} {p q M N m : Nat} {k0 k1 k2 : Int} (h : TX A w0 x p q M m k0 k1 k2) (ht : Two (fun b => A b ∧ b ≠ m) y p q N) (hc : Chg (fun b => A b ∧ b ≠ m) x y) : TX A w0 y p q N m k0 k1 k2 :=
  ⟨ht, (hc.keep m (Array.getElem?_eq_some_iff.1 h.o).1 (fun e => e.2 rfl)).trans h.o, h.ch.trans (hc.mono fun b _ e => e.1)⟩
theorem TX.below {A : Nat → Prop} {w0 x y : World} {p q M m : Nat} {k0 k1 k2 : Int} (h : TX A w0 x p q M m k0 k1 k2) (hb : Below x.heap.size x y) : TX A w0 y p q M m k0 k1 k2 :=
  h.step (h.two.below hb) (Chg.ofBelow hb)
theorem TX.c {A : Nat → Prop} {w0 x : World} {p q M m : Nat} {k0 k1 k2 : Int} (h : TX A w0 x p q M m k0 k1 k2) (i : Nat) : x.cell? ⟨m, i, none⟩ = (#[.int .i64 k0, .int .i64 k1, .int .i64 k2] : Array Value)[i]? := cell_of_row _ _ _ _ _ _ h.o
theorem TX.fin {A : Nat → Prop} {w0 x : World} {p q M N m : Nat} {k0 k1 k2 : Int} (h : TX A w0 x p q M m k0 k1 k2) (hn : M ≤ N) : Two A x p q N ∧ Chg A w0 x := ⟨(h.two.mono fun b e => e.1).more hn, h.ch⟩
theorem TX.drewN {A : Nat → Prop} {w0 x : World} {p q M m : Nat} {k0 k1 k2 : Int} (h : TX A w0 x p q M m k0 k1 k2) (n : Nat) : TX A w0 (x.drewN n) p q M m k0 k1 k2 := h.below (below_drewN (Below.refl _ _) n)
set_option maxHeartbeats 1000000 in
theorem texts_slot {A : Nat → Prop} {p q M : Nat} {w : World} (h : Two A w p q M) (k1 k2 i : Int) (hk : i64ok k2) :
    Calls Try.prog 9 #[.pointer (some ⟨p, 0, none⟩), .pointer (some ⟨q, 0, none⟩), .agg #[.int .i64 3, .int .i64 k1, .int .i64 k2], .int .i64 i] w fun e w' => e = .returned (.bool true) ∧ Two A w' p q (M + 1) ∧ Chg A w w' := by
  have HS := hide (TX.start h 3 k1 k2)
  have HNM := hide (name_any (w.alloc (.cells #[.int .i64 3, .int .i64 k1, .int .i64 k2] 37)) k2 hk)
  have HK := hide hk
  clear h hk
  go_enter Try.func9, Try.ntmps9
  go_wp2_with (first
    | (go_at_call 19; refine HNM.out.mono ?_; rintro e w1 ⟨rfl, hb⟩; have HX := hide (HS.out.below hb); have c0 : w1.cell? ⟨w.heap.size, 0, none⟩ = some (.int .i64 3) := HX.out.c 0; have c2 : w1.cell? ⟨w.heap.size, 2, none⟩ = some (.int .i64 k2) := HX.out.c 2; clear hb HNM HS))
  obtain ⟨r, hr⟩ := two_slot HX.out.two HK.out
  have HR := hide hr
  clear hr
  go_quiet (first | (go_at_call 26; exact Calls.quiet_of_same (HR.out _).1) | (go_at_call 27; exact Calls.quiet_of_same (HR.out _).2))
  go_wp2_with fail
  go_ret
  exact ⟨rfl, (HX.out.drewN _).fin (by omega)⟩
set_option maxHeartbeats 1000000 in
theorem texts_refs {A : Nat → Prop} {p q M : Nat} {w : World} (h : Two A w p q M) (k1 k2 i : Int) (hk : i64ok k2) :
    Calls Try.prog 9 #[.pointer (some ⟨p, 0, none⟩), .pointer (some ⟨q, 0, none⟩), .agg #[.int .i64 2, .int .i64 k1, .int .i64 k2], .int .i64 i] w fun e w' => e = .returned (.bool true) ∧ Two A w' p q (M + 1) ∧ Chg A w w' := by
  have HS := hide (TX.start h 2 k1 k2)
  have HNM := hide (name_any (w.alloc (.cells #[.int .i64 2, .int .i64 k1, .int .i64 k2] 37)) k2 hk)
  have HK := hide hk
  clear h hk
  go_enter Try.func9, Try.ntmps9
  go_wp2_with (first
    | (go_at_call 19; refine HNM.out.mono ?_; rintro e w1 ⟨rfl, hb⟩; have HX := hide (HS.out.below hb); have c0 : w1.cell? ⟨w.heap.size, 0, none⟩ = some (.int .i64 2) := HX.out.c 0; have c2 : w1.cell? ⟨w.heap.size, 2, none⟩ = some (.int .i64 k2) := HX.out.c 2; clear hb HNM HS))
  obtain ⟨r, hr⟩ := two_refs HX.out.two HK.out
  have HR := hide hr
  clear hr
  go_quiet (first | (go_at_call 24; exact Calls.quiet_of_same (HR.out _).1) | (go_at_call 25; exact Calls.quiet_of_same (HR.out _).2))
  go_wp2_with fail
  go_ret
  exact ⟨rfl, (HX.out.drewN _).fin (by omega)⟩
set_option maxHeartbeats 1000000 in
theorem texts_get {A : Nat → Prop} {p q M : Nat} {w : World} (h : Two A w p q M) (hM : M ≤ 4611686018427387904) (k1 k2 i : Int) (hk : i64ok k2) :
    Calls Try.prog 9 #[.pointer (some ⟨p, 0, none⟩), .pointer (some ⟨q, 0, none⟩), .agg #[.int .i64 0, .int .i64 k1, .int .i64 k2], .int .i64 i] w fun e w' => e = .returned (.bool true) ∧ Two A w' p q (M + 1) ∧ Chg A w w' := by
  have HS := hide (TX.start h 0 k1 k2)
  have HNM := hide (name_any (w.alloc (.cells #[.int .i64 0, .int .i64 k1, .int .i64 k2] 37)) k2 hk)
  have HK := hide hk
  clear h hk
  go_enter Try.func9, Try.ntmps9
  have HGL : Hid (∀ x, TX A w x p q M w.heap.size 0 k1 k2 → _) := hide fun x (hx : TX A w x p q M w.heap.size 0 k1 k2) => two_getL hx.two hM HK.out
  have HGR : Hid (∀ x slot fresh old gone er, GotL (fun b => A b ∧ b ≠ w.heap.size) x p q M k2 slot fresh old gone er → _) := hide fun x slot fresh old gone er (hx : GotL (fun b => A b ∧ b ≠ w.heap.size) x p q M k2 slot fresh old gone er) => two_getR hx hM
  have HNUM := hide num_any
  have HNA := hide name_any
  go_wp2_with (first
    | (go_at_call 19; refine HNM.out.mono ?_; rintro e w1 ⟨rfl, hb⟩; have HX := hide (HS.out.below hb); have c0 : w1.cell? ⟨w.heap.size, 0, none⟩ = some (.int .i64 0) := HX.out.c 0; have c2 : w1.cell? ⟨w.heap.size, 2, none⟩ = some (.int .i64 k2) := HX.out.c 2; clear hb HNM HS)
    | (go_at_call 20; refine (HGL.out _ HX.out).mono ?_; rintro e w2 ⟨slot, fresh, old, gone, er, rfl, hgl, hch, hok⟩; have HG := hide (And.intro hgl (And.intro hch hok)); have d2 : w2.cell? ⟨w.heap.size, 2, none⟩ = some (.int .i64 k2) := (cell_of_row _ _ _ _ _ _ ((hch.keep w.heap.size (Array.getElem?_eq_some_iff.1 HX.out.o).1 (fun e => e.2 rfl)).trans HX.out.o)); clear hgl hch hok HGL c0 c2)
    | (go_at_call 21; refine (HGR.out _ _ _ _ _ _ HG.out.1).mono ?_; rintro e w3 ⟨rfl, ht, hch⟩; have HT := hide (And.intro ht hch); clear ht hch HGR d2))
  obtain ⟨hgl, hch, hok⟩ := HG.out
  have HFIN : Hid (∀ x, Below w3.heap.size w3 x → Two A x p q (M + 1) ∧ Chg A w x) := hide fun x hx => by
    have hxx := (HX.out.step (N := M + 1) HT.out.1 (hch.trans HT.out.2)).below hx
    exact hxx.fin (Nat.le_refl _)
  have HO := hide hok
  clear hgl hch hok HG HT HX
  cases gone with
  | false =>
    have e0 : oldV false old = .string ByteArray.empty := rfl
    rw [e0]
    go_wp2_with (first
      | (go_at_call 8; refine (HNUM.out _ _).mono ?_; rintro e w4 ⟨rfl, rfl⟩))
    go_ret
    exact ⟨rfl, HFIN.out _ (Below.refl _ _)⟩
  | true =>
    have e0 : oldV true old = .string (nm old) := rfl
    rw [e0]
    go_wp2_with (first
      | (go_at_call 8; refine (HNUM.out _ _).mono ?_; rintro e w4 ⟨rfl, rfl⟩)
      | (go_at_call 19; refine (HNA.out _ _ HO.out).mono ?_; rintro e w5 ⟨rfl, hb⟩; have HF := hide (HFIN.out _ hb); clear hb))
    go_ret
    exact ⟨rfl, HF.out⟩
end Go.Proofs.Ythkkinmegileaaa.St
namespace Go.Proofs.Ythkkinmegileaaa.St
open Go.RowKit Go.Sort
set_option linter.unusedVariables false
set_option linter.unusedSimpArgs false
set_option maxRecDepth 20000

theorem TX.drew {A : Nat → Prop} {w0 x : World} {p q M m : Nat} {k0 k1 k2 : Int} (h : TX A w0 x p q M m k0 k1 k2) : TX A w0 x.drew p q M m k0 k1 k2 := h.below ((Below.refl _ _).drew)
theorem TX.keepc {A : Nat → Prop} {w0 x y : World} {p q M m : Nat} {k0 k1 k2 : Int} (h : TX A w0 x p q M m k0 k1 k2) (hc : Chg (fun b => A b ∧ b ≠ m) x y) : y.cell? ⟨m, 2, none⟩ = some (.int .i64 k2) :=
  cell_of_row _ _ _ _ _ _ ((hc.keep m (Array.getElem?_eq_some_iff.1 h.o).1 (fun e => e.2 rfl)).trans h.o)
set_option maxHeartbeats 1000000 in
theorem texts_put {A : Nat → Prop} {p q M : Nat} {w : World} (h : Two A w p q M) (hM : M ≤ 4611686018427387904) (k1 k2 i : Int) (hk : i64ok k2) :
    Calls Try.prog 9 #[.pointer (some ⟨p, 0, none⟩), .pointer (some ⟨q, 0, none⟩), .agg #[.int .i64 1, .int .i64 k1, .int .i64 k2], .int .i64 i] w fun e w' => e = .returned (.bool true) ∧ Two A w' p q (M + 1) ∧ Chg A w w' := by
  have HS := hide (TX.start h 1 k1 k2)
  have HNM := hide (name_any (w.alloc (.cells #[.int .i64 1, .int .i64 k1, .int .i64 k2] 37)) k2 hk)
  have HK := hide hk
  clear h hk
  have HPL : Hid (∀ x, TX A w x p q M w.heap.size 1 k1 k2 → _) := hide fun x (hx : TX A w x p q M w.heap.size 1 k1 k2) => two_putL hx.two hM HK.out
  have HPR : Hid (∀ x er, PutL (fun b => A b ∧ b ≠ w.heap.size) x p q M k2 er → _) := hide fun x er (hx : PutL (fun b => A b ∧ b ≠ w.heap.size) x p q M k2 er) => two_putR hx hM
  have HNUM := hide num_any
  clear HK
  go_enter Try.func9, Try.ntmps9
  go_wp2_with (first
    | (go_at_call 19; refine HNM.out.mono ?_; rintro e w1 ⟨rfl, hb⟩; have HX := hide (HS.out.below hb); have c0 : w1.cell? ⟨w.heap.size, 0, none⟩ = some (.int .i64 1) := HX.out.c 0; have c2 : w1.cell? ⟨w.heap.size, 2, none⟩ = some (.int .i64 k2) := HX.out.c 2; clear hb HNM HS))
  clear c0
  go_region_held3 (fun w' => w'.cell? ⟨w.heap.size, 2, none⟩ = some (.int .i64 k2)) (first | exact c2 | exact d2 | exact z2)
    (first
      | (go_at_call 22; refine (HPL.out _ HX.out.drew).mono ?_; rintro e w2 ⟨er, rfl, hpl, hch⟩; have HG := hide (And.intro hpl hch); have d2 : w2.cell? ⟨w.heap.size, 2, none⟩ = some (.int .i64 k2) := HX.out.drew.keepc hch; clear hpl hch)
      | (go_at_call 23; refine (HPR.out _ _ HG.out.1).mono ?_; rintro e w3 ⟨rfl, ht, hch⟩; have HY := hide (HX.out.drew.step ht (HG.out.2.trans hch)); have z2 : w3.cell? ⟨w.heap.size, 2, none⟩ = some (.int .i64 k2) := HY.out.c 2; clear ht hch)
      | (go_at_call 8; refine (HNUM.out _ _).mono ?_; rintro e w4 ⟨rfl, rfl⟩))
  all_goals
    go_wp2_with fail
    go_ret
    exact ⟨rfl, HY.out.fin (Nat.le_refl _)⟩
end Go.Proofs.Ythkkinmegileaaa.St
namespace Go.Proofs.Ythkkinmegileaaa.St
open Go.RowKit Go.Sort
set_option linter.unusedVariables false
set_option linter.unusedSimpArgs false
set_option maxRecDepth 20000

set_option maxHeartbeats 1000000 in
theorem texts_other {A : Nat → Prop} {p q M : Nat} {w : World} (h : Two A w p q M) (k0 k1 k2 i : Int) (hk : i64ok k2) (h0 : k0 ≠ 0) (h1 : k0 ≠ 1) (h2 : k0 ≠ 2) (h3 : k0 ≠ 3) (h4 : k0 ≠ 4) :
    Calls Try.prog 9 #[.pointer (some ⟨p, 0, none⟩), .pointer (some ⟨q, 0, none⟩), .agg #[.int .i64 k0, .int .i64 k1, .int .i64 k2], .int .i64 i] w fun e w' => e = .returned (.bool true) ∧ Two A w' p q (M + 1) ∧ Chg A w w' := by
  have HS := hide (TX.start h k0 k1 k2)
  have HNM := hide (name_any (w.alloc (.cells #[.int .i64 k0, .int .i64 k1, .int .i64 k2] 37)) k2 hk)
  have b0 : (k0 == 0) = false := by simpa using h0
  have b1 : (k0 == 1) = false := by simpa using h1
  have b2 : (k0 == 2) = false := by simpa using h2
  have b3 : (k0 == 3) = false := by simpa using h3
  have b4 : (k0 == 4) = false := by simpa using h4
  clear h hk h0 h1 h2 h3 h4
  go_enter Try.func9, Try.ntmps9
  go_wp2_with (first
    | (go_at_call 19; refine HNM.out.mono ?_; rintro e w1 ⟨rfl, hb⟩; have HX := hide (HS.out.below hb); have c0 : w1.cell? ⟨w.heap.size, 0, none⟩ = some (.int .i64 k0) := HX.out.c 0; have c2 : w1.cell? ⟨w.heap.size, 2, none⟩ = some (.int .i64 k2) := HX.out.c 2; clear hb HNM HS))
  go_ret
  exact ⟨rfl, HX.out.fin (by omega)⟩
/-- the walk over the keys -/
structure KW (w1 wr : World) (got want : Value) (K : List Int) (j : Nat) : Prop where
  be : Below w1.heap.size w1 wr
  xs : ∃ xs, wr.ownsRow 0 9 1 got K.length xs ∧ ∀ t, j ≤ t → xs[t]? = (K.map sK)[t]?
  wn : wr.ownsRow 0 3 1 want K.length (K.map iV)
  gl : ∀ b, got.ownBlock = some b → w1.heap.size ≤ b
theorem KW.below {w1 wr y : World} {got want : Value} {K : List Int} {j : Nat} (h : KW w1 wr got want K j) (hb : Below wr.heap.size wr y) : KW w1 y got want K j := by
  obtain ⟨xs, hx, hy⟩ := h.xs
  exact ⟨h.be.trans (hb.mono h.be.size), ⟨xs, rowKept hx fun g e => hb.block g (hx.lt g e).2, hy⟩, rowKept h.wn fun g e => hb.block g (h.wn.lt g e).2, h.gl⟩
theorem KW.at {w1 wr : World} {got want : Value} {K : List Int} {j : Nat} (h : KW w1 wr got want K j) (hj : j < K.length) : ∃ g cap g2 cap2, got = .slice (some ⟨g, 0, none⟩) K.length cap ∧ want = .slice (some ⟨g2, 0, none⟩) K.length cap2 ∧ wr.cell? ⟨g, j, none⟩ = some (.string (nm (K.getD j 0))) ∧ wr.cell? ⟨g2, j, none⟩ = some (.int .i64 (K.getD j 0)) ∧ wr.frozen? ⟨g, j, none⟩ = false := by
  obtain ⟨xs, hx, hy⟩ := h.xs
  have hk : K[j]? = some (K.getD j 0) := by simp [List.getD, hj]
  have hl : xs.length = K.length := by have := hx.1; omega
  rw [← hl] at hx
  obtain ⟨g, cap, e1, c1⟩ := rowCell hx (j := j) (x := .string (nm (K.getD j 0))) (by rw [hy j (Nat.le_refl _), List.getElem?_map, hk]; rfl)
  obtain ⟨g2, cap2, cs, e2, c2, -⟩ := row_atZ h.wn hk
  subst e1
  obtain ⟨cs', hc⟩ := rowCells hx rfl
  exact ⟨g, cap, g2, cap2, by rw [hl], e2, c1, c2, frozen_of_row _ _ _ _ 9 hc⟩
theorem KW.cells {w1 wr : World} {K : List Int} {j g g2 cap cap2 : Nat} (h : KW w1 wr (.slice (some ⟨g, 0, none⟩) K.length cap) (.slice (some ⟨g2, 0, none⟩) K.length cap2) K j) (hj : j < K.length) : wr.cell? ⟨g, j, none⟩ = some (.string (nm (K.getD j 0))) ∧ wr.cell? ⟨g2, j, none⟩ = some (.int .i64 (K.getD j 0)) ∧ wr.frozen? ⟨g, j, none⟩ = false := by
  obtain ⟨g', cap', g2', cap2', e1, e2, q1, q2, q3⟩ := h.at hj
  simp only [Value.slice.injEq, Option.some.injEq, Addr.mk.injEq] at e1 e2
  obtain ⟨⟨rfl, -, -⟩, -, -⟩ := e1
  obtain ⟨⟨rfl, -, -⟩, -, -⟩ := e2
  exact ⟨q1, q2, q3⟩
theorem KW.drew {w1 wr : World} {got want : Value} {K : List Int} {j : Nat} (h : KW w1 wr got want K j) : KW w1 wr.drew got want K j := h.below ((Below.refl _ _).drew)
theorem KW.spoil {w1 wr : World} {want : Value} {K : List Int} {j g cap : Nat} {x : Value} (h : KW w1 wr (.slice (some ⟨g, 0, none⟩) K.length cap) want K j) (hj : j < K.length) : KW w1 (wr.setCell ⟨g, j, none⟩ x) (.slice (some ⟨g, 0, none⟩) K.length cap) want K (j + 1) := by
  obtain ⟨xs, hx, hy⟩ := h.xs
  have hg : w1.heap.size ≤ g := h.gl g rfl
  obtain ⟨cs, hc⟩ := rowCells hx rfl
  refine ⟨⟨h.be.os, h.be.tape, h.be.output, by rw [World.size_setCell]; exact h.be.size, fun b hb => ?_⟩, ⟨_, row_set hx hj, fun t ht => ?_⟩, rowKept h.wn fun b e => Go.heap_setCell_other _ _ _ _ ?_, h.gl⟩
  · rw [Go.heap_setCell_other _ _ _ _ (show b ≠ g by omega)]; exact h.be.block b hb
  · rw [List.getElem?_set_ne (by omega)]; exact hy t (by omega)
  · obtain ⟨ds, hd⟩ := rowCells h.wn e
    exact neType hd hc (by decide)
theorem KW.form {w1 wr : World} {got want : Value} {K : List Int} {j : Nat} (h : KW w1 wr got want K j) : ∃ a cap a2 cap2, got = .slice a K.length cap ∧ want = .slice a2 K.length cap2 ∧ K.length ≤ cap ∧ cap ≤ maxLen ∧ K.length ≤ cap2 ∧ cap2 ≤ maxLen := by
  obtain ⟨xs, hx, hy⟩ := h.xs
  obtain ⟨a, c, e, q1, q2⟩ := rowForm hx
  obtain ⟨a', c', e', q1', q2'⟩ := rowForm h.wn
  exact ⟨a, c, a', c', e, e', q1, q2, q1', q2'⟩
/-- one more text behind the keys: its row, and what a write into its last place leaves -/
theorem KW.more {w1 wr w4 : World} {got want v' y : Value} {K : List Int} {j : Nat} {o : Obj} {xs : List Value} (h : KW w1 wr got want K j) (ho : w4.ownsRow 0 9 1 v' (K.length + 1) (xs ++ [y])) (hu : Upon (wr.alloc o) w4 got v') :
    ∃ g c, v' = .slice (some ⟨g, 0, none⟩) (K.length + 1) c ∧ K.length + 1 ≤ c ∧ c ≤ maxLen ∧ ∀ x, Below w4.heap.size w4 x → (∃ u, x.cell? ⟨g, K.length, none⟩ = some u) ∧ x.frozen? ⟨g, K.length, none⟩ = false ∧ ∀ v, Below w1.heap.size w1 (x.setCell ⟨g, K.length, none⟩ v) := by
  have hb4 : Below w1.heap.size w1 w4 := (hu.chg (U := fun b => w1.heap.size ≤ b) (w := w1) (Chg.ofBelow h.be) fun b e => .inl (h.gl b e)).below (Nat.le_refl _) fun b e => e
  have hl : (xs ++ [y]).length = K.length + 1 := by have := ho.1; omega
  rw [← hl] at ho
  obtain ⟨g, c, e, hc⟩ := rowCell ho (j := K.length) (x := y) (by
    have : xs.length = K.length := by simpa using hl
    rw [← this]; simp)
  subst e
  obtain ⟨a', c', e', q1, q2⟩ := rowForm ho
  simp only [Value.slice.injEq] at e'
  obtain ⟨-, -, rfl⟩ := e'
  obtain ⟨cs, hcs⟩ := rowCells ho rfl
  have hgl := (Array.getElem?_eq_some_iff.1 hcs).1
  have hg : w1.heap.size ≤ g := by
    rcases hu.loc g rfl with e | e
    · exact h.gl g e
    · rw [World.size_alloc] at e; have := h.be.size; omega
  refine ⟨g, c, by rw [hl], by rw [← hl]; exact q1, q2, fun x hx => ⟨⟨y, ?_⟩, ?_, fun v => ?_⟩⟩
  · rw [World.cell?_of_block (a := ⟨g, K.length, none⟩) (hx.block g hgl)]; exact hc
  · exact frozen_of_row _ _ _ _ 9 ((hx.block g hgl).trans hcs)
  · have hbx := hb4.trans (hx.mono hb4.size)
    refine ⟨hbx.os, hbx.tape, hbx.output, by rw [World.size_setCell]; exact hbx.size, fun b hb => ?_⟩
    rw [Go.heap_setCell_other _ _ _ _ (show b ≠ g by omega)]
    exact hbx.block b hb
set_option maxHeartbeats 2000000 in
theorem texts_keys {A : Nat → Prop} {p q M : Nat} {w : World} (h : Two A w p q M) (hM : M ≤ 4611686018427387904) (k1 k2 i : Int) (hk : i64ok k2) (hi : i64ok i) :
    Calls Try.prog 9 #[.pointer (some ⟨p, 0, none⟩), .pointer (some ⟨q, 0, none⟩), .agg #[.int .i64 4, .int .i64 k1, .int .i64 k2], .int .i64 i] w fun e w' => e = .returned (.bool true) ∧ Two A w' p q (M + 1) ∧ Chg A w w' := by
  have HS := hide (TX.start h 4 k1 k2)
  have HNM := hide (name_any (w.alloc (.cells #[.int .i64 4, .int .i64 k1, .int .i64 k2] 37)) k2 hk)
  have HI := hide hi
  have HKS : Hid (∀ x, TX A w x p q M w.heap.size 4 k1 k2 → _) := hide fun x (hx : TX A w x p q M w.heap.size 4 k1 k2) => two_keys hx.two hM
  clear h hk hi
  go_enter Try.func9, Try.ntmps9
  go_wp2_with (first
    | (go_at_call 19; refine HNM.out.mono ?_; rintro e w1 ⟨rfl, hb⟩; have HX := hide (HS.out.below hb); have c0 : w1.cell? ⟨w.heap.size, 0, none⟩ = some (.int .i64 4) := HX.out.c 0; have c2 : w1.cell? ⟨w.heap.size, 2, none⟩ = some (.int .i64 k2) := HX.out.c 2; clear hb HNM HS))
  obtain ⟨K, hK1, hK2, hKC⟩ := HKS.out w1 HX.out
  have HKL := hide (hKC w1 (Below.refl _ _)).1
  have HKR : Hid (∀ x, Below w1.heap.size w1 x → _) := hide fun x (hx : Below w1.heap.size w1 x) => (hKC x hx).2
  have HKO := hide hK2
  clear hKC hK2 HKS c0 c2
  go_wp2_with (first
    | (go_at_call 28; refine HKL.out.mono ?_; rintro e w2 ⟨got, rfl, hg1, hg2, hg3⟩; have HGOT := hide (And.intro hg1 (And.intro hg2 hg3)); obtain ⟨ga, gc, rfl, hgc1, hgc2⟩ := rowForm hg1; clear hg1 hg2 hg3 HKL)
    | (go_at_call 29; refine (HKR.out _ HGOT.out.2.1).mono ?_; rintro e w3 ⟨want, rfl, hw1, hw2, hw3⟩; have HKW : Hid (KW w1 w3 _ _ K 0) := hide ⟨HGOT.out.2.1.trans (hw2.mono HGOT.out.2.1.size), ⟨_, rowKept HGOT.out.1 fun g e => hw2.block g (HGOT.out.1.lt g e).2, fun t _ => rfl⟩, hw1, HGOT.out.2.2⟩; obtain ⟨wa, wc, rfl, hwc1, hwc2⟩ := rowForm hw1; clear hw1 hw2 hw3 HKR HGOT))
  unfold maxLen at hgc2 hwc2
  have HNA := hide name_any
  go_loopw [22] (fun x wr => ∃ j : Nat, j ≤ K.length ∧ x = .int .i64 (j : Int) ∧ KW w1 wr (.slice ga K.length gc) (.slice wa K.length wc) K j) (fun x _ => K.length - (intOf x).toNat)
  case atStart => exact ⟨0, Nat.zero_le _, rfl, HKW.out⟩
  case round =>
    clear HKW
    obtain ⟨j, hjn, rfl, hkw⟩ := hrel
    have HKW := hide hkw
    by_cases hj : j < K.length
    · obtain ⟨g, cap, g2, cap2, e1, e2, -, -, -⟩ := hkw.at hj
      simp only [Value.slice.injEq] at e1 e2
      obtain ⟨rfl, -, rfl⟩ := e1
      obtain ⟨rfl, -, rfl⟩ := e2
      obtain ⟨r1, r2, rf⟩ := hkw.cells hj
      have hok : i64ok (K.getD j 0) := HKO.out _ (List.mem_of_getElem? (i := j) (by simp [List.getD, hj]))
      have HOK := hide hok
      clear hkw hok HX HI HKO rf
      have HCE : Hid (∀ x, KW w1 x (.slice (some ⟨g, 0, none⟩) K.length gc) (.slice (some ⟨g2, 0, none⟩) K.length wc) K j → x.cell? ⟨g, j, none⟩ = some (.string (nm (K.getD j 0))) ∧ x.cell? ⟨g2, j, none⟩ = some (.int .i64 (K.getD j 0)) ∧ x.frozen? ⟨g, j, none⟩ = false ∧ ∀ v, KW w1 (x.setCell ⟨g, j, none⟩ v) (.slice (some ⟨g, 0, none⟩) K.length gc) (.slice (some ⟨g2, 0, none⟩) K.length wc) K (j + 1)) := hide fun x hx => ⟨(hx.cells hj).1, (hx.cells hj).2.1, (hx.cells hj).2.2, fun v => hx.spoil hj⟩
      generalize K.getD j 0 = kk at *
      generalize hnn : K.length = n at *
      clear hnn
      go_wp2_with fail
      go_region_held3 (fun w' => w'.cell? ⟨g, j, none⟩ = some (.string (nm kk)) ∧ w'.cell? ⟨g2, j, none⟩ = some (.int .i64 kk)) (first | exact ⟨r1, r2⟩ | exact ⟨y1, y2⟩)
        ((go_at_call 19; refine (HNA.out _ _ HOK.out).mono ?_; rintro e w4 ⟨rfl, hb⟩; have HY := hide (HKW.out.drew.below hb); obtain ⟨y1, y2, y3, y4⟩ := HCE.out _ HY.out; have HZ := hide y4; clear hb y4))
      all_goals
        clear r1 r2 HCE HKW HNA
        go_wp2_with fail
        go_roundw
        case rel => exact ⟨j + 1, by omega, by go_num, HZ.out _⟩
        case measure => simp [intOf]; omega
    · have ej : j = K.length := by omega
      subst ej
      obtain ⟨i0, hi, hz0, hz1, hz2⟩ := info_parts info_string
      obtain ⟨xs, hx, -⟩ := hkw.xs
      have o3 := hx.alloc (.cells #[.string ⟨#[109, 111, 114, 101]⟩] 9)
      have HMO : Hid (∀ v' w4, w4.ownsRow 0 9 1 v' (K.length + 1) (xs ++ [.string ⟨#[109, 111, 114, 101]⟩]) → Upon (wr.alloc (.cells #[.string ⟨#[109, 111, 114, 101]⟩] 9)) w4 (.slice ga K.length gc) v' → _) := hide fun v' w4 (y1 : w4.ownsRow 0 9 1 v' (K.length + 1) (xs ++ [.string ⟨#[109, 111, 114, 101]⟩])) (y2 : Upon (wr.alloc (.cells #[.string ⟨#[109, 111, 114, 101]⟩] 9)) w4 (.slice ga K.length gc) v') => HKW.out.more y1 y2
      clear hkw hx HKO HKW
      generalize hnn : K.length = n at *
      clear hnn
      go_wp2_with (at_builtin; refine wpList_append1 _ rfl (.tmp 139) (.tmp 140) 66 rfl 9 i0 (.string ByteArray.empty) 16 Try.underlying66 hi hz0 hz1 hz2 rfl _ _ _ rfl o3 ⟨wr.heap.size, 0, none⟩ 1 (.string ⟨#[109, 111, 114, 101]⟩) rfl (cell_one_new _ _ _) rfl (by unfold maxLen; omega) (by omega) ?_)
      intro v' w4 ho4 hup4
      obtain ⟨g, c, rfl, hc1, hc2, hw⟩ := HMO.out v' w4 ho4 (by unfold Upon; rw [World.size_alloc]; exact hup4)
      unfold maxLen at hc2
      have HW := hide hw
      clear hw ho4 hup4 HMO o3
      go_wp2_with (first
        | (go_at_call 19; refine (HNA.out _ _ HI.out).mono ?_; rintro e w5 ⟨rfl, hb⟩; obtain ⟨⟨u, y1⟩, y2, y3⟩ := HW.out _ hb; have HZ := hide y3; clear hb y3 HW))
      go_ret
      exact ⟨rfl, (HX.out.below (HZ.out _)).fin (by omega)⟩
end Go.Proofs.Ythkkinmegileaaa.St
namespace Go.Proofs.Ythkkinmegileaaa.St
open Go.RowKit Go.Sort
set_option linter.unusedVariables false
set_option linter.unusedSimpArgs false
set_option maxRecDepth 20000

structure AskV where
  kind : Int
  of_ : Int
  key : Int
/-- a list of asks that came in -/
def ASl (w : World) (v : Value) (l : List AskV) : Prop :=
  ∃ a cap, v = .slice a l.length cap ∧ l.length ≤ cap ∧ cap ≤ maxLen ∧ (∀ s ∈ l, i64ok s.kind ∧ i64ok s.of_ ∧ i64ok s.key) ∧ (0 < l.length → ∃ b off, a = some ⟨b, off, none⟩ ∧ ∀ i (hi : i < l.length), w.cell? ⟨b, off + i * 3, none⟩ = some (.int .i64 l[i].kind) ∧ w.cell? ⟨b, off + i * 3 + 1, none⟩ = some (.int .i64 l[i].of_) ∧ w.cell? ⟨b, off + i * 3 + 2, none⟩ = some (.int .i64 l[i].key))
theorem texts_any {A : Nat → Prop} {p q M : Nat} {w : World} (h : Two A w p q M) (hM : M ≤ 4611686018427387904) (k0 k1 k2 i : Int) (hk : i64ok k2) (hi : i64ok i) :
    Calls Try.prog 9 #[.pointer (some ⟨p, 0, none⟩), .pointer (some ⟨q, 0, none⟩), .agg #[.int .i64 k0, .int .i64 k1, .int .i64 k2], .int .i64 i] w fun e w' => e = .returned (.bool true) ∧ Two A w' p q (M + 1) ∧ Chg A w w' := by
  by_cases h0 : k0 = 0
  · subst h0; exact texts_get h hM k1 k2 i hk
  by_cases h1 : k0 = 1
  · subst h1; exact texts_put h hM k1 k2 i hk
  by_cases h2 : k0 = 2
  · subst h2; exact texts_refs h k1 k2 i hk
  by_cases h3 : k0 = 3
  · subst h3; exact texts_slot h k1 k2 i hk
  by_cases h4 : k0 = 4
  · subst h4; exact texts_keys h hM k1 k2 i hk hi
  exact texts_other h k0 k1 k2 i hk h0 h1 h2 h3 h4
theorem ptrS (W : World) : (binOp .eql 23 (.pointer none) (.pointer none)).run Try.prog W = .ok (.bool true) W := by kernel_rfl
theorem ptrS' (W : World) (a : Addr) : (binOp .eql 23 (.pointer (some a)) (.pointer none)).run Try.prog W = .ok (.bool false) W := by kernel_rfl
theorem ptrR (W : World) : (binOp .eql 27 (.pointer none) (.pointer none)).run Try.prog W = .ok (.bool true) W := by kernel_rfl
theorem ptrR' (W : World) (a : Addr) : (binOp .eql 27 (.pointer (some a)) (.pointer none)).run Try.prog W = .ok (.bool false) W := by kernel_rfl
theorem two_start {w w1 w2 : World} {n : Nat} {cv : Value} (hn1 : 1 ≤ n) (hn2 : n ≤ 16) (h1 : LRep w1 (w.heap.size + 1) w.heap.size (.slice none 0 0) (.slice none 0 0) (.slice none 0 0) ⟨n, [], [], [], []⟩) (h2 : Below w.heap.size w w1) (h3 : Below w1.heap.size w1 w2) (h4 : RLR w2 w1.heap.size cv (List.replicate n cz) 0) (h5 : ∀ b, RU w1.heap.size cv b → w1.heap.size ≤ b) :
    Two (fun b => w.heap.size ≤ b) w2 (w.heap.size + 1) w1.heap.size 0 ∧ Below w.heap.size w w2 := by
  have hs := h2.size
  refine ⟨⟨w.heap.size, _, _, _, cv, ⟨n, [], [], [], []⟩, List.replicate n cz, 0, h1.below h3, h4, Rel.start n, ⟨hn1, hn2, Nat.zero_le _, rfl, List.nodup_nil, List.nodup_nil, fun s => by simp, fun k h => by simp at h, fun r h => by simp at h, rfl⟩, Nat.le_refl _, ⟨fun b e => ?_, fun b e => ?_, fun b e1 e2 => ?_⟩, fun b e => ?_⟩, h2.trans (h3.mono h2.size)⟩
  · rcases e with rfl | rfl | e | e | e
    · omega
    · exact Nat.le_refl _
    · simp [Value.ownBlock] at e
    · simp [Value.ownBlock] at e
    · simp [Value.ownBlock] at e
  · have := h5 b e; omega
  · have := h5 b e2
    have := h1.lt b e1
    omega
  · have := h3.size; omega
theorem cell_lt {w : World} {b o : Nat} {v : Value} (h : w.cell? ⟨b, o, none⟩ = some v) : b < w.heap.size := by
  rcases Nat.lt_or_ge b w.heap.size with h' | h'
  · exact h'
  · exfalso
    have := Array.getElem?_eq_none h'
    simp [World.cell?, this] at h
end Go.Proofs.Ythkkinmegileaaa.St
namespace Go.Proofs.Ythkkinmegileaaa
open Go.RowKit Go.Sort
set_option linter.unusedVariables false
set_option linter.unusedSimpArgs false
set_option maxRecDepth 20000

theorem Sp.pairs_any {A : Nat → Prop} {p q M : Nat} {w : World} (h : Sp.Two A w p q M) (hM : M ≤ 4611686018427387904) (k0 k1 k2 : Int) (hk : i64ok k2) :
    Calls Try.prog 11 #[.pointer (some ⟨p, 0, none⟩), .pointer (some ⟨q, 0, none⟩), .agg #[.int .i64 k0, .int .i64 k1, .int .i64 k2]] w fun e w' => e = .returned (.bool true) ∧ Sp.Two A w' p q (M + 1) ∧ Chg A w w' := by
  by_cases h0 : k0 = 0
  · subst h0; exact Sp.pairs_get h hM k1 k2 hk
  by_cases h1 : k0 = 1
  · subst h1; exact Sp.pairs_put h hM k1 k2 hk
  by_cases h2 : k0 = 2
  · subst h2; exact Sp.pairs_refs h k1 k2 hk
  by_cases h3 : k0 = 3
  · subst h3; exact Sp.pairs_slot h k1 k2 hk
  exact Sp.pairs_other h hM k0 k1 k2 h0 h1 h2 h3 hk
/-- blocks that others turn are not its own -/
theorem St.Two.beside {A B : Nat → Prop} {p q M : Nat} {w x : World} (h : St.Two A w p q M) (hc : Chg B w x) (hd : ∀ b, b < w.heap.size → A b → ¬ B b) : St.Two (fun b => A b ∧ ¬ (w.heap.size ≤ b ∧ b < x.heap.size)) x p q M := by
  obtain ⟨bm, kv, rv, iv, cv, S, C, P, h1, h2, h3, h4, h5, h6, h7⟩ := h
  have hs := hc.size
  refine ⟨bm, kv, rv, iv, cv, S, C, P, h1.kept fun b e => hc.keep b (h1.lt b e) (hd b (h1.lt b e) (h6.lb b e)), h2.kept fun b e => hc.keep b (h2.lt b e) (hd b (h2.lt b e) (h6.rb b e)), h3, h4, h5, ⟨fun b e => ⟨h6.lb b e, ?_⟩, fun b e => ⟨h6.rb b e, ?_⟩, h6.ap⟩, fun b e => ⟨h7 b ?_, ?_⟩⟩
  · have := h1.lt b e; omega
  · have := h2.lt b e; omega
  · omega
  · omega
def St.Side (A : Nat → Prop) (w : World) (lp rp : Option Addr) (M : Nat) : Prop := (∀ b, w.heap.size ≤ b → A b) ∧ ((lp = none ∧ rp = none) ∨ ∃ p q, lp = some ⟨p, 0, none⟩ ∧ rp = some ⟨q, 0, none⟩ ∧ St.Two A w p q M)
theorem St.Side.beside {A B : Nat → Prop} {M : Nat} {w x : World} {lp rp : Option Addr} (h : St.Side A w lp rp M) (hc : Chg B w x) (hd : ∀ b, b < w.heap.size → A b → ¬ B b) : St.Side (fun b => A b ∧ ¬ (w.heap.size ≤ b ∧ b < x.heap.size)) x lp rp M := by
  have hs := hc.size
  refine ⟨fun b e => ⟨h.1 b (by omega), by omega⟩, ?_⟩
  rcases h.2 with h | ⟨p, q, h1, h2, h3⟩
  · exact .inl h
  · exact .inr ⟨p, q, h1, h2, h3.beside hc hd⟩
theorem St.Side.below {A : Nat → Prop} {M : Nat} {w x : World} {lp rp : Option Addr} (h : St.Side A w lp rp M) (hb : Below w.heap.size w x) : St.Side A x lp rp M := by
  have hs := hb.size
  refine ⟨fun b e => h.1 b (by omega), ?_⟩
  rcases h.2 with h | ⟨p, q, h1, h2, h3⟩
  · exact .inl h
  · exact .inr ⟨p, q, h1, h2, h3.below hb⟩
theorem St.Side.more {A : Nat → Prop} {M N : Nat} {w : World} {lp rp : Option Addr} (h : St.Side A w lp rp M) (hn : M ≤ N) : St.Side A w lp rp N := by
  refine ⟨h.1, ?_⟩
  rcases h.2 with h | ⟨p, q, h1, h2, h3⟩
  · exact .inl h
  · exact .inr ⟨p, q, h1, h2, h3.more hn⟩
theorem St.Side.one {A : Nat → Prop} {M : Nat} {w : World} {lp rp : Option Addr} (h : St.Side A w lp rp M) : rp.isNone = lp.isNone := by
  rcases h.2 with ⟨rfl, rfl⟩ | ⟨p, q, rfl, rfl, -⟩ <;> rfl
/-- blocks that others turn are not its own -/
theorem Sp.Two.beside {A B : Nat → Prop} {p q M : Nat} {w x : World} (h : Sp.Two A w p q M) (hc : Chg B w x) (hd : ∀ b, b < w.heap.size → A b → ¬ B b) : Sp.Two (fun b => A b ∧ ¬ (w.heap.size ≤ b ∧ b < x.heap.size)) x p q M := by
  obtain ⟨bm, kv, rv, iv, cv, S, C, P, h1, h2, h3, h4, h5, h6, h7⟩ := h
  have hs := hc.size
  refine ⟨bm, kv, rv, iv, cv, S, C, P, h1.kept fun b e => hc.keep b (h1.lt b e) (hd b (h1.lt b e) (h6.lb b e)), h2.kept fun b e => hc.keep b (h2.lt b e) (hd b (h2.lt b e) (h6.rb b e)), h3, h4, h5, ⟨fun b e => ⟨h6.lb b e, ?_⟩, fun b e => ⟨h6.rb b e, ?_⟩, h6.ap⟩, fun b e => ⟨h7 b ?_, ?_⟩⟩
  · have := h1.lt b e; omega
  · have := h2.lt b e; omega
  · omega
  · omega
def Sp.Side (A : Nat → Prop) (w : World) (lp rp : Option Addr) (M : Nat) : Prop := (∀ b, w.heap.size ≤ b → A b) ∧ ((lp = none ∧ rp = none) ∨ ∃ p q, lp = some ⟨p, 0, none⟩ ∧ rp = some ⟨q, 0, none⟩ ∧ Sp.Two A w p q M)
theorem Sp.Side.beside {A B : Nat → Prop} {M : Nat} {w x : World} {lp rp : Option Addr} (h : Sp.Side A w lp rp M) (hc : Chg B w x) (hd : ∀ b, b < w.heap.size → A b → ¬ B b) : Sp.Side (fun b => A b ∧ ¬ (w.heap.size ≤ b ∧ b < x.heap.size)) x lp rp M := by
  have hs := hc.size
  refine ⟨fun b e => ⟨h.1 b (by omega), by omega⟩, ?_⟩
  rcases h.2 with h | ⟨p, q, h1, h2, h3⟩
  · exact .inl h
  · exact .inr ⟨p, q, h1, h2, h3.beside hc hd⟩
theorem Sp.Side.below {A : Nat → Prop} {M : Nat} {w x : World} {lp rp : Option Addr} (h : Sp.Side A w lp rp M) (hb : Below w.heap.size w x) : Sp.Side A x lp rp M := by
  have hs := hb.size
  refine ⟨fun b e => h.1 b (by omega), ?_⟩
  rcases h.2 with h | ⟨p, q, h1, h2, h3⟩
  · exact .inl h
  · exact .inr ⟨p, q, h1, h2, h3.below hb⟩
theorem Sp.Side.more {A : Nat → Prop} {M N : Nat} {w : World} {lp rp : Option Addr} (h : Sp.Side A w lp rp M) (hn : M ≤ N) : Sp.Side A w lp rp N := by
  refine ⟨h.1, ?_⟩
  rcases h.2 with h | ⟨p, q, h1, h2, h3⟩
  · exact .inl h
  · exact .inr ⟨p, q, h1, h2, h3.more hn⟩
theorem Sp.Side.one {A : Nat → Prop} {M : Nat} {w : World} {lp rp : Option Addr} (h : Sp.Side A w lp rp M) : rp.isNone = lp.isNone := by
  rcases h.2 with ⟨rfl, rfl⟩ | ⟨p, q, rfl, rfl, -⟩ <;> rfl
theorem Sp.two_start {w w1 w2 : World} {n : Nat} {cv : Value} (hn1 : 1 ≤ n) (hn2 : n ≤ 16) (h1 : Sp.LRep w1 (w.heap.size + 1) w.heap.size (.slice none 0 0) (.slice none 0 0) (.slice none 0 0) ⟨n, [], [], [], []⟩) (h2 : Below w.heap.size w w1) (h3 : Below w1.heap.size w1 w2) (h4 : RLR w2 w1.heap.size cv (List.replicate n cz) 0) (h5 : ∀ b, RU w1.heap.size cv b → w1.heap.size ≤ b) :
    Sp.Two (fun b => w.heap.size ≤ b) w2 (w.heap.size + 1) w1.heap.size 0 ∧ Below w.heap.size w w2 := by
  have hs := h2.size
  refine ⟨⟨w.heap.size, _, _, _, cv, ⟨n, [], [], [], []⟩, List.replicate n cz, 0, h1.below h3, h4, Rel.start n, ⟨hn1, hn2, Nat.zero_le _, rfl, List.nodup_nil, List.nodup_nil, fun s => by simp, fun k h => by simp at h, fun r h => by simp at h, rfl⟩, Nat.le_refl _, ⟨fun b e => ?_, fun b e => ?_, fun b e1 e2 => ?_⟩, fun b e => ?_⟩, h2.trans (h3.mono h2.size)⟩
  · rcases e with rfl | rfl | e | e | e
    · omega
    · exact Nat.le_refl _
    · simp [Value.ownBlock] at e
    · simp [Value.ownBlock] at e
    · simp [Value.ownBlock] at e
  · have := h5 b e; omega
  · have := h5 b e2
    have := h1.lt b e1
    omega
  · have := h3.size; omega
theorem St.start_any (w : World) (n : Int) : ∃ er : Int, Calls Try.prog 5 #[.int .i64 n] w fun r w1 => ∃ lp, r = .returned (.tuple #[.pointer lp, .int .i64 er]) ∧ Calls Try.prog 6 #[.int .i64 n] w1 fun r w2 => ∃ rp, r = .returned (.tuple #[.pointer rp, .int .i64 er]) ∧ St.Side (fun b => w.heap.size ≤ b) w2 lp rp 0 ∧ Below w.heap.size w w2 := by
  by_cases hn : 1 ≤ n ∧ n ≤ 16
  · obtain ⟨m, rfl⟩ : ∃ m : Nat, n = (m : Int) := ⟨n.toNat, by omega⟩
    refine ⟨0, (St.new_any w m (by omega) (by omega)).mono ?_⟩
    rintro r w1 ⟨rfl, h1, h2⟩
    refine ⟨_, rfl, (rNew_any w1 m (by omega) (by omega)).mono ?_⟩
    rintro r w2 ⟨cv, rfl, h3, h4, h5⟩
    obtain ⟨h6, h7⟩ := St.two_start (by omega) (by omega) h1 h2 h3 h4 h5
    exact ⟨_, rfl, ⟨fun b e => Nat.le_trans h7.size e, .inr ⟨_, _, rfl, rfl, h6⟩⟩, h7⟩
  · refine ⟨1, (St.new_no w n hn).mono ?_⟩
    rintro r w1 ⟨rfl, rfl⟩
    refine ⟨_, rfl, (rNew_no w1 n hn).mono ?_⟩
    rintro r w2 ⟨rfl, rfl⟩
    exact ⟨_, rfl, ⟨fun b e => e, .inl ⟨rfl, rfl⟩⟩, Below.refl _ _⟩
theorem Sp.start_any (w : World) (n : Int) : ∃ er : Int, Calls Try.prog 7 #[.int .i64 n] w fun r w1 => ∃ lp, r = .returned (.tuple #[.pointer lp, .int .i64 er]) ∧ Calls Try.prog 6 #[.int .i64 n] w1 fun r w2 => ∃ rp, r = .returned (.tuple #[.pointer rp, .int .i64 er]) ∧ Sp.Side (fun b => w.heap.size ≤ b) w2 lp rp 0 ∧ Below w.heap.size w w2 := by
  by_cases hn : 1 ≤ n ∧ n ≤ 16
  · obtain ⟨m, rfl⟩ : ∃ m : Nat, n = (m : Int) := ⟨n.toNat, by omega⟩
    refine ⟨0, (Sp.new_any w m (by omega) (by omega)).mono ?_⟩
    rintro r w1 ⟨rfl, h1, h2⟩
    refine ⟨_, rfl, (rNew_any w1 m (by omega) (by omega)).mono ?_⟩
    rintro r w2 ⟨cv, rfl, h3, h4, h5⟩
    obtain ⟨h6, h7⟩ := Sp.two_start (by omega) (by omega) h1 h2 h3 h4 h5
    exact ⟨_, rfl, ⟨fun b e => Nat.le_trans h7.size e, .inr ⟨_, _, rfl, rfl, h6⟩⟩, h7⟩
  · refine ⟨1, (Sp.new_no w n hn).mono ?_⟩
    rintro r w1 ⟨rfl, rfl⟩
    refine ⟨_, rfl, (rNew_no w1 n hn).mono ?_⟩
    rintro r w2 ⟨rfl, rfl⟩
    exact ⟨_, rfl, ⟨fun b e => e, .inl ⟨rfl, rfl⟩⟩, Below.refl _ _⟩
/-- both pairs of Lrus in a run of the law -/
def Both (w0 w : World) (lp rp mp qp : Option Addr) (M : Nat) : Prop := ∃ A1 A2 : Nat → Prop, St.Side A1 w lp rp M ∧ Sp.Side A2 w mp qp M ∧ (∀ b, A1 b → w0.heap.size ≤ b) ∧ (∀ b, A2 b → w0.heap.size ≤ b) ∧ (∀ b, b < w.heap.size → A1 b → ¬ A2 b) ∧ Below w0.heap.size w0 w
theorem Both.below {w0 w x : World} {lp rp mp qp : Option Addr} {M : Nat} (h : Both w0 w lp rp mp qp M) (hb : Below w.heap.size w x) : Both w0 x lp rp mp qp M := by
  obtain ⟨A1, A2, h1, h2, h3, h4, h5, h6⟩ := h
  refine ⟨A1, _, h1.below hb, h2.beside (B := fun _ => False) (Chg.ofBelow hb) (fun b _ _ e => e.elim), h3, fun b e => h4 b e.1, fun b e1 e2 e3 => ?_, h6.trans (hb.mono h6.size)⟩
  rcases Nat.lt_or_ge b w.heap.size with e | e
  · exact h5 b e e2 e3.1
  · exact e3.2 ⟨e, e1⟩
theorem Both.more {w0 w : World} {lp rp mp qp : Option Addr} {M N : Nat} (h : Both w0 w lp rp mp qp M) (hn : M ≤ N) : Both w0 w lp rp mp qp N := by
  obtain ⟨A1, A2, h1, h2, h3, h4, h5, h6⟩ := h
  exact ⟨A1, A2, h1.more hn, h2.more hn, h3, h4, h5, h6⟩
theorem Both.texts {w0 w : World} {mp qp rp : Option Addr} {lp : Option Addr} {M : Nat} (h : Both w0 w lp rp mp qp M) (hl : lp ≠ none) (hM : M ≤ 4611686018427387904) (k0 k1 k2 i : Int) (hk : i64ok k2) (hi : i64ok i) :
    Calls Try.prog 9 #[.pointer lp, .pointer rp, .agg #[.int .i64 k0, .int .i64 k1, .int .i64 k2], .int .i64 i] w fun e w' => e = .returned (.bool true) ∧ Both w0 w' lp rp mp qp (M + 1) := by
  obtain ⟨A1, A2, h1, h2, h3, h4, h5, h6⟩ := h
  rcases h1.2 with ⟨e, -⟩ | ⟨p, q, rfl, rfl, ht⟩
  · exact absurd e hl
  refine (St.texts_any ht hM k0 k1 k2 i hk hi).mono ?_
  rintro e w' ⟨rfl, t1, t2⟩
  have hs := t2.size
  refine ⟨rfl, A1, _, ⟨fun b e => h1.1 b (by omega), .inr ⟨p, q, rfl, rfl, t1⟩⟩, (h2.beside t2 fun b e1 e2 e3 => h5 b e1 e3 e2).more (by omega), h3, fun b e => h4 b e.1, fun b e1 e2 e3 => ?_, h6.trans (t2.below h6.size h3)⟩
  rcases Nat.lt_or_ge b w.heap.size with e | e
  · exact h5 b e e2 e3.1
  · exact e3.2 ⟨e, e1⟩
theorem Both.pairs {w0 w : World} {mp qp rp : Option Addr} {lp : Option Addr} {M : Nat} (h : Both w0 w lp rp mp qp M) (hl : mp ≠ none) (hM : M ≤ 4611686018427387904) (k0 k1 k2 : Int) (hk : i64ok k2) :
    Calls Try.prog 11 #[.pointer mp, .pointer qp, .agg #[.int .i64 k0, .int .i64 k1, .int .i64 k2]] w fun e w' => e = .returned (.bool true) ∧ Both w0 w' lp rp mp qp (M + 1) := by
  obtain ⟨A1, A2, h1, h2, h3, h4, h5, h6⟩ := h
  rcases h2.2 with ⟨e, -⟩ | ⟨p, q, rfl, rfl, ht⟩
  · exact absurd e hl
  refine (Sp.pairs_any ht hM k0 k1 k2 hk).mono ?_
  rintro e w' ⟨rfl, t1, t2⟩
  have hs := t2.size
  refine ⟨rfl, _, A2, (h1.beside t2 h5).more (by omega), ⟨fun b e => h2.1 b (by omega), .inr ⟨p, q, rfl, rfl, t1⟩⟩, fun b e => h3 b e.1, h4, fun b e1 e2 e3 => ?_, h6.trans (t2.below h6.size h4)⟩
  rcases Nat.lt_or_ge b w.heap.size with e | e
  · exact h5 b e e2.1 e3
  · exact e2.2 ⟨e, e1⟩
theorem Both.start {w w2 w4 : World} {lp rp mp qp : Option Addr} (h1 : St.Side (fun b => w.heap.size ≤ b) w2 lp rp 0) (h2 : Below w.heap.size w w2) (h3 : Sp.Side (fun b => w2.heap.size ≤ b) w4 mp qp 0) (h4 : Below w2.heap.size w2 w4) : Both w w4 lp rp mp qp 0 := by
  have hs := h2.size
  refine ⟨_, _, h1.beside (B := fun _ => False) (Chg.ofBelow h4) (fun b _ _ e => e.elim), h3, fun b e => e.1, fun b e => Nat.le_trans hs e, fun b e1 e2 e3 => e2.2 ⟨e3, e1⟩, h2.trans (h4.mono hs)⟩
end Go.Proofs.Ythkkinmegileaaa
namespace Go.Proofs.Ythkkinmegileaaa
open Go.RowKit Go.Sort
set_option linter.unusedVariables false
set_option linter.unusedSimpArgs false
set_option maxRecDepth 20000

theorem tmod_bd (x : Int) (n : Nat) (h : 1 ≤ n) : -(n : Int) < x.tmod (n : Int) ∧ x.tmod (n : Int) < (n : Int) := by
  have key : ∀ m : Nat, (m : Int).tmod (n : Int) = ((m % n : Nat) : Int) := fun m => by rw [Int.tmod_eq_emod_of_nonneg (by omega)]; simp
  rcases Int.le_total 0 x with hx | hx
  · obtain ⟨m, rfl⟩ := Int.eq_ofNat_of_zero_le hx
    rw [key]
    have := Nat.mod_lt m (show 0 < n by omega)
    omega
  · obtain ⟨m, hm⟩ := Int.eq_ofNat_of_zero_le (show 0 ≤ -x by omega)
    obtain rfl : x = -(m : Int) := by omega
    rw [Int.neg_tmod, key]
    have := Nat.mod_lt m (show 0 < n by omega)
    omega
theorem within_any (w : World) (x : Int) (n : Nat) (hx : i64ok x) (h1 : 1 ≤ n) (h2 : n ≤ 1000000) : Calls Try.prog 10 #[.int .i64 x, .int .i64 (n : Int)] w fun e w' => ∃ r : Nat, r < n ∧ e = .returned (.int .i64 (r : Int)) ∧ w' = w := by
  unfold i64ok at hx
  have hn0 : ¬ (n : Int) < 1 := by omega
  have hn1 : ¬ (n : Int) = 0 := by omega
  obtain ⟨b1, b2⟩ := tmod_bd x n h1
  obtain ⟨y, htm⟩ : ∃ y, x.tmod (n : Int) = y := ⟨_, rfl⟩
  rw [htm] at b1 b2
  by_cases hneg : y < 0
  · go_enter Try.func10, Try.ntmps10
    go_wp2
    go_ret
    exact ⟨(y + (n : Int)).toNat, by omega, by go_num, rfl⟩
  · go_enter Try.func10, Try.ntmps10
    go_wp2
    go_ret
    exact ⟨y.toNat, by omega, by go_num, rfl⟩
theorem ptrEqS (lp : Option Addr) (W : World) : (binOp .eql 23 (.pointer lp) (.pointer none)).run Try.prog W = .ok (.bool lp.isNone) W := by cases lp <;> kernel_rfl
theorem ptrEqR (lp : Option Addr) (W : World) : (binOp .eql 27 (.pointer lp) (.pointer none)).run Try.prog W = .ok (.bool lp.isNone) W := by cases lp <;> kernel_rfl
theorem ptrEqP (lp : Option Addr) (W : World) : (binOp .eql 30 (.pointer lp) (.pointer none)).run Try.prog W = .ok (.bool lp.isNone) W := by cases lp <;> kernel_rfl
theorem ptrNeS (lp : Option Addr) (W : World) : (binOp .neq 23 (.pointer lp) (.pointer none)).run Try.prog W = .ok (.bool (!lp.isNone)) W := by cases lp <;> kernel_rfl
theorem ptrNeP (lp : Option Addr) (W : World) : (binOp .neq 30 (.pointer lp) (.pointer none)).run Try.prog W = .ok (.bool (!lp.isNone)) W := by cases lp <;> kernel_rfl
set_option maxHeartbeats 2000000 in
theorem kindsLaw {w : World} {sv : Value} {l : List St.AskV} (n1 n2 : Int) (hs : St.ASl w sv l) (hz : l.length ≤ 1000000000000000) :
    Calls Try.prog 3 #[.int .i64 n1, .int .i64 n2, sv] w fun e w' => e = .returned (.bool true) ∧ Below w.heap.size w w' := by
  obtain ⟨er, hn⟩ := St.start_any w n1
  have HN := hide hn
  have HP := hide fun x => Sp.start_any x n2
  have HNU := hide fun (x : World) (e : Int) => num_any x e
  have HWI := hide within_any
  obtain ⟨a, cap, rfl, h1, h2, h3, h4⟩ := hs
  unfold maxLen at h2
  clear hn
  go_enter Try.func3, Try.ntmps3
  go_wp2_with (first
    | (go_at_call 5; refine HN.out.mono ?_; rintro e w1 ⟨lp, rfl, h⟩; have H1 := hide h; clear h HN)
    | (go_at_call 7; obtain ⟨er2, hp⟩ := HP.out w2; refine hp.mono ?_; rintro e w3 ⟨mp, rfl, h⟩; have H2 := hide h; clear h hp HP)
    | (go_at_call 6; refine H1.out.mono ?_; rintro e w2 ⟨rp, rfl, s1, s2⟩; have q1 := ptrEqS lp; have q2 := ptrEqR rp; have q3 := ptrNeS lp; rw [s1.one] at q2; have HT := hide (And.intro s1 s2); clear H1 s1 s2)
    | (go_at_call 6; refine H2.out.mono ?_; rintro e w4 ⟨qp, rfl, s1, s2⟩; have q4 := ptrEqP mp; have q5 := ptrEqR qp; have q6 := ptrNeP mp; rw [s1.one] at q5; have HB := hide (Both.start HT.out.1 HT.out.2 s1 s2); clear H2 s1 s2 HT)
    | (go_at_call 8; refine (HNU.out _ _).mono ?_; rintro e w9 ⟨rfl, rfl⟩))
  clear HNU
  have HC : Hid (∀ x, Below w.heap.size w x → ∀ i, i < l.length → ∃ b off k0 k1 k2, a = some ⟨b, off, none⟩ ∧ x.cell? ⟨b, off + i * 3, none⟩ = some (.int .i64 k0) ∧ x.cell? ⟨b, off + i * 3 + 1, none⟩ = some (.int .i64 k1) ∧ x.cell? ⟨b, off + i * 3 + 2, none⟩ = some (.int .i64 k2) ∧ i64ok k1 ∧ i64ok k2) := hide fun x hx i hi => by
    obtain ⟨b, off, e, hc⟩ := h4 (by omega)
    obtain ⟨q0, q1, q2⟩ := hc i hi
    have hb : b < w.heap.size := St.cell_lt q0
    exact ⟨b, off, _, _, _, e, by rw [hx.cell (p := ⟨b, _, none⟩) hb]; exact q0, by rw [hx.cell (p := ⟨b, _, none⟩) hb]; exact q1, by rw [hx.cell (p := ⟨b, _, none⟩) hb]; exact q2, (h3 _ (List.getElem_mem hi)).2.1, (h3 _ (List.getElem_mem hi)).2.2⟩
  clear h3 h4
  generalize l.length = len at *
  have HLN := hide (show lp.isNone = false → lp ≠ none from fun h e => by rw [e] at h; cases h)
  have HMN := hide (show mp.isNone = false → mp ≠ none from fun h e => by rw [e] at h; cases h)
  clear q1 q2 q4 q5
  generalize lp.isNone = bl at *
  generalize mp.isNone = bm at *
  go_loopw [15] (fun x wr => ∃ i : Nat, i ≤ len ∧ x = .int .i64 (i : Int) ∧ Both w wr lp rp mp qp i) (fun x _ => len - (intOf x).toNat)
  case atStart => exact ⟨0, Nat.zero_le _, rfl, HB.out⟩
  case round =>
    clear HB
    obtain ⟨i, hin, rfl, htw⟩ := hrel
    have HT := hide htw
    have HWB : Hid (Below w.heap.size w wr) := hide (by obtain ⟨A1, A2, -, -, -, -, -, h⟩ := htw; exact h)
    clear htw
    by_cases hlt : i < len
    · obtain ⟨b, off, k0, k1, k2, rfl, r0, r1, r2, hk1, hk2⟩ := HC.out wr HWB.out i hlt
      have HK2 := hide hk2
      obtain ⟨b1, b2⟩ := tmod_bd k1 2 (by omega)
      obtain ⟨y, htm⟩ : ∃ y, k1.tmod 2 = y := ⟨_, rfl⟩
      rw [show ((2 : Nat) : Int) = 2 from rfl, htm] at b1 b2
      clear HC HWB hk2
      unfold i64ok at hk1
      have hrow := Go.heap_alloc_new wr (.cells #[.int .i64 k0, .int .i64 k1, .int .i64 k2] 37)
      have d0 : (wr.alloc (.cells #[.int .i64 k0, .int .i64 k1, .int .i64 k2] 37)).cell? ⟨wr.heap.size, 0, none⟩ = some (.int .i64 k0) := cell_of_row _ _ _ _ _ _ hrow
      have d1 : (wr.alloc (.cells #[.int .i64 k0, .int .i64 k1, .int .i64 k2] 37)).cell? ⟨wr.heap.size, 1, none⟩ = some (.int .i64 k1) := cell_of_row _ _ _ _ _ _ hrow
      have d2 : (wr.alloc (.cells #[.int .i64 k0, .int .i64 k1, .int .i64 k2] 37)).cell? ⟨wr.heap.size, 2, none⟩ = some (.int .i64 k2) := cell_of_row _ _ _ _ _ _ hrow
      have f2 : (wr.alloc (.cells #[.int .i64 k0, .int .i64 k1, .int .i64 k2] 37)).frozen? ⟨wr.heap.size, 2, none⟩ = false := frozen_of_row _ _ _ _ 37 hrow
      have HBA : Hid (Below wr.heap.size wr (wr.alloc (.cells #[.int .i64 k0, .int .i64 k1, .int .i64 k2] 37))) := hide ((Below.refl _ _).alloc (Nat.le_refl _) _)
      clear hrow
      by_cases hy : y = 0
      · have hyb : (y == 0) = true := by simpa using hy
        cases bl with
        | true =>
          go_wp2_with fail
          go_roundw
          case rel => exact ⟨i + 1, by omega, by go_num, (HT.out.below HBA.out).more (by omega)⟩
          case measure => simp [intOf]; omega
        | false =>
          have HX := hide ((HT.out.below HBA.out).texts (HLN.out rfl) (by omega) k0 k1 k2 (i : Int) HK2.out (by unfold i64ok; omega))
          clear HT HWI HLN HMN
          go_wp2_with (first
            | (go_at_call 9; refine HX.out.mono ?_; rintro e w5 ⟨rfl, t1⟩; have HY := hide t1; clear t1 HX))
          go_roundw
          case rel => exact ⟨i + 1, by omega, by go_num, HY.out⟩
          case measure => simp [intOf]; omega
      · have hyb : (y == 0) = false := by simpa using hy
        cases bm with
        | true =>
          go_wp2_with fail
          go_roundw
          case rel => exact ⟨i + 1, by omega, by go_num, (HT.out.below HBA.out).more (by omega)⟩
          case measure => simp [intOf]; omega
        | false =>
          have HX := hide fun x (hx : Below wr.heap.size wr x) z hz => (HT.out.below hx).pairs (HMN.out rfl) (by omega) k0 k1 z hz
          have HW := hide (HWI.out (wr.alloc (.cells #[.int .i64 k0, .int .i64 k1, .int .i64 k2] 37)) k2 3000 HK2.out (by omega) (by omega))
          clear HT HWI HLN HMN
          go_wp2_with (first
            | (go_at_call 10; refine HW.out.mono ?_; rintro e w5 ⟨z, hz, rfl, rfl⟩; have HZ := hide hz; clear hz HW)
            | (go_at_call 11; refine (HX.out _ ((Below.refl _ _).alloc (Nat.le_refl _) (.cells #[.int .i64 k0, .int .i64 k1, .int .i64 (z : Int)] 37)) (z : Int) (by have := HZ.out; unfold i64ok; omega)).mono ?_; rintro e w6 ⟨rfl, t1⟩; have HY := hide t1; clear t1 HX))
          go_roundw
          case rel => exact ⟨i + 1, by omega, by go_num, HY.out⟩
          case measure => simp [intOf]; omega
    · clear HC HT HWI HLN HMN
      go_wp2_with fail
      go_ret
      exact ⟨rfl, HWB.out⟩
end Go.Proofs.Ythkkinmegileaaa
namespace Go.Proofs.Ythkkinmegileaaa
open Go.RowKit Go.Sort
set_option linter.unusedVariables false
set_option linter.unusedSimpArgs false
set_option maxRecDepth 20000

end Go.Proofs.Ythkkinmegileaaa
namespace Go.Proofs.Ythkkinmegileaaa
open Go.RowKit Go.Sort
set_option linter.unusedVariables false
set_option linter.unusedSimpArgs false
set_option maxRecDepth 20000

/-- a list of ints that came in -/
def ISl (w : World) (v : Value) (zs : List Int) : Prop :=
  ∃ a cap, v = .slice a zs.length cap ∧ zs.length ≤ cap ∧ cap ≤ maxLen ∧ (∀ z ∈ zs, i64ok z) ∧ (0 < zs.length → ∃ b off, a = some ⟨b, off, none⟩ ∧ ∀ i, i < zs.length → w.cell? ⟨b, off + i, none⟩ = some (.int .i64 (zs.getD i 0)))
theorem ptrI (W : World) : (binOp .eql 95 (.pointer none) (.pointer none)).run Try.prog W = .ok (.bool true) W := by kernel_rfl
theorem ptrI' (W : World) (a : Addr) : (binOp .eql 95 (.pointer (some a)) (.pointer none)).run Try.prog W = .ok (.bool false) W := by kernel_rfl
end Go.Proofs.Ythkkinmegileaaa
namespace Go.Proofs.Ythkkinmegileaaa
open Go.ChangeShapes Go.WideShapes Go.ChangeAt Go.RowKit
set_option linter.unusedVariables false
set_option linter.unusedSimpArgs false
set_option maxRecDepth 20000

theorem bytesInt : Try.prog.bytesOf 3 = 8 := by kernel_rfl
theorem trod_place_lt {H : Type} {enc : TypeId × Value → H} {W : World} {t : TypeId} {v : Value} {d : DataW H} {p : List MemPlace} (h1 : DataW.Trod enc Try.prog W 0 (fun _ => true) true t v d p) : ∀ x ∈ p, x.block < W.heap.size := by
  obtain ⟨m, hm⟩ := h1; exact DataW.trod_lt m _ _ _ hm
/-- a list of ints that came in -/
theorem open_steps {H : Type} {enc : TypeId × Value → H} {W : World} {base : Nat} {v : Value} {d : DataW H} {p : List MemPlace} {ts : List TypeId} {ds : List (DataW H)} (j : Nat) (hts : ts[j]? = some 67) (hds : ds[j]? = some d)
    (hsz : (DataW.weightsEach Try.prog ts ds).all (· ≤ reachBytes) = true) (hok : Value.okWide Try.prog W .any base 67 v) (h1 : DataW.Trod enc Try.prog W 0 (fun _ => true) true 67 v d p) : ∃ zs : List Int, ISl W v zs ∧ zs.length ≤ 1000000000000000 := by
  obtain ⟨a1, len1, cap1, rfl⟩ := okWide_slice Try.underlying67 hok
  obtain ⟨fuel, hf⟩ := h1
  rcases open_ints Try.underlying67 Try.underlying3 (by kernel_rfl) hf with ⟨hcs, _⟩ | ⟨x, l, c, zs, hcs, _, hl, hm, hz, hx, hcell, hwz⟩
  · simp [Value.cells] at hcs
    obtain ⟨rfl, rfl, rfl⟩ := hcs
    exact ⟨[], ⟨none, 0, rfl, Nat.le_refl _, by unfold maxLen; omega, by simp, by simp⟩, Nat.zero_le _⟩
  · simp [Value.cells] at hcs
    obtain ⟨rfl, rfl, rfl⟩ := hcs
    simp only [if_true] at hz
    have hlen : (zs.take len1).length = len1 := by simp; omega
    refine ⟨zs.take len1, ⟨_, cap1, by rw [hlen], by omega, hm, fun z hz' => ?_, fun hp => ?_⟩, ?_⟩
    · have := bounds_i64 (hwz z (List.mem_of_mem_take hz'))
      exact ⟨by omega, by omega⟩
    · obtain ⟨b, off, rfl, hc⟩ := ints_at hcell (by omega)
      refine ⟨b, off, rfl, fun i hi => ?_⟩
      rw [hc i (by omega)]
      have hi2 : i < len1 := by omega
      simp [List.getD, hi2]
    · have h0 := List.all_eq_true.1 hsz (zs.length * 8) (DataW.weights_mem_each hts hds _ (by
        simp only [Prod.mk.injEq] at hx
        rw [hx.1]
        simp only [DataW.weights]
        rw [Try.underlying67]
        simp only [lits, List.length_map, List.length_take, List.length_drop, bytesInt]
        rw [show min len1 zs.length + (zs.length - len1) = zs.length by omega]
        exact List.mem_cons_self))
      simp only [decide_eq_true_eq] at h0
      unfold reachBytes at h0
      rw [hlen]
      omega
theorem again_ints {H : Type} {enc : TypeId × Value → H} {W W' : World} {v : Value} {d : DataW H} {p : List MemPlace} (h1 : DataW.Trod enc Try.prog W 0 (fun _ => true) true 67 v d p) (bel : Below W.heap.size W W') :
    DataW.Trod enc Try.prog W' 0 (fun b => decide (b < W.heap.size)) true 67 v d p := Below.trod laidOut (by kernel_rfl) (of_decide_eq_true (by kernel_rfl)) h1 bel (trod_place_lt h1)
end Go.Proofs.Ythkkinmegileaaa
namespace Go.Proofs.Ythkkinmegileaaa.St
open Go.ChangeShapes Go.WideShapes Go.ChangeAt Go.RowKit
set_option linter.unusedVariables false
set_option linter.unusedSimpArgs false
set_option maxRecDepth 20000

theorem cellsInt : Try.prog.cellsOf 3 = 1 := by kernel_rfl
theorem cellsAsk : Try.prog.cellsOf 37 = 3 := by kernel_rfl
theorem bytesAsk : Try.prog.bytesOf 37 = 24 := by kernel_rfl
theorem open_asks {H : Type} {enc : TypeId × Value → H} {W : World} {base : Nat} {v : Value} {d : DataW H} {p : List MemPlace} {ts : List TypeId} {ds : List (DataW H)} (j : Nat) (hts : ts[j]? = some 22) (hds : ds[j]? = some d)
    (hsz : (DataW.weightsEach Try.prog ts ds).all (· ≤ reachBytes) = true)
    (hok : Value.okWide Try.prog W .any base 22 v) (h1 : DataW.Trod enc Try.prog W 0 (fun _ => true) true 22 v d p) : ∃ l : List AskV, ASl W v l ∧ l.length ≤ 1000000000000000 := by
  obtain ⟨a1, len1, cap1, rfl⟩ := okWide_slice Try.underlying22 hok
  obtain ⟨fuel, hf⟩ := h1
  rcases Go.Deep.open_slice Try.underlying22 hf with ⟨hcs, _⟩ | ⟨a, len, cap, m, n, D, Pl, hcs, _, hl, hm, hmm, hx, hel⟩
  · simp [Value.cells] at hcs
    obtain ⟨rfl, rfl, rfl⟩ := hcs
    exact ⟨[], ⟨none, 0, rfl, Nat.le_refl _, by unfold maxLen; omega, by simp, by simp⟩, Nat.zero_le _⟩
  · simp [Value.cells] at hcs
    obtain ⟨rfl, rfl, rfl⟩ := hcs
    have hlen : len1 ≤ 1000000000000000 := by
      simp only [Prod.mk.injEq] at hx
      have h0 := List.all_eq_true.1 hsz _ (DataW.weights_mem_each hts hds _ (by
        rw [hx.1]
        simp only [DataW.weights]
        rw [Try.underlying22]
        exact List.mem_cons_self))
      simp only [List.length_map, List.length_range, bytesAsk, decide_eq_true_eq] at h0
      unfold reachBytes at h0
      omega
    simp only [if_true] at hmm
    subst hmm
    have each : ∀ i, i < len1 → ∃ s : AskV, (i64ok s.kind ∧ i64ok s.of_ ∧ i64ok s.key) ∧ W.cell? (a.add (i * 3)) = some (.int .i64 s.kind) ∧ W.cell? (a.add (i * 3 + 1)) = some (.int .i64 s.of_) ∧ W.cell? (a.add (i * 3 + 2)) = some (.int .i64 s.key) := by
      intro i hi
      obtain ⟨cs', h1, h2⟩ := hel i (by omega)
      rw [cellsAsk] at h1
      obtain ⟨_, hlen, hcell⟩ := World.cells?_some h1
      obtain ⟨xs, k, hk, hxy, _, hxl, hfd⟩ := DataW.trod_struct Try.underlying37 h2
      match xs, hxl, cs', hlen with
      | [y0, y1, y2], _, [v0, v1, v2], _ =>
        have g0 := hfd 0 _ rfl
        have g1 := hfd 1 _ rfl
        have g2 := hfd 2 _ rfl
        simp [cellsInt] at g0 g1 g2
        have e0 := hcell 0 (by omega)
        have e1 := hcell 1 (by omega)
        have e2 := hcell 2 (by omega)
        rw [Go.Deep.add_add] at e0 e1 e2
        obtain ⟨z0, hz0, _, wf0⟩ := DataW.trod_int Try.underlying3 g0
        obtain ⟨z1, hz1, _, wf1⟩ := DataW.trod_int Try.underlying3 g1
        obtain ⟨z2, hz2, _, wf2⟩ := DataW.trod_int Try.underlying3 g2
        simp at hz0 hz1 hz2
        subst hz0 hz1 hz2
        have b0 : i64ok z0 := by have := bounds_i64 wf0; unfold i64ok; omega
        have b1 : i64ok z1 := by have := bounds_i64 wf1; unfold i64ok; omega
        have b2 : i64ok z2 := by have := bounds_i64 wf2; unfold i64ok; omega
        exact ⟨⟨z0, z1, z2⟩, ⟨b0, b1, b2⟩, by simpa using e0, by simpa using e1, by simpa using e2⟩
    haveI : Inhabited AskV := ⟨⟨0, 0, 0⟩⟩
    obtain ⟨f, hfa⟩ := Go.Deep.choose_lt each
    refine ⟨(List.range len1).map f, ⟨some a, m, by simp, by simpa using hl, hm, ?_, ?_⟩, by simpa using hlen⟩
    · intro s hs
      obtain ⟨i, hi, rfl⟩ := List.mem_map.1 hs
      exact (hfa i (List.mem_range.1 hi)).1
    · intro hpos
      simp only [List.length_map, List.length_range] at hpos
      obtain ⟨b, off, spot⟩ := a
      have hspot : spot = none := by simpa [Addr.add] using World.cell?_spot (hfa 0 hpos).2.1
      subst hspot
      refine ⟨b, off, rfl, fun i hi => ?_⟩
      simp only [List.length_map, List.length_range] at hi
      have h := hfa i hi
      simp only [List.getElem_map, List.getElem_range]
      refine ⟨?_, ?_, ?_⟩
      · rw [← Addr.add_lit]; exact h.2.1
      · rw [Nat.add_assoc, ← Addr.add_lit]; exact h.2.2.1
      · rw [Nat.add_assoc, ← Addr.add_lit]; exact h.2.2.2
theorem again_asks {H : Type} {enc : TypeId × Value → H} {W W' : World} {v : Value} {d : DataW H} {p : List MemPlace} (h1 : DataW.Trod enc Try.prog W 0 (fun _ => true) true 22 v d p) (bel : Below W.heap.size W W') :
    DataW.Trod enc Try.prog W' 0 (fun b => decide (b < W.heap.size)) true 22 v d p := Below.trod laidOut (by kernel_rfl) (of_decide_eq_true (by kernel_rfl)) h1 bel (trod_place_lt h1)
end Go.Proofs.Ythkkinmegileaaa.St
