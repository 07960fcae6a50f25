import Derived.Test.YtafjldmfghokaabAGf
import Derived.Test.YtafjldmfghokaabAHot
namespace Go.Proofs.Ytafjldmfghokaab
open Go.RowKit Go.Sort
open Num
set_option linter.unusedVariables false
set_option linter.unusedSimpArgs false
set_option maxRecDepth 20000

theorem getDet {S S1 S2 : LS} {M : Nat} {key o1 o2 r1 r2 : Int} {s1 s2 : Nat} {f1 f2 g1 g2 : Bool} (hS : S.Ok M) (h1 : GetRes S key S1 s1 f1 o1 g1 r1) (h2 : GetRes S key S2 s2 f2 o2 g2 r2) : S1 = S2 ∧ s1 = s2 ∧ f1 = f2 ∧ o1 = o2 ∧ g1 = g2 ∧ r1 = r2 := by
  rcases h1 with ⟨s, hs, rfl, rfl, rfl, rfl, rfl, rfl⟩ | ⟨hn, hl, rfl, rfl, rfl, rfl, rfl, rfl⟩ | ⟨hn, hl, s, r, o, hi, ho, rfl, rfl, rfl, rfl, rfl, rfl⟩ | ⟨hn, hl, hi, rfl, rfl, rfl, rfl, rfl, rfl⟩ <;>
  rcases h2 with ⟨t, ht, rfl, rfl, rfl, rfl, rfl, rfl⟩ | ⟨hn', hl', rfl, rfl, rfl, rfl, rfl, rfl⟩ | ⟨hn', hl', t, r', o', hi', ho', rfl, rfl, rfl, rfl, rfl, rfl⟩ | ⟨hn', hl', hi', rfl, rfl, rfl, rfl, rfl, rfl⟩
  · have := nodup_inj hS.kd hs ht
    subst this
    exact ⟨rfl, rfl, rfl, rfl, rfl, rfl⟩
  · exact absurd (List.mem_of_getElem? hs) hn'
  · exact absurd (List.mem_of_getElem? hs) hn'
  · exact absurd (List.mem_of_getElem? hs) hn'
  · exact absurd (List.mem_of_getElem? ht) hn
  · exact ⟨rfl, rfl, rfl, rfl, rfl, rfl⟩
  · omega
  · omega
  · exact absurd (List.mem_of_getElem? ht) hn
  · omega
  · rw [hi] at hi'
    simp only [List.cons.injEq] at hi'
    obtain ⟨rfl, rfl⟩ := hi'
    rw [ho] at ho'
    obtain rfl := Option.some.inj ho'
    exact ⟨rfl, rfl, rfl, rfl, rfl, rfl⟩
  · rw [hi] at hi'; cases hi'
  · exact absurd (List.mem_of_getElem? ht) hn
  · omega
  · rw [hi] at hi'; cases hi'
  · exact ⟨rfl, rfl, rfl, rfl, rfl, rfl⟩
theorem putDet {S S1 S2 : LS} {M : Nat} {key r1 r2 : Int} (hS : S.Ok M) (h1 : PutRes S key S1 r1) (h2 : PutRes S key S2 r2) : S1 = S2 ∧ r1 = r2 := by
  rcases h1 with ⟨h, rfl, rfl⟩ | ⟨s, r, hs, hr, rfl, rfl⟩ <;> rcases h2 with ⟨h', rfl, rfl⟩ | ⟨t, r', ht, hr', rfl, rfl⟩
  · exact ⟨rfl, rfl⟩
  · have := h t ht; rw [this] at hr'; simp at hr'
  · have := h' s hs; rw [this] at hr; simp at hr
  · have := nodup_inj hS.kd hs ht
    subst this
    exact ⟨rfl, rfl⟩
theorem refDet {S : LS} {M : Nat} {key : Int} {r1 r2 : Nat} (hS : S.Ok M) (h1 : RefRes S key r1) (h2 : RefRes S key r2) : r1 = r2 := by
  rcases h1 with ⟨s, hs, hr⟩ | ⟨hn, rfl⟩ <;> rcases h2 with ⟨t, ht, hr'⟩ | ⟨hn', rfl⟩
  · have := nodup_inj hS.kd hs ht
    subst this
    rw [hr] at hr'
    exact Option.some.inj hr'
  · exact absurd (List.mem_of_getElem? hs) hn'
  · exact absurd (List.mem_of_getElem? ht) hn
  · rfl
theorem GetRes.ok {S S' : LS} {M : Nat} {x : Int} {slot : Nat} {fresh : Bool} {old : Int} {gone : Bool} {er : Int} (h : GetRes S x S' slot fresh old gone er) (hS : S.Ok M) (hx : i64ok x) : S'.Ok (M + 1) := by
  rcases h with ⟨s, g1, rfl, -⟩ | ⟨g1, g2, rfl, -⟩ | ⟨g1, g2, s, r, o, g3, g4, rfl, -⟩ | ⟨g1, g2, g3, rfl, -⟩
  · have hsr : s < S.rs.length := by rw [hS.rl]; exact (List.getElem?_eq_some_iff.1 g1).1
    exact hS.take (List.getElem?_eq_getElem hsr)
  · exact hS.add hx g1 g2
  · exact (hS.setk hx g1).take (r := 0) ((hS.im s).1 (by rw [g3]; simp))
  · exact hS.more (Nat.le_succ _)
theorem GetRes.ks {S S' : LS} {x : Int} {slot : Nat} {fresh : Bool} {old : Int} {gone : Bool} {er : Int} (h : GetRes S x S' slot fresh old gone er) : (∀ k ∈ S'.ks, k ∈ S.ks ∨ k = x) ∧ (gone = true → old ∈ S.ks) := by
  rcases h with ⟨s, g1, rfl, rfl, rfl, rfl, rfl, rfl⟩ | ⟨g1, g2, rfl, rfl, rfl, rfl, rfl, rfl⟩ | ⟨g1, g2, s, r, o, g3, g4, rfl, rfl, rfl, rfl, rfl, rfl⟩ | ⟨g1, g2, g3, rfl, rfl, rfl, rfl, rfl, rfl⟩
  · exact ⟨fun k hk => .inl hk, fun e => by cases e⟩
  · exact ⟨fun k hk => by
      rcases List.mem_append.1 hk with e | e
      · exact .inl e
      · exact .inr (by simpa using e), fun e => by cases e⟩
  · exact ⟨fun k hk => by
      rcases List.mem_or_eq_of_mem_set hk with e | e
      · exact .inl e
      · exact .inr e, fun _ => List.mem_of_getElem? g4⟩
  · exact ⟨fun k hk => .inl hk, fun e => by cases e⟩
theorem GetRes.slot_lt {S S' : LS} {M : Nat} {x : Int} {slot : Nat} {fresh : Bool} {old : Int} {gone : Bool} {er : Int} (h : GetRes S x S' slot fresh old gone er) (hS : S.Ok M) : slot < 17 := by
  have h1 := hS.kl
  have h2 := hS.s2
  rcases h with ⟨s, g1, rfl, rfl, rfl, rfl, rfl, rfl⟩ | ⟨g1, g2, rfl, rfl, rfl, rfl, rfl, rfl⟩ | ⟨g1, g2, s, r, o, g3, g4, rfl, rfl, rfl, rfl, rfl, rfl⟩ | ⟨g1, g2, g3, rfl, rfl, rfl, rfl, rfl, rfl⟩
  · have := (List.getElem?_eq_some_iff.1 g1).1; omega
  · omega
  · have := (List.getElem?_eq_some_iff.1 g4).1; omega
  · omega
theorem PutRes.ks {S S' : LS} {x : Int} {er : Int} (h : PutRes S x S' er) : S'.ks = S.ks ∧ S'.slots = S.slots := by
  rcases h with ⟨g1, rfl, -⟩ | ⟨s, r, g1, g2, rfl, -⟩ <;> exact ⟨rfl, rfl⟩
/-- rising lists of the same members -/
theorem asc_eq : ∀ {l m : List Int}, l.Pairwise (· < ·) → m.Pairwise (· < ·) → (∀ x, x ∈ l ↔ x ∈ m) → l = m
  | [], [], _, _, _ => rfl
  | [], b :: m, _, _, h => by have := (h b).2 (by simp); simp at this
  | a :: l, [], _, _, h => by have := (h a).1 (by simp); simp at this
  | a :: l, b :: m, hl, hm, h => by
    rw [List.pairwise_cons] at hl hm
    have hab : a = b := by
      rcases List.mem_cons.1 ((h a).1 (by simp)) with e | e
      · exact e
      · rcases List.mem_cons.1 ((h b).2 (by simp)) with e2 | e2
        · exact e2.symm
        · have := hm.1 a e; have := hl.1 b e2; omega
    subst hab
    rw [asc_eq hl.2 hm.2 fun x => ?_]
    constructor
    · intro hx
      rcases List.mem_cons.1 ((h x).1 (by simp [hx])) with e | e
      · subst e; have := hl.1 x hx; omega
      · exact e
    · intro hx
      rcases List.mem_cons.1 ((h x).2 (by simp [hx])) with e | e
      · subst e; have := hm.1 x hx; omega
      · exact e
theorem keys_nodup {S : LS} {M : Nat} (hS : S.Ok M) : S.keys.Nodup := by
  have e : S.keys = (S.idle ++ (List.range S.ks.length).filter (fun s => decide (0 < S.rs.getD s 0))).map (fun s => S.ks.getD s 0) := by
    rw [LS.keys, List.map_append]
  rw [e]
  have hlt : ∀ s ∈ S.idle ++ (List.range S.ks.length).filter (fun s => decide (0 < S.rs.getD s 0)), s < S.ks.length := fun s hs => by
    rcases List.mem_append.1 hs with h | h
    · exact hS.idle_lt h
    · simpa using (List.mem_filter.1 h).1
  have hnd : (S.idle ++ (List.range S.ks.length).filter (fun s => decide (0 < S.rs.getD s 0))).Nodup := by
    rw [List.nodup_append]
    refine ⟨hS.id, (List.Pairwise.filter _ List.nodup_range), fun a ha b hb e => ?_⟩
    subst e
    have h1 := (hS.im a).1 ha
    have h2 := (List.mem_filter.1 hb).2
    simp [List.getD, h1] at h2
  unfold List.Nodup at hnd ⊢
  rw [List.pairwise_map]
  refine hnd.imp_of_mem fun {a b} ha hb hab he => hab ?_
  have q1 : S.ks[a]? = some (S.ks.getD a 0) := by simp [List.getD, hlt a ha]
  have q2 : S.ks[b]? = some (S.ks.getD b 0) := by simp [List.getD, hlt b hb]
  rw [← he] at q2
  exact nodup_inj hS.kd q1 q2
theorem mem_keys {S : LS} {M : Nat} (hS : S.Ok M) {k : Int} : k ∈ S.keys ↔ k ∈ S.ks := by
  refine ⟨fun h => ?_, keys_mem hS⟩
  have key : ∀ s, s < S.ks.length → S.ks.getD s 0 ∈ S.ks := fun s hs => by simp [List.getD, hs]
  rw [LS.keys, List.mem_append, List.mem_map, List.mem_map] at h
  rcases h with ⟨s, hs, rfl⟩ | ⟨s, hs, rfl⟩
  · exact key s (hS.idle_lt hs)
  · exact key s (by simpa using (List.mem_filter.1 hs).1)
/-- the document's hot extents below i -/
def hotN (S : LS) (i : Nat) : List Int := ((List.range i).filter (fun x : Nat => decide ((x : Int) ∈ S.ks))).map (fun x : Nat => (x : Int))
theorem hotN_yes {S : LS} {i : Nat} (h : (i : Int) ∈ S.ks) : hotN S (i + 1) = hotN S i ++ [(i : Int)] := by
  unfold hotN
  rw [List.range_succ, List.filter_append, List.map_append]
  simp [h]
theorem hotN_no {S : LS} {i : Nat} (h : (i : Int) ∉ S.ks) : hotN S (i + 1) = hotN S i := by
  unfold hotN
  rw [List.range_succ, List.filter_append, List.map_append]
  simp [h]
theorem hotN_len (S : LS) (i : Nat) : (hotN S i).length ≤ i := by
  unfold hotN
  rw [List.length_map]
  exact Nat.le_trans (List.length_filter_le _ _) (by simp)
theorem hot_eq {S : LS} {M ext : Nat} (hS : S.Ok M) (hx : ∀ k ∈ S.ks, 0 ≤ k ∧ k < (ext : Int)) : hotN S ext = hotL S := by
  apply asc_eq
  · unfold hotN
    rw [List.pairwise_map]
    refine (List.pairwise_lt_range.filter _).imp fun {a b} h => by omega
  · unfold hotL
    have hs := List.pairwise_mergeSort (le := fun x y : Int => decide (x ≤ y)) (fun a b c h1 h2 => by simp at *; omega) (fun a b => by simp; omega) S.keys
    have hn : (S.keys.mergeSort fun x y => decide (x ≤ y)).Nodup := (List.mergeSort_perm S.keys _).nodup_iff.2 (keys_nodup hS)
    unfold List.Nodup at hn
    refine (hs.and hn).imp fun {a b} h => ?_
    have h1 := h.1
    have h2 := h.2
    simp at h1
    omega
  · intro x
    unfold hotN hotL
    rw [List.mem_mergeSort, mem_keys hS, List.mem_map]
    constructor
    · rintro ⟨n, hn, rfl⟩
      simpa using (List.mem_filter.1 hn).2
    · intro h
      obtain ⟨q1, q2⟩ := hx x h
      refine ⟨x.toNat, List.mem_filter.2 ⟨List.mem_range.2 (by omega), ?_⟩, by omega⟩
      rw [Int.toNat_of_nonneg q1]
      simpa using h
set_option maxHeartbeats 2000000 in
theorem gHot_any {w : World} {rp q M : Nat} {cv : Value} {C : List RC} {P ext size next age start : Nat} {S : LS} (h : RGR w rp q cv C P ext size next age start) (hR : Rel S C P) (hS : S.Ok M) (hx4 : ext ≤ 1024) (hx : ∀ k ∈ S.ks, 0 ≤ k ∧ k < (ext : Int)) :
    Calls Try.prog 110 #[.pointer (some ⟨rp, 0, none⟩)] w fun e w' => ∃ v, e = .returned v ∧ GIn w w' v (hotL S) := by
  obtain ⟨i0, hi, hz0, hz1, hz2⟩ := info_parts info_int
  have HFIN := hide (hot_eq hS hx)
  have HAT : Hid (∀ x, Below w.heap.size w x → x.cell? ⟨rp, 0, none⟩ = some (.pointer (some ⟨q, 0, none⟩)) ∧ x.cell? ⟨rp, 1, none⟩ = some (.int .i64 (ext : Int))) := hide fun x hx => ⟨(h.below hx).c 0, (h.below hx).c 1⟩
  have HIN : Hid (∀ x (k : Int) (s : Nat), Below w.heap.size w x → S.ks[s]? = some k → _) := hide fun x (k : Int) (s : Nat) (hb : Below w.heap.size w x) (hs : S.ks[s]? = some k) => rSlot_in (h.below hb).l hR hS hs
  have HOUT : Hid (∀ x (k : Int), Below w.heap.size w x → k ∉ S.ks → _) := hide fun x (k : Int) (hb : Below w.heap.size w x) (hs : k ∉ S.ks) => rSlot_out (h.below hb).l hR hS hs
  have HT0 : Hid (GIn w w (.slice none 0 0) (hotN S 0)) := hide (GIn.start w)
  clear h hR hS hx
  go_enter Try.func110, Try.ntmps110
  go_wp2_with fail
  go_loopw [3, 4] (fun lv x wr => ∃ i : Nat, i ≤ ext ∧ x = .int .i64 (i : Int) ∧ GIn w wr lv (hotN S i)) (fun _ x _ => ext - (intOf x).toNat)
  case atStart => exact ⟨0, Nat.zero_le _, rfl, HT0.out⟩
  case round =>
    clear HT0
    obtain ⟨i, hin, rfl, hro⟩ := hrel
    have HO := hide hro
    obtain ⟨c0, c1⟩ := HAT.out wr hro.be
    obtain ⟨al, cl, rfl, hl1, hl2⟩ := hro.form
    unfold maxLen at hl2
    have hln := hotN_len S i
    have HB := hide hro.be
    clear hro HAT
    by_cases hlt : i < ext
    · clear HFIN
      by_cases hk : (i : Int) ∈ S.ks
      · obtain ⟨s, hs⟩ := List.getElem?_of_mem hk
        have HSL := hide (HIN.out wr _ s HB.out hs)
        have HSS := hide (hotN_yes hk)
        have o4 := HO.out.ow
        have HMORE : Hid (∀ v' w4, w4.ownsRow 0 3 1 v' ((hotN S i).length + 1) ((hotN S i).map iV ++ [.int .i64 (i : Int)]) → Upon (wr.alloc (.cells #[.int .i64 (i : Int)] 3)) w4 (.slice al (hotN S i).length cl) v' → GIn w w4 v' (hotN S (i + 1))) := hide fun v' w4 y1 y2 => by
          rw [HSS.out]; exact HO.out.more y1 y2
        have o3 := o4.alloc (.cells #[.int .i64 (i : Int)] 3)
        clear HO HSS o4 HIN HOUT hk hs HB
        generalize (hotN S i).map iV = xs at *
        generalize (hotN S i).length = ll at *
        go_wp2_with (first
          | (go_at_call 126; refine HSL.out.mono ?_; rintro e w1 ⟨rfl, rfl⟩; clear HSL)
          | (at_builtin; refine wpList_append1 _ rfl (.tmp 20) (.tmp 22) 46 rfl 3 i0 (.int .i64 0) 8 Try.underlying46 hi hz0 hz1 hz2 rfl _ _ _ rfl o3 ⟨_, 0, none⟩ 1 (.int .i64 (i : Int)) rfl (cell_one_new _ _ _) rfl (by unfold maxLen; omega) (by omega) ?_))
        intro v' w4 q1 q2
        have HN := hide (HMORE.out v' w4 q1 (by unfold Upon; rw [World.size_alloc]; exact q2))
        obtain ⟨a', c', rfl, -, -⟩ := rowForm q1
        clear q1 q2 HMORE o3 c0 c1
        go_wp2_with fail
        go_roundw
        case rel => exact ⟨i + 1, by omega, by go_num, HN.out⟩
        case measure => simp [intOf]; omega
      · have HSL := hide (HOUT.out wr _ HB.out hk)
        have HSS := hide (hotN_no hk)
        clear HIN HOUT hk HB
        generalize (hotN S i).length = ll at *
        go_wp2_with (first
          | (go_at_call 126; refine HSL.out.mono ?_; rintro e w1 ⟨rfl, rfl⟩; clear HSL))
        go_roundw
        case rel => exact ⟨i + 1, by omega, by go_num, by rw [HSS.out]; exact HO.out⟩
        case measure => simp [intOf]; omega
    · have ei : i = ext := by omega
      have HO2 : Hid (GIn w wr (.slice al (hotN S i).length cl) (hotL S)) := hide (by rw [← HFIN.out, ← ei]; exact HO.out)
      have hge : ¬ (i : Int) < (ext : Int) := by omega
      clear HO HIN HOUT HB HFIN hln ei
      generalize (hotN S i).length = ll at *
      go_wp2_with fail
      go_ret
      exact ⟨_, rfl, HO2.out⟩
end Go.Proofs.Ytafjldmfghokaab
