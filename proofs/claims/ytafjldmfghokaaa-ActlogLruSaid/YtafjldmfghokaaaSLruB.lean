import Derived.Test.YtafjldmfghokaaaSLruA
import Derived.Test.YtafjldmfghokaaaARef7
namespace Go.Proofs.Ytafjldmfghokaaa.St
open Go.RowKit Go.Sort
set_option linter.unusedVariables false
set_option linter.unusedSimpArgs false
set_option maxRecDepth 20000

set_option maxHeartbeats 1000000 in
theorem Slot_any {w : World} {p bm : Nat} {kv rv iv : Value} {S : LS} {M : Nat} {key : Int} (h : LRep w p bm kv rv iv S) (hS : S.Ok M) (hk : i64ok key) :
    Calls Try.prog 51 #[.pointer (some ⟨p, 0, none⟩), .string (nm key)] w fun e w' => ∃ r, e = .returned (.int .i64 r) ∧ w' = w ∧ SRes S key r := by
  have hkey := keyS hk
  obtain ⟨D, hown, hD1, hD2⟩ := h.look hS key
  have c1 : w.cell? ⟨p, 1, none⟩ = some (.map (some bm)) := h.c 1
  by_cases hin : key ∈ S.ks
  · obtain ⟨s, hs⟩ := List.getElem?_of_mem hin
    obtain ⟨hh, hc⟩ := hD1 s hs
    have HF : Hid (SRes S key (s : Int)) := hide (.inl ⟨s, hs, rfl⟩)
    clear h hS hs hD1 hD2 hin
    go_enter Try.func51, Try.ntmps51
    go_wp2_with (at_lookup; refine wpList_lookup_own_ok_int _ rfl _ _ 90 rfl 9 3 .i64 kStr Try.underlying90 Try.underlying3 (zeroI _) bm 16 D rfl hown _ (kL key) rfl hkey ?_)
    intro c hat hwc
    obtain rfl := hc c hat
    clear hat hwc hc
    go_wp2_with fail
    go_ret
    exact ⟨_, rfl, rfl, HF.out⟩
  · obtain ⟨hh, hc⟩ := hD2 hin
    have HF : Hid (SRes S key (-1)) := hide (.inr ⟨hin, rfl⟩)
    clear h hS hD1 hD2 hin
    go_enter Try.func51, Try.ntmps51
    go_wp2_with (at_lookup; refine wpList_lookup_own_ok_int _ rfl _ _ 90 rfl 9 3 .i64 kStr Try.underlying90 Try.underlying3 (zeroI _) bm 16 D rfl hown _ (kL key) rfl hkey ?_)
    intro c hat hwc
    obtain rfl := hc c hat
    clear hat hwc hc
    go_wp2_with fail
    go_ret
    exact ⟨_, rfl, rfl, HF.out⟩
set_option maxHeartbeats 1000000 in
theorem Refs_any {w : World} {p bm : Nat} {kv rv iv : Value} {S : LS} {M : Nat} {key : Int} (h : LRep w p bm kv rv iv S) (hS : S.Ok M) (hk : i64ok key) :
    Calls Try.prog 49 #[.pointer (some ⟨p, 0, none⟩), .string (nm key)] w fun e w' => ∃ r : Nat, e = .returned (.int .i64 (r : Int)) ∧ w' = w ∧ RefRes S key r := by
  have hkey := keyS hk
  obtain ⟨D, hown, hD1, hD2⟩ := h.look hS key
  have c1 : w.cell? ⟨p, 1, none⟩ = some (.map (some bm)) := h.c 1
  have h16 := hS.s2
  have hkl := hS.kl
  by_cases hin : key ∈ S.ks
  · obtain ⟨s, hs⟩ := List.getElem?_of_mem hin
    obtain ⟨hh, hc⟩ := hD1 s hs
    have hsr : s < S.rs.length := by rw [hS.rl]; exact (List.getElem?_eq_some_iff.1 hs).1
    have hrs : S.rs[s]? = some S.rs[s] := List.getElem?_eq_getElem hsr
    obtain ⟨g, cap, cs, erv, hcg, hcs⟩ := row_at h.ro hrs
    have hcap : S.rs.length ≤ cap ∧ cap ≤ 9223372036854775807 := by
      obtain ⟨a', c', e', q1, q2⟩ := rowForm (erv ▸ h.ro)
      simp only [Value.slice.injEq] at e'
      unfold maxLen at q2
      omega
    obtain ⟨hcap1, hcap2⟩ := hcap
    subst erv
    have hrl : S.rs.length ≤ 16 := by rw [hS.rl]; omega
    have c3 : w.cell? ⟨p, 3, none⟩ = some (.slice (some ⟨g, 0, none⟩) S.rs.length cap) := h.c 3
    have HF : Hid (RefRes S key S.rs[s]) := hide (.inl ⟨s, hs, hrs⟩)
    generalize S.rs[s] = r at *
    clear h hS hs hrs hD1 hD2 hin hcs
    generalize S.rs.length = nr at *
    go_enter Try.func49, Try.ntmps49
    go_wp2_with (at_lookup; refine wpList_lookup_own_ok_int _ rfl _ _ 90 rfl 9 3 .i64 kStr Try.underlying90 Try.underlying3 (zeroI _) bm 16 D rfl hown _ (kL key) rfl hkey ?_)
    intro c hat hwc
    obtain rfl := hc c hat
    clear hat hwc hc
    go_wp2_with fail
    go_ret
    exact ⟨_, rfl, rfl, HF.out⟩
  · obtain ⟨hh, hc⟩ := hD2 hin
    have HF : Hid (RefRes S key 0) := hide (.inr ⟨hin, rfl⟩)
    clear h hS hD1 hD2 hin
    go_enter Try.func49, Try.ntmps49
    go_wp2_with (at_lookup; refine wpList_lookup_own_ok_int _ rfl _ _ 90 rfl 9 3 .i64 kStr Try.underlying90 Try.underlying3 (zeroI _) bm 16 D rfl hown _ (kL key) rfl hkey ?_)
    intro c hat hwc
    obtain rfl := hc c hat
    clear hat hwc hc
    go_wp2_with fail
    go_ret
    exact ⟨0, rfl, rfl, HF.out⟩
theorem new_no (w : World) (n : Int) (h : ¬ (1 ≤ n ∧ n ≤ 16)) : Calls Try.prog 19 #[.int .i64 n] w fun e w' => e = .returned (.tuple #[.pointer none, .int .i64 1]) ∧ w' = w := by
  have HV := hide (validSlots_any w n)
  rw [decide_eq_false h] at HV
  go_enter Try.func19, Try.ntmps19
  go_wp2_with (first
    | (go_at_call 40; refine HV.out.mono ?_; rintro e w2 ⟨rfl, rfl⟩))
  go_ret2
  exact ⟨rfl, rfl⟩
theorem new_any (w : World) (n : Nat) (h1 : 1 ≤ n) (h2 : n ≤ 16) : Calls Try.prog 19 #[.int .i64 (n : Int)] w fun e w' => e = .returned (.tuple #[.pointer (some ⟨w.heap.size + 1, 0, none⟩), .int .i64 0]) ∧ LRep w' (w.heap.size + 1) w.heap.size (.slice none 0 0) (.slice none 0 0) (.slice none 0 0) ⟨n, [], [], [], []⟩ ∧ Below w.heap.size w w' := by
  have HV := hide (validSlots_any w (n : Int))
  rw [decide_eq_true (by omega)] at HV
  have hmm := fun W : World => run_makeMap (P := Try.prog) 90 W
  have HF : Hid (LRep ((w.alloc (.map #[] 0)).alloc (.cells #[.int .i64 (n : Int), .map (some w.heap.size), .slice none 0 0, .slice none 0 0, .slice none 0 0] 93)) (w.heap.size + 1) w.heap.size (.slice none 0 0) (.slice none 0 0) (.slice none 0 0) ⟨n, [], [], [], []⟩ ∧ Below w.heap.size w ((w.alloc (.map #[] 0)).alloc (.cells #[.int .i64 (n : Int), .map (some w.heap.size), .slice none 0 0, .slice none 0 0, .slice none 0 0] 93))) := hide (by
    have hb := ((Below.refl w.heap.size w).alloc (Nat.le_refl _) (.map #[] 0)).alloc (by simp) (.cells #[.int .i64 (n : Int), .map (some w.heap.size), .slice none 0 0, .slice none 0 0, .slice none 0 0] 93)
    refine ⟨⟨?_, (MP.new w).kept (Below.heap_alloc _ _ _ (by simp)), ⟨rfl, .inl ⟨rfl, rfl⟩⟩, ⟨rfl, .inl ⟨rfl, rfl⟩⟩, ⟨rfl, .inl ⟨rfl, rfl⟩⟩, fun b e => by simp [Value.ownBlock] at e, fun b e => by simp [Value.ownBlock] at e⟩, hb⟩
    have := Go.heap_alloc_new (w.alloc (.map #[] 0)) (.cells #[.int .i64 (n : Int), .map (some w.heap.size), .slice none 0 0, .slice none 0 0, .slice none 0 0] 93)
    rw [World.size_alloc] at this
    exact this)
  go_enter Try.func19, Try.ntmps19
  go_wp2_with (first
    | (go_at_call 40; refine HV.out.mono ?_; rintro e w2 ⟨rfl, rfl⟩))
  go_ret2
  exact ⟨rfl, HF.out.1, HF.out.2⟩
end Go.Proofs.Ytafjldmfghokaaa.St
