import Derived.Test.YthkkinmegileaaaSLru8
namespace Go.Proofs.Ythkkinmegileaaa.St
open Go.RowKit Go.Sort
set_option linter.unusedVariables false
set_option linter.unusedSimpArgs false
set_option maxRecDepth 20000

set_option maxHeartbeats 2000000 in
theorem Put_any {w : World} {p bm : Nat} {kv rv iv : Value} {S : LS} {M : Nat} {key : Int} (h : LRep w p bm kv rv iv S) (hS : S.Ok M) (hM : M ≤ 4611686018427387904) (hk : i64ok key) :
    Calls Try.prog 22 #[.pointer (some ⟨p, 0, none⟩), .string (nm key)] w fun e w' => ∃ S' er iv', PutRes S key S' er ∧ e = .returned (.int .i64 er) ∧ LRep w' p bm kv rv iv' S' ∧ S'.Ok M ∧ Chg (LU p bm kv rv iv) w w' ∧ LLoc w p bm kv rv iv kv rv iv' := by
  obtain ⟨i0, hi, hz0, hz1, hz2⟩ := info_parts info_int
  have hkey := keyS hk
  obtain ⟨D, hown, hD1, hD2⟩ := h.look hS key
  have c1 : w.cell? ⟨p, 1, none⟩ = some (.map (some bm)) := h.c 1
  have h16 := hS.s2
  by_cases hin : key ∈ S.ks
  · obtain ⟨s, hs⟩ := List.getElem?_of_mem hin
    obtain ⟨hh, hc⟩ := hD1 s hs
    have hsr : s < S.rs.length := by rw [hS.rl]; exact (List.getElem?_eq_some_iff.1 hs).1
    have hrs : S.rs[s]? = some S.rs[s] := List.getElem?_eq_getElem hsr
    obtain ⟨g, cap, cs, erv, hcg, hcs⟩ := row_at h.ro hrs
    have hcap : S.rs.length ≤ cap ∧ cap ≤ 9223372036854775807 := by
      obtain ⟨a', c', e', q1, q2⟩ := rowForm (erv ▸ h.ro)
      simp only [Value.slice.injEq] at e'
      unfold maxLen at q2
      omega
    obtain ⟨hcap1, hcap2⟩ := hcap
    subst erv
    have c3 : w.cell? ⟨p, 3, none⟩ = some (.slice (some ⟨g, 0, none⟩) S.rs.length cap) := h.c 3
    have hrb := hS.rb _ (List.mem_of_getElem? hrs)
    generalize S.rs[s] = r at *
    by_cases hr0 : r = 0
    · subst hr0
      have HG : Hid (PutRes S key S 42) := hide (.inl ⟨fun t ht => by rw [nodup_inj hS.kd ht hs]; exact hrs, rfl, rfl⟩)
      have HS := hide (And.intro h hS)
      clear h hS hs hrs hD1 hD2 hin
      generalize S.rs.length = nr at *
      go_enter Try.func22, Try.ntmps22
      go_wp2_with (at_lookup; refine wpList_lookup_own_ok_int _ rfl _ _ 65 rfl 9 3 .i64 kStr Try.underlying65 Try.underlying3 (zeroI _) bm 16 D rfl hown _ (kL key) rfl hkey ?_)
      intro c hat hwc
      obtain rfl := hc c hat
      clear hat hwc hc hh
      go_wp2_with fail
      go_ret
      exact ⟨_, _, _, HG.out, rfl, HS.out.1, HS.out.2, Chg.refl _ _, LLoc.refl rfl⟩
    · obtain ⟨q, rfl⟩ : ∃ q, r = q + 1 := ⟨r - 1, by omega⟩
      have hg := getD_of hrs
      have HG : Hid (PutRes S key (S.put s) 0) := hide (.inr ⟨s, q, hs, hrs, rfl, rfl⟩)
      have HOK := hide (hS.put hrs)
      have t1 := LRep.setR (r := q) h hsr
      have f1 := frozen_of_row _ _ s _ 3 hcs
      have hval : ((q + 1 : Nat) : Int) - 1 = (q : Int) := by omega
      have hC1 : Chg (LU p bm kv (.slice (some ⟨g, 0, none⟩) S.rs.length cap) iv) w (w.setCell ⟨g, s, none⟩ (.int .i64 (q : Int))) := t1.2.mono fun b _ e => .inr (.inr (.inr (.inl (by rw [e]; rfl))))
      have hcell : (w.setCell ⟨g, s, none⟩ (.int .i64 (q : Int))).cell? ⟨g, s, none⟩ = some (.int .i64 (q : Int)) := by
        have := t1.1.ro
        obtain ⟨g', cap', cs', e', hc', -⟩ := row_at (r := q) (s := s) this (by simp [hsr])
        simp only [Value.slice.injEq, Option.some.injEq, Addr.mk.injEq] at e'
        obtain ⟨⟨rfl, -, -⟩, -, -⟩ := e'
        exact hc'
      have c3' : (w.setCell ⟨g, s, none⟩ (.int .i64 (q : Int))).cell? ⟨p, 3, none⟩ = some (.slice (some ⟨g, 0, none⟩) S.rs.length cap) := by
        have := t1.1.c 3
        simpa using this
      have hcg' : w.cell? ⟨g, s, none⟩ = some (.int .i64 ((q : Int) + 1)) := by rw [hcg]; simp
      have b1 : ((q : Int) + 1 == 0) = false := by simp; omega
      clear hcg hval
      by_cases hq : q = 0
      · subst hq
        obtain ⟨ai, ci, eiv, hi1, hi2⟩ := rowForm h.io
        subst eiv
        unfold maxLen at hi2
        have hil : S.idle.length ≤ 16 := by
          have h1 : S.idle.length ≤ S.rs.length := by
            have hsub : ∀ x ∈ S.idle, x < S.rs.length := fun x hx => (List.getElem?_eq_some_iff.1 ((hS.im x).1 hx)).1
            exact nodup_bound hS.id hsub
          have := hS.rl
          have := hS.kl
          omega
        have c4' : (w.setCell ⟨g, s, none⟩ (.int .i64 ((0 : Nat) : Int))).cell? ⟨p, 4, none⟩ = some (.slice ai S.idle.length ci) := t1.1.c 4
        have HR1 := hide t1.1
        have HC1 := hide hC1
        have HPUT : Hid (S.put s = { S with rs := S.rs.set s 0, idle := S.idle ++ [s] }) := hide (by unfold LS.put; rw [hg]; rfl)
        clear h hS hs hrs hD1 hD2 hin t1 hC1 hg hcs
        generalize hW1 : w.setCell ⟨g, s, none⟩ (.int .i64 ((0 : Nat) : Int)) = w1 at *
        have HW1 : Hid (w.setCell ⟨g, s, none⟩ (.int .i64 0) = w1) := hide hW1
        clear hW1
        have o4 : (w1.alloc (.cells #[.int .i64 (s : Int)] 3)).ownsRow 0 3 1 (.slice ai S.idle.length ci) S.idle.length (S.idle.map nV) := HR1.out.io.alloc _
        have c4b : (w1.alloc (.cells #[.int .i64 (s : Int)] 3)).cell? ⟨p, 4, none⟩ = some (.slice ai S.idle.length ci) := (HR1.out.below ((Below.refl _ _).alloc (Nat.le_refl _) _)).c 4
        go_enter Try.func22, Try.ntmps22
        go_wp2_with (at_lookup; refine wpList_lookup_own_ok_int _ rfl _ _ 65 rfl 9 3 .i64 kStr Try.underlying65 Try.underlying3 (zeroI _) bm 16 D rfl hown _ (kL key) rfl hkey ?_)
        intro c hat hwc
        obtain rfl := hc c hat
        clear hat hwc hc hh
        go_wp2_with (first
          | (at_builtin; refine wpList_append1 _ rfl (.tmp 49) (.tmp 51) 67 rfl 3 i0 (.int .i64 0) 8 Try.underlying67 hi hz0 hz1 hz2 rfl _ _ _ rfl o4 ⟨w1.heap.size, 0, none⟩ 1 (.int .i64 (s : Int)) rfl (cell_one_new _ _ _) rfl (by unfold maxLen; omega) (by omega) ?_)
          | (rw [HW1.out]))
        intro v' w4 ho4 hup4
        obtain ⟨g4, cap4, e4⟩ := slForm ho4
        subst e4
        have hu4 : Upon (w1.alloc (.cells #[.int .i64 (s : Int)] 3)) w4 (.slice ai S.idle.length ci) (.slice (some ⟨g4, 0, none⟩) (S.idle.length + 1) cap4) := by unfold Upon; rw [World.size_alloc]; exact hup4
        obtain ⟨p1, d4, f4, p2, p3⟩ := LRep.pushI (S := { S with rs := S.rs.set s 0 }) (s := s) HR1.out ho4 hu4
        have hs3 := HC1.out.size
        have HFIN : Hid (LRep (w4.setCell ⟨p, 4, none⟩ (.slice (some ⟨g4, 0, none⟩) (S.idle.length + 1) cap4)) p bm kv (.slice (some ⟨g, 0, none⟩) S.rs.length cap) (.slice (some ⟨g4, 0, none⟩) (S.idle.length + 1) cap4) (S.put s) ∧ Chg (LU p bm kv (.slice (some ⟨g, 0, none⟩) S.rs.length cap) (.slice ai S.idle.length ci)) w (w4.setCell ⟨p, 4, none⟩ (.slice (some ⟨g4, 0, none⟩) (S.idle.length + 1) cap4)) ∧ LLoc w p bm kv (.slice (some ⟨g, 0, none⟩) S.rs.length cap) (.slice ai S.idle.length ci) kv (.slice (some ⟨g, 0, none⟩) S.rs.length cap) (.slice (some ⟨g4, 0, none⟩) (S.idle.length + 1) cap4)) := hide ⟨by rw [HPUT.out]; exact p1, HC1.out.trans p2, by
          rintro b (e | e | e | e | e)
          · exact .inl (.inl e)
          · exact .inl (.inr (.inl e))
          · exact .inl (.inr (.inr (.inl e)))
          · exact .inl (.inr (.inr (.inr (.inl e))))
          · exact (p3 b e).imp (fun e => .inr (.inr (.inr (.inr e)))) fun e => by omega⟩
        clear ho4 hup4 hu4 p1 p2 p3 o4 c4b HR1 HC1
        go_wp2_with fail
        go_ret
        exact ⟨_, _, _, HG.out, rfl, HFIN.out.1, HOK.out, HFIN.out.2.1, HFIN.out.2.2⟩
      · have HR : Hid (LRep (w.setCell ⟨g, s, none⟩ (.int .i64 (q : Int))) p bm kv (.slice (some ⟨g, 0, none⟩) S.rs.length cap) iv (S.put s)) := hide (by
          simp only [LS.put, hg]
          rw [if_neg (by omega)]
          exact t1.1)
        have HC := hide hC1
        have b0 : ((q : Int) == 0) = false := by simp; omega
        clear h hS hs hrs hD1 hD2 hin t1 hC1 hg hcs hq
        generalize S.rs.length = nr at *
        go_enter Try.func22, Try.ntmps22
        go_wp2_with (at_lookup; refine wpList_lookup_own_ok_int _ rfl _ _ 65 rfl 9 3 .i64 kStr Try.underlying65 Try.underlying3 (zeroI _) bm 16 D rfl hown _ (kL key) rfl hkey ?_)
        intro c hat hwc
        obtain rfl := hc c hat
        clear hat hwc hc hh
        go_wp2_with fail
        go_ret
        exact ⟨_, _, _, HG.out, rfl, HR.out, HOK.out, HC.out, LLoc.refl rfl⟩
  · obtain ⟨hh, hc⟩ := hD2 hin
    have HG : Hid (PutRes S key S 42) := hide (.inl ⟨fun t ht => absurd (List.mem_of_getElem? ht) hin, rfl, rfl⟩)
    have HS := hide (And.intro h hS)
    clear h hS hD1 hD2 hin
    go_enter Try.func22, Try.ntmps22
    go_wp2_with (at_lookup; refine wpList_lookup_own_ok_int _ rfl _ _ 65 rfl 9 3 .i64 kStr Try.underlying65 Try.underlying3 (zeroI _) bm 16 D rfl hown _ (kL key) rfl hkey ?_)
    intro c hat hwc
    obtain rfl := hc c hat
    clear hat hwc hc hh
    go_wp2_with fail
    go_ret
    exact ⟨_, _, _, HG.out, rfl, HS.out.1, HS.out.2, Chg.refl _ _, LLoc.refl rfl⟩
end Go.Proofs.Ythkkinmegileaaa.St
