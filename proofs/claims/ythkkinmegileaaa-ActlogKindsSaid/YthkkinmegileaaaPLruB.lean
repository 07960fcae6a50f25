import Derived.Test.YthkkinmegileaaaPLruA
namespace Go.Proofs.Ythkkinmegileaaa.Sp
open Go.RowKit Go.Sort
set_option linter.unusedVariables false
set_option linter.unusedSimpArgs false
set_option maxRecDepth 20000

set_option maxHeartbeats 2000000 in
theorem Put_any {w : World} {p bm : Nat} {kv rv iv : Value} {S : LS} {M : Nat} {key : Int} (h0 : LRep w p bm kv rv iv S) (hS : S.Ok M) (hM : M ≤ 4611686018427387904) (hk : i64ok key) :
    Calls Try.prog 32 #[.pointer (some ⟨p, 0, none⟩), .agg #[.int .i64 (pA key), .int .u8 (pB key)]] w fun e w' => ∃ S' er iv', PutRes S key S' er ∧ e = .returned (.int .i64 er) ∧ LRep w' p bm kv rv iv' S' ∧ S'.Ok M ∧ Chg (LU p bm kv rv iv) w w' ∧ LLoc w p bm kv rv iv kv rv iv' := by
  obtain ⟨i0, hi, hz0, hz1, hz2⟩ := info_parts info_int
  have hkey := keyS hk
  obtain ⟨D, hown, hD1, hD2⟩ := h0.look hS key
  have HS0 := hide (h0.boxed key hown _ rfl)
  have hb := ((Below.refl w.heap.size w).alloc (Nat.le_refl _) (.cells #[.int .i64 (pA key), .int .u8 (pB key)] 34)).drew
  obtain ⟨x, hx⟩ : ∃ x, x = (w.alloc (.cells #[.int .i64 (pA key), .int .u8 (pB key)] 34)).drew := ⟨_, rfl⟩
  rw [← hx] at hb
  have HX := hide hx
  have h := h0.below hb
  have HB : Hid (Chg (LU p bm kv rv iv) w x ∧ w.heap.size ≤ x.heap.size) := hide ⟨Chg.ofBelow hb, hb.size⟩
  clear hx hb h0
  have h16 := hS.s2
  by_cases hin : key ∈ S.ks
  · obtain ⟨s, hs⟩ := List.getElem?_of_mem hin
    obtain ⟨hh, hc⟩ := hD1 s hs
    have hsr : s < S.rs.length := by rw [hS.rl]; exact (List.getElem?_eq_some_iff.1 hs).1
    have hrs : S.rs[s]? = some S.rs[s] := List.getElem?_eq_getElem hsr
    obtain ⟨g, cap, cs, erv, hcg, hcs⟩ := row_at h.ro hrs
    have hcap : S.rs.length ≤ cap ∧ cap ≤ 9223372036854775807 := by
      obtain ⟨a', c', e', q1, q2⟩ := rowForm (erv ▸ h.ro)
      simp only [Value.slice.injEq] at e'
      unfold maxLen at q2
      omega
    obtain ⟨hcap1, hcap2⟩ := hcap
    subst erv
    have c3 : x.cell? ⟨p, 3, none⟩ = some (.slice (some ⟨g, 0, none⟩) S.rs.length cap) := h.c 3
    have hrb := hS.rb _ (List.mem_of_getElem? hrs)
    generalize S.rs[s] = r at *
    by_cases hr0 : r = 0
    · subst hr0
      have HG : Hid (PutRes S key S 42) := hide (.inl ⟨fun t ht => by rw [nodup_inj hS.kd ht hs]; exact hrs, rfl, rfl⟩)
      have HS := hide (And.intro h hS)
      clear h hS hs hrs hD1 hD2 hin hown
      generalize S.rs.length = nr at *
      go_enter Try.func32, Try.ntmps32
      go_wp2_with fail
      refine wp_region_held_drew (S := fun z => z.cell? ⟨w.heap.size, 0, none⟩ = some (.int .i64 (pA key)) ∧ z.cell? ⟨w.heap.size, 1, none⟩ = some (.int .u8 (pB key)) ∧ z.cell? ⟨p, 1, none⟩ = some (.map (some bm)) ∧ z.ownsMap Try.prog 34 (plainElem Try.prog 3) bm 16 D) (by kernel_rfl) HS0.out (fun hHeld => ?_)
      refine wpAnyH_take (i := 0) (v := .pointer (some ⟨p, 0, none⟩)) rfl (by kernel_rfl) (by kernel_rfl) (by kernel_rfl) (fun _ _ _ h => h) (Or.inl ⟨by rfl, ?hb0⟩) hHeld ?rb0
      case hb0 => intro w' hSw; obtain ⟨e0, e1, e2, e3⟩ := hSw; go_simp; (try with_reducible rfl)
      (try simp only [Act.put, List.getElem_toArray, List.getElem_cons_succ, List.getElem_cons_zero, List.setIfInBounds_toArray, List.set_cons_zero, List.set_cons_succ])
      refine wpAnyH_take (i := 1) (v := .pointer (some ⟨p, 0, none⟩)) rfl (by kernel_rfl) (by kernel_rfl) (by kernel_rfl) (fun _ _ _ h => h) (Or.inl ⟨by rfl, ?hb1⟩) hHeld ?rb1
      case hb1 => intro w' hSw; obtain ⟨e0, e1, e2, e3⟩ := hSw; go_simp; (try with_reducible rfl)
      (try simp only [Act.put, List.getElem_toArray, List.getElem_cons_succ, List.getElem_cons_zero, List.setIfInBounds_toArray, List.set_cons_zero, List.set_cons_succ])
      refine wpAnyH_take (i := 2) (v := .pointer (some ⟨p, 1, none⟩)) rfl (by kernel_rfl) (by kernel_rfl) (by kernel_rfl) (fun _ _ _ h => h) (Or.inl ⟨by rfl, ?hb2⟩) hHeld ?rb2
      case hb2 => intro w' hSw; obtain ⟨e0, e1, e2, e3⟩ := hSw; go_simp; (try with_reducible rfl)
      (try simp only [Act.put, List.getElem_toArray, List.getElem_cons_succ, List.getElem_cons_zero, List.setIfInBounds_toArray, List.set_cons_zero, List.set_cons_succ])
      refine wpAnyH_take (i := 3) (v := .map (some bm)) rfl (by kernel_rfl) (by kernel_rfl) (by kernel_rfl) (fun _ _ _ h => h) (Or.inl ⟨by rfl, ?hb3⟩) hHeld ?rb3
      case hb3 => intro w' hSw; obtain ⟨e0, e1, e2, e3⟩ := hSw; go_simp; (try with_reducible rfl)
      (try simp only [Act.put, List.getElem_toArray, List.getElem_cons_succ, List.getElem_cons_zero, List.setIfInBounds_toArray, List.set_cons_zero, List.set_cons_succ])
      refine wpAnyH_take (i := 4) (v := .agg #[.int .i64 (pA key), .int .u8 (pB key)]) rfl (by kernel_rfl) (by kernel_rfl) (by kernel_rfl) (fun _ _ _ h => h) (Or.inl ⟨by rfl, ?hb4⟩) hHeld ?rb4
      case hb4 => intro w' hSw; obtain ⟨e0, e1, e2, e3⟩ := hSw; go_simp; (try with_reducible rfl)
      (try simp only [Act.put, List.getElem_toArray, List.getElem_cons_succ, List.getElem_cons_zero, List.setIfInBounds_toArray, List.set_cons_zero, List.set_cons_succ])
      refine wpAnyH_take (i := 5) (v := .tuple #[.int .i64 (s : Int), .bool true]) rfl (by kernel_rfl) (by kernel_rfl) (by kernel_rfl) (fun _ _ _ h => h) ?hb5 hHeld ?rb5
      case hb5 =>
        exact yieldsIf_lookup (by kernel_rfl) (.tmp 11) (.tmp 12) 75 rfl 34 3 kStr Try.underlying75 Try.underlying3 zeroI bm 16 D (by kernel_rfl) (fun z hz => hz.2.2.2) _ (kL key) (by kernel_rfl) hkey _ hc hh
      (try simp only [Act.put, List.getElem_toArray, List.getElem_cons_succ, List.getElem_cons_zero, List.setIfInBounds_toArray, List.set_cons_zero, List.set_cons_succ])
      refine wpAnyH_take (i := 6) (v := .tuple #[.int .i64 (s : Int), .bool true]) rfl (by kernel_rfl) (by kernel_rfl) (by kernel_rfl) (fun _ _ _ h => h) (Or.inl ⟨by rfl, ?hb6⟩) hHeld ?rb6
      case hb6 => intro w' hSw; obtain ⟨e0, e1, e2, e3⟩ := hSw; go_simp; (try with_reducible rfl)
      (try simp only [Act.put, List.getElem_toArray, List.getElem_cons_succ, List.getElem_cons_zero, List.setIfInBounds_toArray, List.set_cons_zero, List.set_cons_succ])
      refine wpAnyH_take (i := 7) (v := .int .i64 (s : Int)) rfl (by kernel_rfl) (by kernel_rfl) (by kernel_rfl) (fun _ _ _ h => h) (Or.inl ⟨by rfl, ?hb7⟩) hHeld ?rb7
      case hb7 => intro w' hSw; obtain ⟨e0, e1, e2, e3⟩ := hSw; go_simp; (try with_reducible rfl)
      (try simp only [Act.put, List.getElem_toArray, List.getElem_cons_succ, List.getElem_cons_zero, List.setIfInBounds_toArray, List.set_cons_zero, List.set_cons_succ])
      refine wpAnyH_take (i := 8) (v := .bool true) rfl (by kernel_rfl) (by kernel_rfl) (by kernel_rfl) (fun _ _ _ h => h) (Or.inl ⟨by rfl, ?hb8⟩) hHeld ?rb8
      case hb8 => intro w' hSw; obtain ⟨e0, e1, e2, e3⟩ := hSw; go_simp; (try with_reducible rfl)
      (try simp only [Act.put, List.getElem_toArray, List.getElem_cons_succ, List.getElem_cons_zero, List.setIfInBounds_toArray, List.set_cons_zero, List.set_cons_succ])
      refine wpAnyH_take (i := 9) (v := .int .i64 (s : Int)) rfl (by kernel_rfl) (by kernel_rfl) (by kernel_rfl) (fun _ _ _ h => h) (Or.inl ⟨by rfl, ?hb9⟩) hHeld ?rb9
      case hb9 => intro w' hSw; obtain ⟨e0, e1, e2, e3⟩ := hSw; go_simp; (try with_reducible rfl)
      (try simp only [Act.put, List.getElem_toArray, List.getElem_cons_succ, List.getElem_cons_zero, List.setIfInBounds_toArray, List.set_cons_zero, List.set_cons_succ])
      refine wpAnyH_take (i := 10) (v := .bool true) rfl (by kernel_rfl) (by kernel_rfl) (by kernel_rfl) (fun _ _ _ h => h) (Or.inl ⟨by rfl, ?hb10⟩) hHeld ?rb10
      case hb10 => intro w' hSw; obtain ⟨e0, e1, e2, e3⟩ := hSw; go_simp; (try with_reducible rfl)
      (try simp only [Act.put, List.getElem_toArray, List.getElem_cons_succ, List.getElem_cons_zero, List.setIfInBounds_toArray, List.set_cons_zero, List.set_cons_succ])
      refine wpAnyH_done ?hrb ?hqb _
      case hrb => kernel_rfl
      case hqb =>
      (try simp only [Act.put, List.getElem_toArray, List.getElem_cons_succ, List.getElem_cons_zero, List.setIfInBounds_toArray, List.set_cons_zero, List.set_cons_succ])
      clear hHeld hc hh HS0
      rw [← HX.out]
      go_wp2_with fail
      go_ret
      exact ⟨_, _, _, HG.out, rfl, HS.out.1, HS.out.2, HB.out.1, LLoc.refl rfl⟩
    · obtain ⟨q, rfl⟩ : ∃ q, r = q + 1 := ⟨r - 1, by omega⟩
      have hg := getD_of hrs
      have HG : Hid (PutRes S key (S.put s) 0) := hide (.inr ⟨s, q, hs, hrs, rfl, rfl⟩)
      have HOK := hide (hS.put hrs)
      have t1 := LRep.setR (r := q) h hsr
      have f1 := frozen_of_row _ _ s _ 3 hcs
      have hval : ((q + 1 : Nat) : Int) - 1 = (q : Int) := by omega
      have hC1 : Chg (LU p bm kv (.slice (some ⟨g, 0, none⟩) S.rs.length cap) iv) x (x.setCell ⟨g, s, none⟩ (.int .i64 (q : Int))) := t1.2.mono fun b _ e => .inr (.inr (.inr (.inl (by rw [e]; rfl))))
      have hcell : (x.setCell ⟨g, s, none⟩ (.int .i64 (q : Int))).cell? ⟨g, s, none⟩ = some (.int .i64 (q : Int)) := by
        have := t1.1.ro
        obtain ⟨g', cap', cs', e', hc', -⟩ := row_at (r := q) (s := s) this (by simp [hsr])
        simp only [Value.slice.injEq, Option.some.injEq, Addr.mk.injEq] at e'
        obtain ⟨⟨rfl, -, -⟩, -, -⟩ := e'
        exact hc'
      have c3' : (x.setCell ⟨g, s, none⟩ (.int .i64 (q : Int))).cell? ⟨p, 3, none⟩ = some (.slice (some ⟨g, 0, none⟩) S.rs.length cap) := by
        have := t1.1.c 3
        simpa using this
      have hcg' : x.cell? ⟨g, s, none⟩ = some (.int .i64 ((q : Int) + 1)) := by rw [hcg]; simp
      have b1 : ((q : Int) + 1 == 0) = false := by simp; omega
      clear hcg hval
      by_cases hq : q = 0
      · subst hq
        obtain ⟨ai, ci, eiv, hi1, hi2⟩ := rowForm h.io
        subst eiv
        unfold maxLen at hi2
        have hil : S.idle.length ≤ 16 := by
          have h1 : S.idle.length ≤ S.rs.length := by
            have hsub : ∀ x ∈ S.idle, x < S.rs.length := fun x hx => (List.getElem?_eq_some_iff.1 ((hS.im x).1 hx)).1
            exact nodup_bound hS.id hsub
          have := hS.rl
          have := hS.kl
          omega
        have c4' : (x.setCell ⟨g, s, none⟩ (.int .i64 ((0 : Nat) : Int))).cell? ⟨p, 4, none⟩ = some (.slice ai S.idle.length ci) := t1.1.c 4
        have HR1 := hide t1.1
        have HC1 := hide hC1
        have HPUT : Hid (S.put s = { S with rs := S.rs.set s 0, idle := S.idle ++ [s] }) := hide (by unfold LS.put; rw [hg]; rfl)
        clear h hS hs hrs hD1 hD2 hin hown t1 hC1 hg hcs
        generalize hW1 : x.setCell ⟨g, s, none⟩ (.int .i64 ((0 : Nat) : Int)) = w1 at *
        have HW1 : Hid (x.setCell ⟨g, s, none⟩ (.int .i64 0) = w1) := hide hW1
        clear hW1
        have o4 : (w1.alloc (.cells #[.int .i64 (s : Int)] 3)).ownsRow 0 3 1 (.slice ai S.idle.length ci) S.idle.length (S.idle.map nV) := HR1.out.io.alloc _
        have c4b : (w1.alloc (.cells #[.int .i64 (s : Int)] 3)).cell? ⟨p, 4, none⟩ = some (.slice ai S.idle.length ci) := (HR1.out.below ((Below.refl _ _).alloc (Nat.le_refl _) _)).c 4
        go_enter Try.func32, Try.ntmps32
        go_wp2_with fail
        refine wp_region_held_drew (S := fun z => z.cell? ⟨w.heap.size, 0, none⟩ = some (.int .i64 (pA key)) ∧ z.cell? ⟨w.heap.size, 1, none⟩ = some (.int .u8 (pB key)) ∧ z.cell? ⟨p, 1, none⟩ = some (.map (some bm)) ∧ z.ownsMap Try.prog 34 (plainElem Try.prog 3) bm 16 D) (by kernel_rfl) HS0.out (fun hHeld => ?_)
        refine wpAnyH_take (i := 0) (v := .pointer (some ⟨p, 0, none⟩)) rfl (by kernel_rfl) (by kernel_rfl) (by kernel_rfl) (fun _ _ _ h => h) (Or.inl ⟨by rfl, ?hc0⟩) hHeld ?rc0
        case hc0 => intro w' hSw; obtain ⟨e0, e1, e2, e3⟩ := hSw; go_simp; (try with_reducible rfl)
        (try simp only [Act.put, List.getElem_toArray, List.getElem_cons_succ, List.getElem_cons_zero, List.setIfInBounds_toArray, List.set_cons_zero, List.set_cons_succ])
        refine wpAnyH_take (i := 1) (v := .pointer (some ⟨p, 0, none⟩)) rfl (by kernel_rfl) (by kernel_rfl) (by kernel_rfl) (fun _ _ _ h => h) (Or.inl ⟨by rfl, ?hc1⟩) hHeld ?rc1
        case hc1 => intro w' hSw; obtain ⟨e0, e1, e2, e3⟩ := hSw; go_simp; (try with_reducible rfl)
        (try simp only [Act.put, List.getElem_toArray, List.getElem_cons_succ, List.getElem_cons_zero, List.setIfInBounds_toArray, List.set_cons_zero, List.set_cons_succ])
        refine wpAnyH_take (i := 2) (v := .pointer (some ⟨p, 1, none⟩)) rfl (by kernel_rfl) (by kernel_rfl) (by kernel_rfl) (fun _ _ _ h => h) (Or.inl ⟨by rfl, ?hc2⟩) hHeld ?rc2
        case hc2 => intro w' hSw; obtain ⟨e0, e1, e2, e3⟩ := hSw; go_simp; (try with_reducible rfl)
        (try simp only [Act.put, List.getElem_toArray, List.getElem_cons_succ, List.getElem_cons_zero, List.setIfInBounds_toArray, List.set_cons_zero, List.set_cons_succ])
        refine wpAnyH_take (i := 3) (v := .map (some bm)) rfl (by kernel_rfl) (by kernel_rfl) (by kernel_rfl) (fun _ _ _ h => h) (Or.inl ⟨by rfl, ?hc3⟩) hHeld ?rc3
        case hc3 => intro w' hSw; obtain ⟨e0, e1, e2, e3⟩ := hSw; go_simp; (try with_reducible rfl)
        (try simp only [Act.put, List.getElem_toArray, List.getElem_cons_succ, List.getElem_cons_zero, List.setIfInBounds_toArray, List.set_cons_zero, List.set_cons_succ])
        refine wpAnyH_take (i := 4) (v := .agg #[.int .i64 (pA key), .int .u8 (pB key)]) rfl (by kernel_rfl) (by kernel_rfl) (by kernel_rfl) (fun _ _ _ h => h) (Or.inl ⟨by rfl, ?hc4⟩) hHeld ?rc4
        case hc4 => intro w' hSw; obtain ⟨e0, e1, e2, e3⟩ := hSw; go_simp; (try with_reducible rfl)
        (try simp only [Act.put, List.getElem_toArray, List.getElem_cons_succ, List.getElem_cons_zero, List.setIfInBounds_toArray, List.set_cons_zero, List.set_cons_succ])
        refine wpAnyH_take (i := 5) (v := .tuple #[.int .i64 (s : Int), .bool true]) rfl (by kernel_rfl) (by kernel_rfl) (by kernel_rfl) (fun _ _ _ h => h) ?hc5 hHeld ?rc5
        case hc5 =>
          exact yieldsIf_lookup (by kernel_rfl) (.tmp 11) (.tmp 12) 75 rfl 34 3 kStr Try.underlying75 Try.underlying3 zeroI bm 16 D (by kernel_rfl) (fun z hz => hz.2.2.2) _ (kL key) (by kernel_rfl) hkey _ hc hh
        (try simp only [Act.put, List.getElem_toArray, List.getElem_cons_succ, List.getElem_cons_zero, List.setIfInBounds_toArray, List.set_cons_zero, List.set_cons_succ])
        refine wpAnyH_take (i := 6) (v := .tuple #[.int .i64 (s : Int), .bool true]) rfl (by kernel_rfl) (by kernel_rfl) (by kernel_rfl) (fun _ _ _ h => h) (Or.inl ⟨by rfl, ?hc6⟩) hHeld ?rc6
        case hc6 => intro w' hSw; obtain ⟨e0, e1, e2, e3⟩ := hSw; go_simp; (try with_reducible rfl)
        (try simp only [Act.put, List.getElem_toArray, List.getElem_cons_succ, List.getElem_cons_zero, List.setIfInBounds_toArray, List.set_cons_zero, List.set_cons_succ])
        refine wpAnyH_take (i := 7) (v := .int .i64 (s : Int)) rfl (by kernel_rfl) (by kernel_rfl) (by kernel_rfl) (fun _ _ _ h => h) (Or.inl ⟨by rfl, ?hc7⟩) hHeld ?rc7
        case hc7 => intro w' hSw; obtain ⟨e0, e1, e2, e3⟩ := hSw; go_simp; (try with_reducible rfl)
        (try simp only [Act.put, List.getElem_toArray, List.getElem_cons_succ, List.getElem_cons_zero, List.setIfInBounds_toArray, List.set_cons_zero, List.set_cons_succ])
        refine wpAnyH_take (i := 8) (v := .bool true) rfl (by kernel_rfl) (by kernel_rfl) (by kernel_rfl) (fun _ _ _ h => h) (Or.inl ⟨by rfl, ?hc8⟩) hHeld ?rc8
        case hc8 => intro w' hSw; obtain ⟨e0, e1, e2, e3⟩ := hSw; go_simp; (try with_reducible rfl)
        (try simp only [Act.put, List.getElem_toArray, List.getElem_cons_succ, List.getElem_cons_zero, List.setIfInBounds_toArray, List.set_cons_zero, List.set_cons_succ])
        refine wpAnyH_take (i := 9) (v := .int .i64 (s : Int)) rfl (by kernel_rfl) (by kernel_rfl) (by kernel_rfl) (fun _ _ _ h => h) (Or.inl ⟨by rfl, ?hc9⟩) hHeld ?rc9
        case hc9 => intro w' hSw; obtain ⟨e0, e1, e2, e3⟩ := hSw; go_simp; (try with_reducible rfl)
        (try simp only [Act.put, List.getElem_toArray, List.getElem_cons_succ, List.getElem_cons_zero, List.setIfInBounds_toArray, List.set_cons_zero, List.set_cons_succ])
        refine wpAnyH_take (i := 10) (v := .bool true) rfl (by kernel_rfl) (by kernel_rfl) (by kernel_rfl) (fun _ _ _ h => h) (Or.inl ⟨by rfl, ?hc10⟩) hHeld ?rc10
        case hc10 => intro w' hSw; obtain ⟨e0, e1, e2, e3⟩ := hSw; go_simp; (try with_reducible rfl)
        (try simp only [Act.put, List.getElem_toArray, List.getElem_cons_succ, List.getElem_cons_zero, List.setIfInBounds_toArray, List.set_cons_zero, List.set_cons_succ])
        refine wpAnyH_done ?hrc ?hqc _
        case hrc => kernel_rfl
        case hqc =>
        (try simp only [Act.put, List.getElem_toArray, List.getElem_cons_succ, List.getElem_cons_zero, List.setIfInBounds_toArray, List.set_cons_zero, List.set_cons_succ])
        clear hHeld hc hh HS0
        rw [← HX.out]
        go_wp2_with (first
          | (at_builtin; refine wpList_append1 _ rfl (.tmp 49) (.tmp 51) 67 rfl 3 i0 (.int .i64 0) 8 Try.underlying67 hi hz0 hz1 hz2 rfl _ _ _ rfl o4 ⟨w1.heap.size, 0, none⟩ 1 (.int .i64 (s : Int)) rfl (cell_one_new _ _ _) rfl (by unfold maxLen; omega) (by omega) ?_)
          | (rw [HW1.out]))
        intro v' w4 ho4 hup4
        obtain ⟨g4, cap4, e4⟩ := slForm ho4
        subst e4
        have hu4 : Upon (w1.alloc (.cells #[.int .i64 (s : Int)] 3)) w4 (.slice ai S.idle.length ci) (.slice (some ⟨g4, 0, none⟩) (S.idle.length + 1) cap4) := by unfold Upon; rw [World.size_alloc]; exact hup4
        obtain ⟨p1, d4, f4, p2, p3⟩ := LRep.pushI (S := { S with rs := S.rs.set s 0 }) (s := s) HR1.out ho4 hu4
        have hs3 := HC1.out.size
        have HFIN : Hid (LRep (w4.setCell ⟨p, 4, none⟩ (.slice (some ⟨g4, 0, none⟩) (S.idle.length + 1) cap4)) p bm kv (.slice (some ⟨g, 0, none⟩) S.rs.length cap) (.slice (some ⟨g4, 0, none⟩) (S.idle.length + 1) cap4) (S.put s) ∧ Chg (LU p bm kv (.slice (some ⟨g, 0, none⟩) S.rs.length cap) (.slice ai S.idle.length ci)) x (w4.setCell ⟨p, 4, none⟩ (.slice (some ⟨g4, 0, none⟩) (S.idle.length + 1) cap4)) ∧ LLoc x p bm kv (.slice (some ⟨g, 0, none⟩) S.rs.length cap) (.slice ai S.idle.length ci) kv (.slice (some ⟨g, 0, none⟩) S.rs.length cap) (.slice (some ⟨g4, 0, none⟩) (S.idle.length + 1) cap4)) := hide ⟨by rw [HPUT.out]; exact p1, HC1.out.trans p2, by
          rintro b (e | e | e | e | e)
          · exact .inl (.inl e)
          · exact .inl (.inr (.inl e))
          · exact .inl (.inr (.inr (.inl e)))
          · exact .inl (.inr (.inr (.inr (.inl e))))
          · exact (p3 b e).imp (fun e => .inr (.inr (.inr (.inr e)))) fun e => by omega⟩
        clear ho4 hup4 hu4 p1 p2 p3 o4 c4b HR1 HC1
        go_wp2_with fail
        go_ret
        exact ⟨_, _, _, HG.out, rfl, HFIN.out.1, HOK.out, HB.out.1.trans HFIN.out.2.1, fun b e => (HFIN.out.2.2 b e).imp id fun e => Nat.le_trans HB.out.2 e⟩
      · have HR : Hid (LRep (x.setCell ⟨g, s, none⟩ (.int .i64 (q : Int))) p bm kv (.slice (some ⟨g, 0, none⟩) S.rs.length cap) iv (S.put s)) := hide (by
          simp only [LS.put, hg]
          rw [if_neg (by omega)]
          exact t1.1)
        have HC := hide hC1
        have b0 : ((q : Int) == 0) = false := by simp; omega
        clear h hS hs hrs hD1 hD2 hin hown t1 hC1 hg hcs hq
        generalize S.rs.length = nr at *
        go_enter Try.func32, Try.ntmps32
        go_wp2_with fail
        refine wp_region_held_drew (S := fun z => z.cell? ⟨w.heap.size, 0, none⟩ = some (.int .i64 (pA key)) ∧ z.cell? ⟨w.heap.size, 1, none⟩ = some (.int .u8 (pB key)) ∧ z.cell? ⟨p, 1, none⟩ = some (.map (some bm)) ∧ z.ownsMap Try.prog 34 (plainElem Try.prog 3) bm 16 D) (by kernel_rfl) HS0.out (fun hHeld => ?_)
        refine wpAnyH_take (i := 0) (v := .pointer (some ⟨p, 0, none⟩)) rfl (by kernel_rfl) (by kernel_rfl) (by kernel_rfl) (fun _ _ _ h => h) (Or.inl ⟨by rfl, ?hd0⟩) hHeld ?rd0
        case hd0 => intro w' hSw; obtain ⟨e0, e1, e2, e3⟩ := hSw; go_simp; (try with_reducible rfl)
        (try simp only [Act.put, List.getElem_toArray, List.getElem_cons_succ, List.getElem_cons_zero, List.setIfInBounds_toArray, List.set_cons_zero, List.set_cons_succ])
        refine wpAnyH_take (i := 1) (v := .pointer (some ⟨p, 0, none⟩)) rfl (by kernel_rfl) (by kernel_rfl) (by kernel_rfl) (fun _ _ _ h => h) (Or.inl ⟨by rfl, ?hd1⟩) hHeld ?rd1
        case hd1 => intro w' hSw; obtain ⟨e0, e1, e2, e3⟩ := hSw; go_simp; (try with_reducible rfl)
        (try simp only [Act.put, List.getElem_toArray, List.getElem_cons_succ, List.getElem_cons_zero, List.setIfInBounds_toArray, List.set_cons_zero, List.set_cons_succ])
        refine wpAnyH_take (i := 2) (v := .pointer (some ⟨p, 1, none⟩)) rfl (by kernel_rfl) (by kernel_rfl) (by kernel_rfl) (fun _ _ _ h => h) (Or.inl ⟨by rfl, ?hd2⟩) hHeld ?rd2
        case hd2 => intro w' hSw; obtain ⟨e0, e1, e2, e3⟩ := hSw; go_simp; (try with_reducible rfl)
        (try simp only [Act.put, List.getElem_toArray, List.getElem_cons_succ, List.getElem_cons_zero, List.setIfInBounds_toArray, List.set_cons_zero, List.set_cons_succ])
        refine wpAnyH_take (i := 3) (v := .map (some bm)) rfl (by kernel_rfl) (by kernel_rfl) (by kernel_rfl) (fun _ _ _ h => h) (Or.inl ⟨by rfl, ?hd3⟩) hHeld ?rd3
        case hd3 => intro w' hSw; obtain ⟨e0, e1, e2, e3⟩ := hSw; go_simp; (try with_reducible rfl)
        (try simp only [Act.put, List.getElem_toArray, List.getElem_cons_succ, List.getElem_cons_zero, List.setIfInBounds_toArray, List.set_cons_zero, List.set_cons_succ])
        refine wpAnyH_take (i := 4) (v := .agg #[.int .i64 (pA key), .int .u8 (pB key)]) rfl (by kernel_rfl) (by kernel_rfl) (by kernel_rfl) (fun _ _ _ h => h) (Or.inl ⟨by rfl, ?hd4⟩) hHeld ?rd4
        case hd4 => intro w' hSw; obtain ⟨e0, e1, e2, e3⟩ := hSw; go_simp; (try with_reducible rfl)
        (try simp only [Act.put, List.getElem_toArray, List.getElem_cons_succ, List.getElem_cons_zero, List.setIfInBounds_toArray, List.set_cons_zero, List.set_cons_succ])
        refine wpAnyH_take (i := 5) (v := .tuple #[.int .i64 (s : Int), .bool true]) rfl (by kernel_rfl) (by kernel_rfl) (by kernel_rfl) (fun _ _ _ h => h) ?hd5 hHeld ?rd5
        case hd5 =>
          exact yieldsIf_lookup (by kernel_rfl) (.tmp 11) (.tmp 12) 75 rfl 34 3 kStr Try.underlying75 Try.underlying3 zeroI bm 16 D (by kernel_rfl) (fun z hz => hz.2.2.2) _ (kL key) (by kernel_rfl) hkey _ hc hh
        (try simp only [Act.put, List.getElem_toArray, List.getElem_cons_succ, List.getElem_cons_zero, List.setIfInBounds_toArray, List.set_cons_zero, List.set_cons_succ])
        refine wpAnyH_take (i := 6) (v := .tuple #[.int .i64 (s : Int), .bool true]) rfl (by kernel_rfl) (by kernel_rfl) (by kernel_rfl) (fun _ _ _ h => h) (Or.inl ⟨by rfl, ?hd6⟩) hHeld ?rd6
        case hd6 => intro w' hSw; obtain ⟨e0, e1, e2, e3⟩ := hSw; go_simp; (try with_reducible rfl)
        (try simp only [Act.put, List.getElem_toArray, List.getElem_cons_succ, List.getElem_cons_zero, List.setIfInBounds_toArray, List.set_cons_zero, List.set_cons_succ])
        refine wpAnyH_take (i := 7) (v := .int .i64 (s : Int)) rfl (by kernel_rfl) (by kernel_rfl) (by kernel_rfl) (fun _ _ _ h => h) (Or.inl ⟨by rfl, ?hd7⟩) hHeld ?rd7
        case hd7 => intro w' hSw; obtain ⟨e0, e1, e2, e3⟩ := hSw; go_simp; (try with_reducible rfl)
        (try simp only [Act.put, List.getElem_toArray, List.getElem_cons_succ, List.getElem_cons_zero, List.setIfInBounds_toArray, List.set_cons_zero, List.set_cons_succ])
        refine wpAnyH_take (i := 8) (v := .bool true) rfl (by kernel_rfl) (by kernel_rfl) (by kernel_rfl) (fun _ _ _ h => h) (Or.inl ⟨by rfl, ?hd8⟩) hHeld ?rd8
        case hd8 => intro w' hSw; obtain ⟨e0, e1, e2, e3⟩ := hSw; go_simp; (try with_reducible rfl)
        (try simp only [Act.put, List.getElem_toArray, List.getElem_cons_succ, List.getElem_cons_zero, List.setIfInBounds_toArray, List.set_cons_zero, List.set_cons_succ])
        refine wpAnyH_take (i := 9) (v := .int .i64 (s : Int)) rfl (by kernel_rfl) (by kernel_rfl) (by kernel_rfl) (fun _ _ _ h => h) (Or.inl ⟨by rfl, ?hd9⟩) hHeld ?rd9
        case hd9 => intro w' hSw; obtain ⟨e0, e1, e2, e3⟩ := hSw; go_simp; (try with_reducible rfl)
        (try simp only [Act.put, List.getElem_toArray, List.getElem_cons_succ, List.getElem_cons_zero, List.setIfInBounds_toArray, List.set_cons_zero, List.set_cons_succ])
        refine wpAnyH_take (i := 10) (v := .bool true) rfl (by kernel_rfl) (by kernel_rfl) (by kernel_rfl) (fun _ _ _ h => h) (Or.inl ⟨by rfl, ?hd10⟩) hHeld ?rd10
        case hd10 => intro w' hSw; obtain ⟨e0, e1, e2, e3⟩ := hSw; go_simp; (try with_reducible rfl)
        (try simp only [Act.put, List.getElem_toArray, List.getElem_cons_succ, List.getElem_cons_zero, List.setIfInBounds_toArray, List.set_cons_zero, List.set_cons_succ])
        refine wpAnyH_done ?hrd ?hqd _
        case hrd => kernel_rfl
        case hqd =>
        (try simp only [Act.put, List.getElem_toArray, List.getElem_cons_succ, List.getElem_cons_zero, List.setIfInBounds_toArray, List.set_cons_zero, List.set_cons_succ])
        clear hHeld hc hh HS0
        rw [← HX.out]
        go_wp2_with fail
        go_ret
        exact ⟨_, _, _, HG.out, rfl, HR.out, HOK.out, HB.out.1.trans HC.out, LLoc.refl rfl⟩
  · obtain ⟨hh, hc⟩ := hD2 hin
    have HG : Hid (PutRes S key S 42) := hide (.inl ⟨fun t ht => absurd (List.mem_of_getElem? ht) hin, rfl, rfl⟩)
    have HS := hide (And.intro h hS)
    clear h hS hD1 hD2 hin hown
    go_enter Try.func32, Try.ntmps32
    go_wp2_with fail
    refine wp_region_held_drew (S := fun z => z.cell? ⟨w.heap.size, 0, none⟩ = some (.int .i64 (pA key)) ∧ z.cell? ⟨w.heap.size, 1, none⟩ = some (.int .u8 (pB key)) ∧ z.cell? ⟨p, 1, none⟩ = some (.map (some bm)) ∧ z.ownsMap Try.prog 34 (plainElem Try.prog 3) bm 16 D) (by kernel_rfl) HS0.out (fun hHeld => ?_)
    refine wpAnyH_take (i := 0) (v := .pointer (some ⟨p, 0, none⟩)) rfl (by kernel_rfl) (by kernel_rfl) (by kernel_rfl) (fun _ _ _ h => h) (Or.inl ⟨by rfl, ?he0⟩) hHeld ?re0
    case he0 => intro w' hSw; obtain ⟨e0, e1, e2, e3⟩ := hSw; go_simp; (try with_reducible rfl)
    (try simp only [Act.put, List.getElem_toArray, List.getElem_cons_succ, List.getElem_cons_zero, List.setIfInBounds_toArray, List.set_cons_zero, List.set_cons_succ])
    refine wpAnyH_take (i := 1) (v := .pointer (some ⟨p, 0, none⟩)) rfl (by kernel_rfl) (by kernel_rfl) (by kernel_rfl) (fun _ _ _ h => h) (Or.inl ⟨by rfl, ?he1⟩) hHeld ?re1
    case he1 => intro w' hSw; obtain ⟨e0, e1, e2, e3⟩ := hSw; go_simp; (try with_reducible rfl)
    (try simp only [Act.put, List.getElem_toArray, List.getElem_cons_succ, List.getElem_cons_zero, List.setIfInBounds_toArray, List.set_cons_zero, List.set_cons_succ])
    refine wpAnyH_take (i := 2) (v := .pointer (some ⟨p, 1, none⟩)) rfl (by kernel_rfl) (by kernel_rfl) (by kernel_rfl) (fun _ _ _ h => h) (Or.inl ⟨by rfl, ?he2⟩) hHeld ?re2
    case he2 => intro w' hSw; obtain ⟨e0, e1, e2, e3⟩ := hSw; go_simp; (try with_reducible rfl)
    (try simp only [Act.put, List.getElem_toArray, List.getElem_cons_succ, List.getElem_cons_zero, List.setIfInBounds_toArray, List.set_cons_zero, List.set_cons_succ])
    refine wpAnyH_take (i := 3) (v := .map (some bm)) rfl (by kernel_rfl) (by kernel_rfl) (by kernel_rfl) (fun _ _ _ h => h) (Or.inl ⟨by rfl, ?he3⟩) hHeld ?re3
    case he3 => intro w' hSw; obtain ⟨e0, e1, e2, e3⟩ := hSw; go_simp; (try with_reducible rfl)
    (try simp only [Act.put, List.getElem_toArray, List.getElem_cons_succ, List.getElem_cons_zero, List.setIfInBounds_toArray, List.set_cons_zero, List.set_cons_succ])
    refine wpAnyH_take (i := 4) (v := .agg #[.int .i64 (pA key), .int .u8 (pB key)]) rfl (by kernel_rfl) (by kernel_rfl) (by kernel_rfl) (fun _ _ _ h => h) (Or.inl ⟨by rfl, ?he4⟩) hHeld ?re4
    case he4 => intro w' hSw; obtain ⟨e0, e1, e2, e3⟩ := hSw; go_simp; (try with_reducible rfl)
    (try simp only [Act.put, List.getElem_toArray, List.getElem_cons_succ, List.getElem_cons_zero, List.setIfInBounds_toArray, List.set_cons_zero, List.set_cons_succ])
    refine wpAnyH_take (i := 5) (v := .tuple #[.int .i64 0, .bool false]) rfl (by kernel_rfl) (by kernel_rfl) (by kernel_rfl) (fun _ _ _ h => h) ?he5 hHeld ?re5
    case he5 =>
      exact yieldsIf_lookup (by kernel_rfl) (.tmp 11) (.tmp 12) 75 rfl 34 3 kStr Try.underlying75 Try.underlying3 zeroI bm 16 D (by kernel_rfl) (fun z hz => hz.2.2.2) _ (kL key) (by kernel_rfl) hkey _ hc hh
    (try simp only [Act.put, List.getElem_toArray, List.getElem_cons_succ, List.getElem_cons_zero, List.setIfInBounds_toArray, List.set_cons_zero, List.set_cons_succ])
    refine wpAnyH_take (i := 6) (v := .tuple #[.int .i64 0, .bool false]) rfl (by kernel_rfl) (by kernel_rfl) (by kernel_rfl) (fun _ _ _ h => h) (Or.inl ⟨by rfl, ?he6⟩) hHeld ?re6
    case he6 => intro w' hSw; obtain ⟨e0, e1, e2, e3⟩ := hSw; go_simp; (try with_reducible rfl)
    (try simp only [Act.put, List.getElem_toArray, List.getElem_cons_succ, List.getElem_cons_zero, List.setIfInBounds_toArray, List.set_cons_zero, List.set_cons_succ])
    refine wpAnyH_take (i := 7) (v := .int .i64 0) rfl (by kernel_rfl) (by kernel_rfl) (by kernel_rfl) (fun _ _ _ h => h) (Or.inl ⟨by rfl, ?he7⟩) hHeld ?re7
    case he7 => intro w' hSw; obtain ⟨e0, e1, e2, e3⟩ := hSw; go_simp; (try with_reducible rfl)
    (try simp only [Act.put, List.getElem_toArray, List.getElem_cons_succ, List.getElem_cons_zero, List.setIfInBounds_toArray, List.set_cons_zero, List.set_cons_succ])
    refine wpAnyH_take (i := 8) (v := .bool false) rfl (by kernel_rfl) (by kernel_rfl) (by kernel_rfl) (fun _ _ _ h => h) (Or.inl ⟨by rfl, ?he8⟩) hHeld ?re8
    case he8 => intro w' hSw; obtain ⟨e0, e1, e2, e3⟩ := hSw; go_simp; (try with_reducible rfl)
    (try simp only [Act.put, List.getElem_toArray, List.getElem_cons_succ, List.getElem_cons_zero, List.setIfInBounds_toArray, List.set_cons_zero, List.set_cons_succ])
    refine wpAnyH_take (i := 9) (v := .int .i64 0) rfl (by kernel_rfl) (by kernel_rfl) (by kernel_rfl) (fun _ _ _ h => h) (Or.inl ⟨by rfl, ?he9⟩) hHeld ?re9
    case he9 => intro w' hSw; obtain ⟨e0, e1, e2, e3⟩ := hSw; go_simp; (try with_reducible rfl)
    (try simp only [Act.put, List.getElem_toArray, List.getElem_cons_succ, List.getElem_cons_zero, List.setIfInBounds_toArray, List.set_cons_zero, List.set_cons_succ])
    refine wpAnyH_take (i := 10) (v := .bool false) rfl (by kernel_rfl) (by kernel_rfl) (by kernel_rfl) (fun _ _ _ h => h) (Or.inl ⟨by rfl, ?he10⟩) hHeld ?re10
    case he10 => intro w' hSw; obtain ⟨e0, e1, e2, e3⟩ := hSw; go_simp; (try with_reducible rfl)
    (try simp only [Act.put, List.getElem_toArray, List.getElem_cons_succ, List.getElem_cons_zero, List.setIfInBounds_toArray, List.set_cons_zero, List.set_cons_succ])
    refine wpAnyH_done ?hre ?hqe _
    case hre => kernel_rfl
    case hqe =>
    (try simp only [Act.put, List.getElem_toArray, List.getElem_cons_succ, List.getElem_cons_zero, List.setIfInBounds_toArray, List.set_cons_zero, List.set_cons_succ])
    clear hHeld hc hh HS0
    rw [← HX.out]
    go_wp2_with fail
    go_ret
    exact ⟨_, _, _, HG.out, rfl, HS.out.1, HS.out.2, HB.out.1, LLoc.refl rfl⟩
end Go.Proofs.Ythkkinmegileaaa.Sp
