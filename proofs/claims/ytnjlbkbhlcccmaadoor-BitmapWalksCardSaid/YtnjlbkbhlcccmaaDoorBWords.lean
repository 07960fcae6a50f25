import Derived.Test.YtnjlbkbhlcccmaaDoorBMeth
namespace Go.Proofs.YtnjlbkbhlcccmaaDoor
open Go.RowKit Go.Shelf
set_option linter.unusedVariables false
set_option linter.unusedSimpArgs false
set_option maxRecDepth 20000

theorem eqNil_some (W : World) (a : Addr) (n c : Nat) : (binOp .eql 22 (.slice (some a) n c) (.slice none 0 0)).run Tryd.prog W = .ok (.bool false) W := Lib.run_eql_slice_nil (P := Tryd.prog) W 22 63 (some a) n c 0 0 Tryd.underlying22
theorem eqNil_nil (W : World) : (binOp .eql 22 (.slice none 0 0) (.slice none 0 0)).run Tryd.prog W = .ok (.bool true) W := Lib.run_eql_slice_nil (P := Tryd.prog) W 22 63 none 0 0 0 0 Tryd.underlying22
theorem u64V_oneCell (l : List Nat) : ∀ u ∈ l.map u64V, u.oneCell' = true := by
  intro u hu
  obtain ⟨_, _, rfl⟩ := List.mem_map.1 hu
  rfl
theorem map_u64V_getD {l : List Nat} {i : Nat} (hi : i < l.length) : (l.map u64V)[i]? = some (.int .u64 (l.getD i 0 : Nat)) := by
  simp [List.getD, hi, u64V]
theorem WSl.news {w : World} {ad : Addr} {n cap : Nat} {l : List Nat} (h : WSl w (.slice (some ad) n cap) l) : ∀ j u, (l.map u64V)[j]? = some u → w.cell? (ad.add j) = some u := by
  intro j u hu
  have hj : j < l.length := by simpa using (List.getElem?_eq_some_iff.1 hu).1
  obtain ⟨a, cap, e, h1, h2, h3, h4, h5⟩ := h
  simp only [Value.slice.injEq] at e
  obtain ⟨rfl, rfl, rfl⟩ := e
  obtain ⟨b, off, e, hc⟩ := h5 (by omega)
  simp only [Option.some.injEq] at e
  subst e
  rw [Addr.add_lit, hc j hj]
  rw [map_u64V_getD hj] at hu
  exact hu
theorem wsl_of_row {w : World} {base : Nat} {v : Value} {l : List Nat} (h : w.ownsRow base 63 1 v l.length (l.map u64V)) (hl : ∀ b ∈ l, b < 18446744073709551616) : WSl w v l := by
  have h' := h
  rcases h.2 with ⟨rfl, h0⟩ | ⟨g, cap, cur, rfl, h1, h2, h3, h4, h5, h6⟩
  · have e0 : l.length = 0 := h0
    refine ⟨none, 0, by rw [e0], by omega, by unfold maxLen; omega, fun _ => rfl, hl, fun hp => by omega⟩
  · refine ⟨some ⟨g, 0, none⟩, cap, rfl, h3, h4, by simp, hl, fun _ => ⟨g, 0, rfl, fun i hi => ?_⟩⟩
    rw [Nat.zero_add, h'.cellAt i (by omega), map_u64V_getD hi]

set_option maxHeartbeats 400000 in
theorem Clone_any {w : World} {v : Value} {l : List Nat} (h : WSl w v l) (h0 : 0 < l.length) (hn : l.length ≤ 1000000) :
    Calls Tryd.prog 65 #[v] w fun e w' => ∃ v', e = .returned v' ∧ w'.ownsRow w.heap.size 63 1 v' l.length (l.map u64V) ∧ WSl w' v' l ∧ Below w.heap.size w w' := by
  have H := hide h
  obtain ⟨a, cap, rfl, hl, hm, hnn, hb, hcell⟩ := h
  obtain ⟨g, off, rfl, hc⟩ := hcell h0
  have hq := eqNil_some
  have ROW : Hid ((w.alloc (.cells #[] 63)).ownsRow w.heap.size 63 1 (.slice (some ⟨w.heap.size, 0, none⟩) 0 0) 0 []) := hide
    ⟨rfl, .inr ⟨w.heap.size, 0, #[], rfl, Nat.le_refl _, Go.heap_alloc_new w _, Nat.le_refl _, by unfold maxLen; omega, rfl, rfl⟩⟩
  have NEWS := hide (H.out.below ((Below.refl _ _).alloc (Nat.le_refl _) (.cells #[] 63))).news
  obtain ⟨i0, hi, hz0, hz1, hz2⟩ := info_parts info_u64
  clear hc hcell hnn
  have HB := hide hb
  clear hb
  go_enter Tryd.func65, Tryd.ntmps65
  go_wp2_with (at_builtin; refine wpList_append_own _ rfl (.tmp 5) (.tmp 6) 22 rfl w.heap.size 63 i0 (.int .u64 0) 1 8 Tryd.underlying22 hi hz0 hz1 hz2 rfl (by decide) _ _ _ rfl ROW.out ⟨g, off, none⟩ l.length cap (l.map u64V) rfl (by simp) NEWS.out (u64V_oneCell l) (by unfold maxLen; omega) (by omega) (by simp) ?_; intro v' w1 hown hgrow hnil; have HOWN := hide hown; have HG := hide hgrow; clear hown hgrow hnil)
  go_ret
  have hown := HOWN.out
  rw [Nat.zero_add, List.nil_append] at hown
  refine ⟨_, rfl, hown, wsl_of_row hown HB.out, ?_⟩
  exact ((Below.refl _ _).alloc (Nat.le_refl _) _).grown HG.out (by simp) (fun k e => by have e' : some w.heap.size = some k := e; cases e'; exact Nat.le_refl _)

theorem BRep.wsl {w : World} {L : BL} {n B : Nat} (h : BRep w L n B) : WSl w (.slice (some ⟨L.lo, 0, none⟩) (nW n) (nW n)) (wds B (nW n)) := by
  refine ⟨some ⟨L.lo, 0, none⟩, nW n, by rw [wds_len], by rw [wds_len]; exact Nat.le_refl _, by have := h.n2; unfold nW maxLen; omega, by simp, wds_lt _ _, fun _ => ⟨L.lo, 0, rfl, fun i hi => ?_⟩⟩
  rw [wds_len] at hi
  rw [Nat.zero_add, h.cl hi, wds_get hi]
theorem BRep.wsh {w : World} {L : BL} {n B : Nat} (h : BRep w L n B) : WSl w (.slice (some ⟨L.hi, 0, none⟩) (nW (nW n)) (nW (nW n))) (wds (up B (nW n)) (nW (nW n))) := by
  refine ⟨some ⟨L.hi, 0, none⟩, nW (nW n), by rw [wds_len], by rw [wds_len]; exact Nat.le_refl _, by have := h.n2; unfold nW maxLen; omega, by simp, wds_lt _ _, fun _ => ⟨L.hi, 0, rfl, fun i hi => ?_⟩⟩
  rw [wds_len] at hi
  rw [Nat.zero_add, h.ch hi, wds_get hi]

theorem Words_any {w : World} {L : BL} {n B : Nat} (h : BRep w L n B) :
    Calls Tryd.prog 49 #[PB L] w fun e w' => ∃ v', e = .returned v' ∧ w'.ownsRow w.heap.size 63 1 v' (nW n) ((wds B (nW n)).map u64V) ∧ WSl w' v' (wds B (nW n)) ∧ Below w.heap.size w w' := by
  have c1 := h.c1
  have hn1 := h.n1
  have hn2 := h.n2
  have hc := Clone_any h.wsl (by rw [wds_len]; unfold nW; omega) (by rw [wds_len]; unfold nW; omega)
  rw [wds_len] at hc
  have HC := hide hc
  have hW : nW n ≤ 1024 := by unfold nW; omega
  clear hc h
  generalize wds B (nW n) = l at *
  generalize nW n = m1 at *
  unfold PB
  go_enter Tryd.func49, Tryd.ntmps49
  go_wp2_with (go_at_call 65; refine HC.out.mono ?_; rintro e w' ⟨v', rfl, hr, hv, hb⟩; have HR := hide hr; have HV := hide hv; have HB := hide hb; clear hr hv hb)
  go_ret
  exact ⟨_, rfl, HR.out, HV.out, HB.out⟩
theorem Summary_any {w : World} {L : BL} {n B : Nat} (h : BRep w L n B) :
    Calls Tryd.prog 51 #[PB L] w fun e w' => ∃ v', e = .returned v' ∧ w'.ownsRow w.heap.size 63 1 v' (nW (nW n)) ((wds (up B (nW n)) (nW (nW n))).map u64V) ∧ WSl w' v' (wds (up B (nW n)) (nW (nW n))) ∧ Below w.heap.size w w' := by
  have c2 := h.c2
  have hn1 := h.n1
  have hn2 := h.n2
  have hW : nW (nW n) ≤ 1024 := by unfold nW; omega
  have hc := Clone_any h.wsh (by rw [wds_len]; unfold nW; omega) (by rw [wds_len]; omega)
  rw [wds_len] at hc
  have HC := hide hc
  clear hc h
  generalize wds (up B (nW n)) (nW (nW n)) = l at *
  generalize nW (nW n) = m1 at *
  unfold PB
  go_enter Tryd.func51, Tryd.ntmps51
  go_wp2_with (go_at_call 65; refine HC.out.mono ?_; rintro e w' ⟨v', rfl, hr, hv, hb⟩; have HR := hide hr; have HV := hide hv; have HB := hide hb; clear hr hv hb)
  go_ret
  exact ⟨_, rfl, HR.out, HV.out, HB.out⟩
end Go.Proofs.YtnjlbkbhlcccmaaDoor
