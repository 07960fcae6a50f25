import Derived.Test.YtlpmpicmpklaoacGreatELaw5
import Derived.Test.YtlpmpicmpklaoacGreatDSame
namespace Go.Proofs.YtlpmpicmpklaoacGreat
open Go.RowKit Go.Maps Go.Sort
set_option linter.unusedVariables false
set_option linter.unusedSimpArgs false
set_option maxRecDepth 20000

theorem rowLow {w : World} {base : Nat} {e : TypeId} {v : Value} {n : Nat} {xs : List Value} (h : w.ownsRow base e 1 v n xs) : w.ownsRow 0 e 1 v n xs := by
  refine ⟨h.1, ?_⟩
  rcases h.2 with h0 | ⟨g, cap, cur, h1, _, r⟩
  · exact .inl h0
  · exact .inr ⟨g, cap, cur, h1, Nat.zero_le _, r⟩
theorem sameIntsNil (w : World) : Calls Tryz.prog 35 #[.slice none 0 0, .slice none 0 0] w fun e w' => e = .returned (.bool true) ∧ ∃ n, w' = w.drewN n := by
  go_enter Tryz.func35, Tryz.ntmps35
  go_wp2
  go_loopw [5] (fun i wr => i = .int .i64 0 ∧ wr = w) (fun i _ => 0)
  case atStart => exact ⟨rfl, rfl⟩
  case round =>
    obtain ⟨rfl, rfl⟩ := hrel
    go_wp2
    go_ret
    exact ⟨rfl, 0, rfl⟩
theorem sameIntsRows {w : World} {b1 b2 : Nat} {v1 v2 : Value} {es : List Int} (h1 : w.ownsRow b1 3 1 v1 es.length (es.map encZ)) (h2 : w.ownsRow b2 3 1 v2 es.length (es.map encZ)) (e1 : v1 = .slice none 0 0 ↔ es = []) (e2 : v2 = .slice none 0 0 ↔ es = []) :
    Calls Tryz.prog 35 #[v1, v2] w fun e w' => e = .returned (.bool true) ∧ ∃ n, w' = w.drewN n := by
  cases es with
  | nil => rw [e1.2 rfl, e2.2 rfl]; exact sameIntsNil w
  | cons x r => exact sameInts_eq v1 v2 (x :: r) w (by simp) (rowLow h1) (rowLow h2)

set_option maxHeartbeats 1000000 in
theorem look_9 {w0 w : World} {pp nx k : Nat} {S : St} (h : PAll w0 w pp S nx k) (bl ct : Int) (dv : Value) :
    Calls Tryz.prog 11 #[.pointer (some ⟨pp, 0, none⟩), .agg #[.int .i64 9, .int .i64 bl, .int .i64 ct, dv]] w fun e w' => e = .returned (.bool true) ∧ PAll w0 w' pp S nx k := by
  obtain ⟨L, RL, wh, bv, hP⟩ := h
  have HB0 := hide (PBx.start hP 9 bl ct dv)
  have hd := HB0.out.cells
  unfold PCells at hd
  clear hP
  have HC1 := hide (Image_any HB0.out.p.d)
  unfold PD at HC1
  have HIL : Hid ((S.img S.nb).length = S.nb * S.sz) := hide (HB0.out.p.d.imgLen S.nb (Nat.le_refl _)).1
  go_enter Tryz.func11, Tryz.ntmps11
  generalize hW0 : w.alloc (.cells #[.int .i64 9, .int .i64 bl, .int .i64 ct, dv] 43) = wA at HB0 HC1 hd
  have HWA := hide hW0
  clear hW0
  obtain ⟨M, hM⟩ : ∃ M, S.nb * S.sz = M := ⟨_, rfl⟩
  rw [hM] at HC1 HIL
  clear hM
  go_wp2_with (first
    | (go_at_call 31; refine HC1.out.mono ?_; rintro e w1 ⟨rfl, hp1, hb1⟩; have HB1 := hide (HB0.out.below hb1); have hc1 := HB1.out.cells; unfold PCells at hc1; have HP1 := hide hp1; have HC2 := hide (rImage HB1.out.p.r); unfold PR at HC2; clear hp1 hb1)
    | (go_at_call 32; refine HC2.out.mono ?_; rintro e w2 ⟨v2, rfl, hb2, -, hbe2⟩; have HB2 := hide (HB1.out.below hbe2); have hc2 := HB2.out.cells; unfold PCells at hc2; have hq := (HP1.out.kept (hbe2.block _ HP1.out.lt)).bsl; rw [HIL.out] at hq; have HSA := hide (same_any _ _ _ _ w2 hq hb2); clear hq hb2 hbe2)
    | (go_at_call 26; refine HSA.out.mono ?_; rintro e w3 ⟨rfl, k3, hw3⟩; have HB3 := hide (HB2.out.below (show Below _ _ w3 by rw [hw3]; exact below_drewN (Below.refl _ _) k3)); have hc3 := HB3.out.cells; unfold PCells at hc3; clear hw3)
    | (rw [HWA.out]))
  go_ret
  exact ⟨by simp, HB3.out.all⟩

set_option maxHeartbeats 1000000 in
theorem look_6 {w0 w : World} {pp nx k : Nat} {S : St} (h : PAll w0 w pp S nx k) (bl ct : Int) (dv : Value) (hb : ∀ k, (S.cache k).length + 1 ≤ 268435456) :
    Calls Tryz.prog 11 #[.pointer (some ⟨pp, 0, none⟩), .agg #[.int .i64 6, .int .i64 bl, .int .i64 ct, dv]] w fun e w' => e = .returned (.bool true) ∧ PAll w0 w' pp S nx k := by
  obtain ⟨L, RL, wh, bv, hP⟩ := h
  have HB0 := hide (PBx.start hP 6 bl ct dv)
  have hd := HB0.out.cells
  unfold PCells at hd
  have HCB := hide hb
  clear hP hb
  have HC1 := hide (Cached_any HB0.out.p.d)
  unfold PD at HC1
  go_enter Tryz.func11, Tryz.ntmps11
  generalize hW0 : w.alloc (.cells #[.int .i64 6, .int .i64 bl, .int .i64 ct, dv] 43) = wA at HB0 HC1 hd
  have HWA := hide hW0
  clear hW0
  go_wp2_with (first
    | (go_at_call 33; refine HC1.out.mono ?_; rintro e w1 ⟨v1, rfl, hr1, hn1, hb1⟩; have HB1 := hide (HB0.out.below hb1); have hc1 := HB1.out.cells; unfold PCells at hc1; have HR1 := hide hr1; have HN1 := hide hn1; have HC2 := hide (rCached HB1.out.p.r HCB.out); unfold PR at HC2; clear hr1 hn1 hb1)
    | (go_at_call 34; refine HC2.out.mono ?_; rintro e w2 ⟨v2, rfl, hr2, hn2, hbe2⟩; have HB2 := hide (HB1.out.below hbe2); have hc2 := HB2.out.cells; unfold PCells at hc2; have HSA := hide (sameIntsRows (rowKept (w' := w2) HR1.out fun g hg => hbe2.block g (HR1.out.lt g hg).2) hr2 HN1.out hn2); clear hr2 hn2 hbe2)
    | (go_at_call 35; refine HSA.out.mono ?_; rintro e w3 ⟨rfl, k3, hw3⟩; have HB3 := hide (HB2.out.below (show Below _ _ w3 by rw [hw3]; exact below_drewN (Below.refl _ _) k3)); have hc3 := HB3.out.cells; unfold PCells at hc3; clear hw3)
    | (rw [HWA.out]))
  go_ret
  exact ⟨rfl, HB3.out.all⟩
end Go.Proofs.YtlpmpicmpklaoacGreat
