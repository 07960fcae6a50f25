import Derived.Test.YthkkinmegileaaaARef3
namespace Go.Proofs.Ythkkinmegileaaa
open Go.RowKit Go.Sort
set_option linter.unusedVariables false
set_option linter.unusedSimpArgs false
set_option maxRecDepth 20000

def RGet (w : World) (q P : Nat) (cv : Value) (S : LS) (key : Int) (e : Ending) (w' : World) : Prop :=
  ∃ S' slot fresh old gone er C', GetRes S key S' slot fresh old gone er ∧ e = .returned (.tuple #[.int .i64 (slot : Int), .bool fresh, .int .i64 old, .bool gone, .int .i64 er]) ∧ RLR w' q cv C' P ∧ Rel S' C' P ∧ Chg (RU q cv) w w'
set_option maxHeartbeats 2000000 in
theorem rGet_in {w : World} {q P M s : Nat} {cv : Value} {C : List RC} {S : LS} (h : RLR w q cv C P) (hR : Rel S C P) (hS : S.Ok M) (hM : M ≤ 4611686018427387904) {key : Int} (hs : S.ks[s]? = some key) :
    Calls Try.prog 21 #[.pointer (some ⟨q, 0, none⟩), .int .i64 key] w (RGet w q P cv S key) := by
  have HSL := hide (rSlot_in h hR hS hs)
  have hsk := (List.getElem?_eq_some_iff.1 hs).1
  have hsl : s < C.length := by rw [hR.len]; have := hS.kl; omega
  have c0 : w.cell? ⟨q, 0, none⟩ = some cv := h.c 0
  obtain ⟨g, cap, cs, rfl, q2, q3, q4, q5, q6⟩ := h.at hsl
  obtain ⟨a', cap', e', h1, h2⟩ := h.form
  simp only [Value.slice.injEq] at e'
  obtain ⟨-, -, rfl⟩ := e'
  unfold maxLen at h2
  have h3 := (hR.us s hsk).2.2
  have hrb := hS.rb _ (List.mem_of_getElem? h3)
  have hcl : C.length ≤ 16 := by rw [hR.len]; exact hS.s2
  have f1 := frozen_of_row _ _ (s * 4 + 2) _ 74 q2
  have HF : Hid (RGet w q P (.slice (some ⟨g, 0, none⟩) C.length cap) S key (.returned (.tuple #[.int .i64 (s : Int), .bool false, .int .i64 0, .bool false, .int .i64 0])) (w.setCell ⟨g, s * 4 + 2, none⟩ (.int .i64 (((rcb C s).refs : Int) + 1)))) := hide (by
    obtain ⟨R2, K2⟩ := h.set (i := s) (f := 2) (c' := ⟨(rcb C s).used, (rcb C s).key, (rcb C s).refs + 1, (rcb C s).given⟩) hsl (by omega) (x := .int .i64 (((rcb C s).refs : Int) + 1)) (by simp [RC.cells])
    exact ⟨_, s, false, 0, false, 0, _, .inl ⟨s, hs, rfl, rfl, rfl, rfl, rfl, rfl⟩, rfl, R2, hR.take hS hsk, K2.mono fun b _ e => .inr (by rw [e]; rfl)⟩)
  clear h hR hS hs h3 q2 q3 q4 q6
  generalize (rcb C s).refs = r at *
  generalize C.length = n at *
  go_enter Try.func21, Try.ntmps21
  go_wp2_with (first | (go_at_call 27; refine HSL.out.mono ?_; rintro e w1 ⟨rfl, rfl⟩; clear HSL))
  (try simp only [Exit.inBlock, Exit.then]); refine bodyPost_ret (results_tmp5 rfl _ _ _) rfl ?_
  exact HF.out
theorem RLR.whole {w : World} {q P g cap : Nat} {C : List RC} (h : RLR w q (.slice (some ⟨g, 0, none⟩) C.length cap) C P) {i : Nat} (hi : i < C.length) (u : Bool) (k : Int) (r y : Nat) :
    RLR ((((w.setCell ⟨g, i * 4, none⟩ (.bool u)).setCell ⟨g, i * 4 + 1, none⟩ (.int .i64 k)).setCell ⟨g, i * 4 + 2, none⟩ (.int .i64 (r : Int))).setCell ⟨g, i * 4 + 3, none⟩ (.int .i64 (y : Int))) q (.slice (some ⟨g, 0, none⟩) C.length cap) (C.set i ⟨u, k, r, y⟩) P ∧
    Chg (fun b => b = g) w ((((w.setCell ⟨g, i * 4, none⟩ (.bool u)).setCell ⟨g, i * 4 + 1, none⟩ (.int .i64 k)).setCell ⟨g, i * 4 + 2, none⟩ (.int .i64 (r : Int))).setCell ⟨g, i * 4 + 3, none⟩ (.int .i64 (y : Int))) := by
  have one : ∀ {w : World} {D : List RC} {f : Nat} {d c' : RC} {x : Value}, D.length = C.length → RLR w q (.slice (some ⟨g, 0, none⟩) C.length cap) D P → f < 4 → D[i]? = some d → c'.cells = d.cells.set f x → RLR (w.setCell ⟨g, i * 4 + f, none⟩ x) q (.slice (some ⟨g, 0, none⟩) C.length cap) (D.set i c') P ∧ Chg (fun b => b = g) w (w.setCell ⟨g, i * 4 + f, none⟩ x) := fun {w D f d c' x} hl h hf hd hc => by
    rw [← hl] at h ⊢
    refine h.set (by rw [hl]; exact hi) hf ?_
    rw [rcb_eq hd]; exact hc
  obtain ⟨R1, K1⟩ := one (f := 0) (x := .bool u) (c' := ⟨u, (rcb C i).key, (rcb C i).refs, (rcb C i).given⟩) rfl h (by omega) (rcb_of hi) rfl
  have s1 : (C.set i ⟨u, (rcb C i).key, (rcb C i).refs, (rcb C i).given⟩)[i]? = some ⟨u, (rcb C i).key, (rcb C i).refs, (rcb C i).given⟩ := List.getElem?_set_self hi
  obtain ⟨R2, K2⟩ := one (f := 1) (x := .int .i64 k) (c' := ⟨u, k, (rcb C i).refs, (rcb C i).given⟩) (by simp) R1 (by omega) s1 rfl
  rw [List.set_set] at R2
  have s2 : (C.set i ⟨u, k, (rcb C i).refs, (rcb C i).given⟩)[i]? = some ⟨u, k, (rcb C i).refs, (rcb C i).given⟩ := List.getElem?_set_self hi
  obtain ⟨R3, K3⟩ := one (f := 2) (x := .int .i64 (r : Int)) (c' := ⟨u, k, r, (rcb C i).given⟩) (by simp) R2 (by omega) s2 rfl
  rw [List.set_set] at R3
  have s3 : (C.set i ⟨u, k, r, (rcb C i).given⟩)[i]? = some ⟨u, k, r, (rcb C i).given⟩ := List.getElem?_set_self hi
  obtain ⟨R4, K4⟩ := one (f := 3) (x := .int .i64 (y : Int)) (c' := ⟨u, k, r, y⟩) (by simp) R3 (by omega) s3 rfl
  rw [List.set_set] at R4
  exact ⟨R4, ((K1.trans K2).trans K3).trans K4⟩
set_option maxHeartbeats 2000000 in
theorem rGet_out {w : World} {q P M : Nat} {cv : Value} {C : List RC} {S : LS} (h : RLR w q cv C P) (hR : Rel S C P) (hS : S.Ok M) {key : Int} (hn : key ∉ S.ks) :
    Calls Try.prog 21 #[.pointer (some ⟨q, 0, none⟩), .int .i64 key] w (RGet w q P cv S key) := by
  have HSL := hide (rSlot_out h hR hS hn)
  have c0 : w.cell? ⟨q, 0, none⟩ = some cv := h.c 0
  have hcl : C.length ≤ 16 := by rw [hR.len]; exact hS.s2
  have hkl : S.ks.length ≤ C.length := by rw [hR.len]; exact hS.kl
  obtain ⟨a, cap, rfl, h1, h2⟩ := h.form
  unfold maxLen at h2
  have HID := hide (rIdle_any h hR hS)
  have HAT : Hid (∀ i, i < C.length → ∃ g k r y, a = some ⟨g, 0, none⟩ ∧ w.cell? ⟨g, i * 4, none⟩ = some (.bool (decide (i < S.ks.length))) ∧ w.cell? ⟨g, i * 4 + 1, none⟩ = some k ∧ w.cell? ⟨g, i * 4 + 2, none⟩ = some r ∧ w.cell? ⟨g, i * 4 + 3, none⟩ = some y ∧ (∀ j, w.frozen? ⟨g, j, none⟩ = false)) := hide fun i hi => by
    obtain ⟨g, cap, cs, q1, q2, q3, q4, q5, q6⟩ := h.at hi
    simp only [Value.slice.injEq] at q1
    refine ⟨g, _, _, _, q1.1, ?_, q4, q5, q6, fun j => frozen_of_row _ _ _ _ 74 q2⟩
    rw [q3]
    by_cases hk : i < S.ks.length
    · rw [(hR.us i hk).1, decide_eq_true hk]
    · rw [hR.fr i (by omega) hi, decide_eq_false hk]
  have HADD : Hid (S.ks.length < C.length → ∀ g, a = some ⟨g, 0, none⟩ → RGet w q P (.slice a C.length cap) S key (.returned (.tuple #[.int .i64 (S.ks.length : Int), .bool true, .int .i64 0, .bool false, .int .i64 0])) ((((w.setCell ⟨g, S.ks.length * 4, none⟩ (.bool true)).setCell ⟨g, S.ks.length * 4 + 1, none⟩ (.int .i64 key)).setCell ⟨g, S.ks.length * 4 + 2, none⟩ (.int .i64 1)).setCell ⟨g, S.ks.length * 4 + 3, none⟩ (.int .i64 0))) := hide fun hlt g e => by
    subst e
    obtain ⟨R4, K4⟩ := h.whole hlt true key 1 0
    have hl : S.ks.length < S.slots := by rw [← hR.len]; exact hlt
    exact ⟨_, _, true, 0, false, 0, _, .inr (.inl ⟨hn, hl, rfl, rfl, rfl, rfl, rfl, rfl⟩), rfl, R4, hR.add hS hl, K4.mono fun b _ e => .inr (by rw [e]; rfl)⟩
  have HFULL : Hid (∀ w1, Below w.heap.size w w1 → S.ks.length = C.length → S.idle = [] → RGet w q P (.slice a C.length cap) S key (.returned (.tuple #[.int .i64 0, .bool false, .int .i64 0, .bool false, .int .i64 41])) w1) := hide fun w1 hb hf hi => by
    exact ⟨S, 0, false, 0, false, 41, _, .inr (.inr (.inr ⟨hn, by rw [← hR.len]; exact hf, hi, rfl, rfl, rfl, rfl, rfl, rfl⟩)), rfl, h.below hb, hR, Chg.ofBelow hb⟩
  have HSWAP : Hid (∀ w1, Below w.heap.size w w1 → S.ks.length = C.length → ∀ s t, S.idle = s :: t → ∃ g o, a = some ⟨g, 0, none⟩ ∧ s < C.length ∧ (∃ v, w1.cell? ⟨g, s * 4, none⟩ = some v) ∧ w1.cell? ⟨g, s * 4 + 1, none⟩ = some (.int .i64 o) ∧ (∃ v, w1.cell? ⟨g, s * 4 + 2, none⟩ = some v) ∧ (∃ v, w1.cell? ⟨g, s * 4 + 3, none⟩ = some v) ∧ (∀ j, w1.frozen? ⟨g, j, none⟩ = false) ∧ w1.cell? ⟨q, 0, none⟩ = some (.slice a C.length cap) ∧ RGet w q P (.slice a C.length cap) S key (.returned (.tuple #[.int .i64 (s : Int), .bool true, .int .i64 o, .bool true, .int .i64 0])) ((((w1.setCell ⟨g, s * 4, none⟩ (.bool true)).setCell ⟨g, s * 4 + 1, none⟩ (.int .i64 key)).setCell ⟨g, s * 4 + 2, none⟩ (.int .i64 1)).setCell ⟨g, s * 4 + 3, none⟩ (.int .i64 0))) := hide fun w1 hb hf s t hi => by
    have hsi : s ∈ S.idle := by rw [hi]; simp
    have hsk := hS.idle_lt hsi
    have hsl : s < C.length := by omega
    have h' := h.below hb
    obtain ⟨g, cap', cs, q1, q2, q3, q4, q5, q6⟩ := h'.at hsl
    simp only [Value.slice.injEq] at q1
    obtain ⟨rfl, -, rfl⟩ := q1
    obtain ⟨R4, K4⟩ := h'.whole hsl true key 1 0
    refine ⟨g, (rcb C s).key, rfl, hsl, ⟨_, q3⟩, q4, ⟨_, q5⟩, ⟨_, q6⟩, fun j => frozen_of_row _ _ _ _ 74 q2, h'.c 0, _, s, true, (rcb C s).key, true, 0, _, .inr (.inr (.inl ⟨hn, by rw [← hR.len]; exact hf, s, t, _, hi, (hR.us s hsk).2.1, rfl, rfl, rfl, rfl, rfl, rfl⟩)), rfl, R4, hR.swap hS hsi, (Chg.ofBelow hb).trans (K4.mono fun b _ e => .inr (by rw [e]; rfl))⟩
  clear h hR hS
  generalize C.length = n at *
  generalize S.ks.length = nk at *
  go_enter Try.func21, Try.ntmps21
  go_wp2_with (first | (go_at_call 27; refine HSL.out.mono ?_; rintro e w1 ⟨rfl, rfl⟩; clear HSL))
  go_loopw [10] (fun x wr => ∃ i : Nat, i ≤ nk ∧ x = .int .i64 (i : Int) ∧ wr = w1) (fun x _ => n + 1 - (intOf x).toNat)
  case atStart => exact ⟨0, Nat.zero_le _, rfl, rfl⟩
  case round =>
    obtain ⟨i, hin, rfl, rfl⟩ := hrel
    by_cases hlt : i < n
    · obtain ⟨g, k1, k2, k3, rfl, r0, r1, r2, r3, hf⟩ := HAT.out i hlt
      by_cases hik : i < nk
      · rw [decide_eq_true hik] at r0
        clear hf HID
        go_wp2_with fail
        go_roundw
        case rel => exact ⟨i + 1, by omega, by go_num, trivial⟩
        case measure => simp [intOf]; omega
      · rw [decide_eq_false hik] at r0
        have f0 := hf (i * 4)
        have f1 := hf (i * 4 + 1)
        have f2 := hf (i * 4 + 2)
        have f3 := hf (i * 4 + 3)
        have ei : i = nk := by omega
        have HF := hide (HADD.out (by omega) g rfl)
        subst ei
        clear hf HID HADD HFULL HSWAP HAT
        go_wp2_with fail
        (try simp only [Exit.inBlock, Exit.then]); refine bodyPost_ret (results_tmp5 rfl _ _ _) rfl ?_
        exact HF.out
    · have enk : nk = n := by omega
      subst enk
      cases hi : S.idle with
      | nil =>
        have HF : Hid (∀ w1, Below wr.heap.size wr w1 → _) := hide fun w1 (hb : Below wr.heap.size wr w1) => HFULL.out w1 hb rfl hi
        have HI : Hid (Calls Try.prog 54 #[.pointer (some ⟨q, 0, none⟩)] wr fun e w' => e = .returned (.int .i64 (-1)) ∧ Below wr.heap.size wr w') := hide (HID.out.mono (by
          rintro e w' ⟨r, rfl, hb, ⟨s, t, e, rfl⟩ | ⟨-, rfl⟩⟩
          · rw [hi] at e; cases e
          · exact ⟨rfl, hb⟩))
        clear hi HID HADD HFULL HSWAP HAT
        go_wp2_with (first | (go_at_call 54; refine HI.out.mono ?_; rintro e w2 ⟨rfl, hb⟩; have HB := hide hb; clear hb HI))
        (try simp only [Exit.inBlock, Exit.then]); refine bodyPost_ret (results_tmp5 rfl _ _ _) rfl ?_
        exact HF.out _ HB.out
      | cons s t =>
        have HF : Hid (∀ w1, Below wr.heap.size wr w1 → _) := hide fun w1 (hb : Below wr.heap.size wr w1) => HSWAP.out w1 hb rfl s t hi
        have HI : Hid (Calls Try.prog 54 #[.pointer (some ⟨q, 0, none⟩)] wr fun e w' => e = .returned (.int .i64 (s : Int)) ∧ Below wr.heap.size wr w') := hide (HID.out.mono (by
          rintro e w' ⟨r, rfl, hb, ⟨s', t', e, rfl⟩ | ⟨e, rfl⟩⟩
          · rw [hi] at e; simp only [List.cons.injEq] at e; rw [e.1]; exact ⟨rfl, hb⟩
          · rw [hi] at e; cases e))
        clear hi HID HADD HFULL HSWAP HAT
        have b2 : ((s : Int) < 0) = False := by simp
        go_wp2_with (first | (go_at_call 54; refine HI.out.mono ?_; rintro e w2 ⟨rfl, hb⟩; obtain ⟨g, o, rfl, hsn, ⟨v0, p0⟩, p1, ⟨v2, p2⟩, ⟨v3, p3⟩, pf, pc, pr⟩ := HF.out w2 hb; have f0 := pf (s * 4); have f1 := pf (s * 4 + 1); have f2 := pf (s * 4 + 2); have f3 := pf (s * 4 + 3); have HR := hide pr; clear pf pr hb HI HF c0))
        (try simp only [Exit.inBlock, Exit.then]); refine bodyPost_ret (results_tmp5 rfl _ _ _) rfl ?_
        exact HR.out
end Go.Proofs.Ythkkinmegileaaa
