import Derived.Test.YthkkinmegileaaaARef2
namespace Go.Proofs.Ythkkinmegileaaa
open Go.RowKit Go.Sort
set_option linter.unusedVariables false
set_option linter.unusedSimpArgs false
set_option maxRecDepth 20000

theorem rSlot_in {w : World} {q P M s : Nat} {cv : Value} {C : List RC} {S : LS} (h : RLR w q cv C P) (hR : Rel S C P) (hS : S.Ok M) {key : Int} (hs : S.ks[s]? = some key) :
    Calls Try.prog 27 #[.pointer (some ⟨q, 0, none⟩), .int .i64 key] w fun e w' => e = .returned (.int .i64 (s : Int)) ∧ w' = w := by
  refine (rSlot_any h hR hS key).mono ?_
  rintro e w' ⟨r, rfl, rfl, ⟨t, ht, rfl⟩ | ⟨hn, rfl⟩⟩
  · rw [nodup_inj hS.kd ht hs]; exact ⟨rfl, rfl⟩
  · exact absurd (List.mem_of_getElem? hs) hn
theorem rSlot_out {w : World} {q P M : Nat} {cv : Value} {C : List RC} {S : LS} (h : RLR w q cv C P) (hR : Rel S C P) (hS : S.Ok M) {key : Int} (hn : key ∉ S.ks) :
    Calls Try.prog 27 #[.pointer (some ⟨q, 0, none⟩), .int .i64 key] w fun e w' => e = .returned (.int .i64 (-1)) ∧ w' = w := by
  refine (rSlot_any h hR hS key).mono ?_
  rintro e w' ⟨r, rfl, rfl, ⟨t, ht, rfl⟩ | ⟨_, rfl⟩⟩
  · exact absurd (List.mem_of_getElem? ht) hn
  · exact ⟨rfl, rfl⟩
def RefRes (S : LS) (key : Int) (r : Nat) : Prop := (∃ s : Nat, S.ks[s]? = some key ∧ S.rs[s]? = some r) ∨ (key ∉ S.ks ∧ r = 0)
set_option maxHeartbeats 1000000 in
theorem rRefs_any {w : World} {q P M : Nat} {cv : Value} {C : List RC} {S : LS} (h : RLR w q cv C P) (hR : Rel S C P) (hS : S.Ok M) (key : Int) :
    Calls Try.prog 25 #[.pointer (some ⟨q, 0, none⟩), .int .i64 key] w fun e w' => ∃ r : Nat, e = .returned (.int .i64 (r : Int)) ∧ w' = w ∧ RefRes S key r := by
  have HIN : Hid (∀ s : Nat, S.ks[s]? = some key → _) := hide fun s (hs : S.ks[s]? = some key) => rSlot_in h hR hS hs
  have HOUT : Hid (key ∉ S.ks → _) := hide fun hn : key ∉ S.ks => rSlot_out h hR hS hn
  have c0 : w.cell? ⟨q, 0, none⟩ = some cv := h.c 0
  have hcl : C.length ≤ 16 := by rw [hR.len]; exact hS.s2
  have HAT : Hid (∀ i, S.ks[i]? = some key → ∃ g cap r, cv = .slice (some ⟨g, 0, none⟩) C.length cap ∧ i < C.length ∧ w.cell? ⟨g, i * 4 + 2, none⟩ = some (.int .i64 ((r : Nat) : Int)) ∧ RefRes S key r) := hide fun i hi => by
    have hik := (List.getElem?_eq_some_iff.1 hi).1
    have hil : i < C.length := by rw [hR.len]; have := hS.kl; omega
    obtain ⟨g, cap, cs, q1, -, q3, q4, q5, q6⟩ := h.at hil
    exact ⟨g, cap, _, q1, hil, q5, .inl ⟨i, hi, (hR.us i hik).2.2⟩⟩
  obtain ⟨a, cap, rfl, h1, h2⟩ := h.form
  unfold maxLen at h2
  clear h hR hS
  generalize C.length = n at *
  by_cases hn : key ∈ S.ks
  · obtain ⟨s, hs⟩ := List.getElem?_of_mem hn
    obtain ⟨g, cap', r, e, hsn, hc, hres⟩ := HAT.out s hs
    simp only [Value.slice.injEq] at e
    obtain ⟨rfl, -, -⟩ := e
    have HF := hide hres
    have HSL := hide (HIN.out s hs)
    clear hres hs HAT HIN HOUT hn
    go_enter Try.func25, Try.ntmps25
    go_wp2_with (first | (go_at_call 27; refine HSL.out.mono ?_; rintro e w1 ⟨rfl, rfl⟩; clear HSL))
    go_ret
    exact ⟨_, rfl, rfl, HF.out⟩
  · have HF : Hid (RefRes S key 0) := hide (.inr ⟨hn, rfl⟩)
    have HSL := hide (HOUT.out hn)
    clear hn HAT HIN HOUT
    go_enter Try.func25, Try.ntmps25
    go_wp2_with (first | (go_at_call 27; refine HSL.out.mono ?_; rintro e w1 ⟨rfl, rfl⟩; clear HSL))
    go_ret
    exact ⟨0, rfl, rfl, HF.out⟩
theorem RLR.puts {w : World} {q P : Nat} {cv : Value} {C : List RC} (h : RLR w q cv C P) (P' : Nat) : RLR (w.setCell ⟨q, 1, none⟩ (.int .i64 (P' : Int))) q cv C P' ∧ Chg (fun b => b = q) w (w.setCell ⟨q, 1, none⟩ (.int .i64 (P' : Int))) := by
  refine ⟨⟨Go.heap_setCell_same w q 1 _ 72 _ h.row, rowKept h.ow fun g e => Go.heap_setCell_other _ _ _ _ ?_⟩, ⟨rfl, rfl, rfl, by rw [World.size_setCell]; exact Nat.le_refl _, fun b _ hn => Go.heap_setCell_other _ _ _ _ (by exact hn)⟩⟩
  obtain ⟨cs, hc⟩ := rowCells h.ow e
  exact neType hc h.row (by decide)
theorem rPut_fin {w w2 : World} {q P g cap s r : Nat} {C : List RC} (h : RLR w q (.slice (some ⟨g, 0, none⟩) C.length cap) C P) (hs : s < C.length) (e2 : w2 = (w.setCell ⟨q, 1, none⟩ (.int .i64 ((P : Int) + 1))).setCell ⟨g, s * 4 + 2, none⟩ (.int .i64 (r : Int))) :
    w2.cell? ⟨q, 0, none⟩ = some (.slice (some ⟨g, 0, none⟩) C.length cap) ∧ w2.cell? ⟨q, 1, none⟩ = some (.int .i64 ((P : Int) + 1)) ∧ w2.frozen? ⟨g, s * 4 + 3, none⟩ = false ∧ (∃ v, w2.cell? ⟨g, s * 4 + 3, none⟩ = some v) ∧
    ∀ w3 : World, w3.heap = (w2.setCell ⟨g, s * 4 + 3, none⟩ (.int .i64 ((P : Int) + 1))).heap → w3.os = w.os → w3.tape = w.tape → w3.output = w.output → RLR w3 q (.slice (some ⟨g, 0, none⟩) C.length cap) (C.set s { rcb C s with refs := r, given := P + 1 }) (P + 1) ∧ Chg (RU q (.slice (some ⟨g, 0, none⟩) C.length cap)) w w3 := by
  subst e2
  obtain ⟨R1, K1⟩ := h.puts (P + 1)
  obtain ⟨R2, K2⟩ := R1.set (i := s) (f := 2) (c' := ⟨(rcb C s).used, (rcb C s).key, r, (rcb C s).given⟩) hs (by omega) (x := .int .i64 (r : Int)) (by simp [RC.cells])
  have hL : (C.set s ⟨(rcb C s).used, (rcb C s).key, r, (rcb C s).given⟩).length = C.length := List.length_set
  have hs2 : s < (C.set s ⟨(rcb C s).used, (rcb C s).key, r, (rcb C s).given⟩).length := by rw [hL]; exact hs
  have R2' := R2
  rw [← hL] at R2'
  have er : rcb (C.set s ⟨(rcb C s).used, (rcb C s).key, r, (rcb C s).given⟩) s = ⟨(rcb C s).used, (rcb C s).key, r, (rcb C s).given⟩ := by rw [rcb_set hs, if_pos rfl]
  obtain ⟨R3, K3⟩ := R2'.set (i := s) (f := 3) (c' := ⟨(rcb C s).used, (rcb C s).key, r, P + 1⟩) hs2 (by omega) (x := .int .i64 ((P + 1 : Nat) : Int)) (by rw [er]; simp [RC.cells])
  rw [hL, List.set_set] at R3
  have ep : (((P + 1 : Nat) : Int)) = (P : Int) + 1 := by omega
  rw [ep] at R1 R2 R3 K1 K2 K3
  refine ⟨R2.c 0, ?_, ?_, ?_, fun w3 eh e1 e2 e3 => ⟨R3.kept fun b _ => by rw [eh], ?_⟩⟩
  · exact R2.c 1
  · obtain ⟨cs, hc⟩ := rowCells R2.ow rfl
    exact frozen_of_row _ _ _ _ 74 hc
  · rw [ep] at R2'
    obtain ⟨g', cap', cs', q1, q2, q3, q4, q5, q6⟩ := R2'.at hs2
    simp only [Value.slice.injEq, Option.some.injEq, Addr.mk.injEq] at q1
    obtain ⟨⟨rfl, -, -⟩, -, -⟩ := q1
    exact ⟨_, q6⟩
  · have K : Chg (RU q (.slice (some ⟨g, 0, none⟩) C.length cap)) w _ := ((K1.mono fun b _ e => .inl e).trans (K2.mono fun b _ e => .inr (by rw [e]; rfl))).trans (K3.mono fun b _ e => .inr (by rw [e]; rfl))
    exact ⟨e1, e2, e3, by rw [eh]; exact K.size, fun b hb hn => by rw [eh]; exact K.keep b hb hn⟩
def RPut (w : World) (q P : Nat) (cv : Value) (S : LS) (key : Int) (e : Ending) (w' : World) : Prop :=
  ∃ S' er C' P', PutRes S key S' er ∧ e = .returned (.int .i64 er) ∧ RLR w' q cv C' P' ∧ Rel S' C' P' ∧ P' ≤ P + 1 ∧ Chg (RU q cv) w w'
set_option maxHeartbeats 2000000 in
theorem rPut_any {w : World} {q P M : Nat} {cv : Value} {C : List RC} {S : LS} (h : RLR w q cv C P) (hR : Rel S C P) (hS : S.Ok M) (hM : M ≤ 4611686018427387904) (hP : P ≤ 4611686018427387904) (key : Int) :
    Calls Try.prog 23 #[.pointer (some ⟨q, 0, none⟩), .int .i64 key] w (RPut w q P cv S key) := by
  have HIN : Hid (∀ s : Nat, S.ks[s]? = some key → _) := hide fun s (hs : S.ks[s]? = some key) => rSlot_in h hR hS hs
  have HOUT : Hid (key ∉ S.ks → _) := hide fun hn : key ∉ S.ks => rSlot_out h hR hS hn
  have c0 : w.cell? ⟨q, 0, none⟩ = some cv := h.c 0
  have c1 : w.cell? ⟨q, 1, none⟩ = some (.int .i64 (P : Int)) := h.c 1
  have hcl : C.length ≤ 16 := by rw [hR.len]; exact hS.s2
  obtain ⟨a, cap, rfl, h1, h2⟩ := h.form
  unfold maxLen at h2
  have HST : Hid (RLR w q (.slice a C.length cap) C P ∧ Rel S C P) := hide ⟨h, hR⟩
  have HAT : Hid (∀ i, S.ks[i]? = some key → ∃ g r, a = some ⟨g, 0, none⟩ ∧ i < C.length ∧ w.cell? ⟨g, i * 4 + 2, none⟩ = some (.int .i64 ((r : Nat) : Int)) ∧ S.rs[i]? = some r ∧ r ≤ M ∧ (rcb C i).refs = r ∧ (∀ j, w.frozen? ⟨g, j, none⟩ = false) ∧ (∀ j, w.frozen? ⟨q, j, none⟩ = false) ∧ g ≠ q) := hide fun i hi => by
    have hik := (List.getElem?_eq_some_iff.1 hi).1
    have hil : i < C.length := by rw [hR.len]; have := hS.kl; omega
    obtain ⟨g, cap, cs, q1, q2, q3, q4, q5, q6⟩ := h.at hil
    simp only [Value.slice.injEq] at q1
    have h3 := (hR.us i hik).2.2
    exact ⟨g, _, q1.1, hil, q5, h3, hS.rb _ (List.mem_of_getElem? h3), rfl, fun j => frozen_of_row _ _ _ _ 74 q2, fun j => frozen_of_row _ _ _ _ 72 h.row, neType q2 h.row (by decide)⟩
  have HKD := hide hS.kd
  have HPUT : Hid (∀ s r, S.rs[s]? = some (r + 1) → Rel (S.put s) (C.set s { rcb C s with refs := r, given := P + 1 }) (P + 1)) := hide fun s r hr => hR.put hS hr
  clear h hR hS
  by_cases hn : key ∈ S.ks
  · obtain ⟨s, hs⟩ := List.getElem?_of_mem hn
    have HSL := hide (HIN.out s hs)
    clear HIN HOUT hn
    obtain ⟨g, r, rfl, hsn, hc, hrs, hrM, hrc, hf, hfq, hgq⟩ := HAT.out s hs
    have f2 := hf (s * 4 + 2)
    have f3 := hf (s * 4 + 3)
    have f1 := hfq 1
    clear hf hfq
    cases r with
    | zero =>
      have HF : Hid (PutRes S key S 42) := hide (.inl ⟨fun t ht => by rw [nodup_inj HKD.out ht hs]; exact hrs, rfl, rfl⟩)
      clear hs HAT hrs hrc HKD HPUT
      go_enter Try.func23, Try.ntmps23
      go_wp2_with (first | (go_at_call 27; refine HSL.out.mono ?_; rintro e w1 ⟨rfl, rfl⟩; clear HSL))
      go_ret
      exact ⟨S, 42, C, P, HF.out, rfl, HST.out.1, HST.out.2, by omega, Chg.refl _ _⟩
    | succ r =>
      have HF : Hid (PutRes S key (S.put s) 0) := hide (.inr ⟨s, r, hs, hrs, rfl, rfl⟩)
      have HP := hide (HPUT.out s r hrs)
      have b1 : (((r : Int) + 1) == 0) = false := by simp; omega
      have b2 : ((s : Int) < 0) = False := by simp
      clear hs HAT hrs HKD HPUT
      go_enter Try.func23, Try.ntmps23
      go_wp2_with (first | (go_at_call 27; refine HSL.out.mono ?_; rintro e w1 ⟨rfl, rfl⟩; clear HSL))
      generalize e2 : (w1.setCell ⟨q, 1, none⟩ (.int .i64 ((P : Int) + 1))).setCell ⟨g, s * 4 + 2, none⟩ (.int .i64 (r : Int)) = w2
      obtain ⟨d0, d1, d2, ⟨gv, d4⟩, d3⟩ := rPut_fin HST.out.1 hsn e2.symm
      have HD : Hid (∀ w3 : World, w3.heap = (w2.setCell ⟨g, s * 4 + 3, none⟩ (.int .i64 ((P : Int) + 1))).heap → w3.os = w2.os → w3.tape = w2.tape → w3.output = w2.output → RPut w1 q P (.slice (some ⟨g, 0, none⟩) C.length cap) S key (.returned (.int .i64 0)) w3) := hide fun w3 x1 x2 x3 x4 => by
        obtain ⟨y1, y2⟩ := d3 w3 x1 (by rw [x2, ← e2]; rfl) (by rw [x3, ← e2]; rfl) (by rw [x4, ← e2]; rfl)
        exact ⟨_, 0, _, _, HF.out, rfl, y1, HP.out, by omega, y2⟩
      clear HF HP e2 d3 c0 c1 hc f1 f2 f3 HST b1 b2
      generalize C.length = n at *
      go_region
      all_goals
        go_wp2_with fail
        go_ret
        exact HD.out _ rfl rfl rfl rfl
  · have HF : Hid (PutRes S key S 42) := hide (.inl ⟨fun t ht => absurd (List.mem_of_getElem? ht) hn, rfl, rfl⟩)
    have HSL := hide (HOUT.out hn)
    clear hn HAT HKD HPUT HIN HOUT
    go_enter Try.func23, Try.ntmps23
    go_wp2_with (first | (go_at_call 27; refine HSL.out.mono ?_; rintro e w1 ⟨rfl, rfl⟩; clear HSL))
    go_ret
    exact ⟨S, 42, C, P, HF.out, rfl, HST.out.1, HST.out.2, by omega, Chg.refl _ _⟩
end Go.Proofs.Ythkkinmegileaaa
