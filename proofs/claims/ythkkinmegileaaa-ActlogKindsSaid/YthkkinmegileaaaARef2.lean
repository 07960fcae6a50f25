import Derived.Test.YthkkinmegileaaaARef1
import Derived.Test.YthkkinmegileaaaABook2
namespace Go.Proofs.Ythkkinmegileaaa
open Go.RowKit Go.Sort
set_option linter.unusedVariables false
set_option linter.unusedSimpArgs false
set_option maxRecDepth 20000

/-- the document's Lru in memory -/
structure RLR (w : World) (q : Nat) (cv : Value) (C : List RC) (P : Nat) : Prop where
  row : w.heap[q]? = some (.cells #[cv, .int .i64 (P : Int)] 72 (0, 0))
  ow : w.ownsRow 0 74 4 cv C.length (cflat C)
def RU (q : Nat) (cv : Value) (b : Nat) : Prop := b = q ∨ cv.ownBlock = some b
theorem RLR.kept {w w' : World} {q P : Nat} {cv : Value} {C : List RC} (h : RLR w q cv C P) (hk : ∀ b, RU q cv b → w'.heap[b]? = w.heap[b]?) : RLR w' q cv C P :=
  ⟨(hk _ (.inl rfl)).trans h.row, rowKept h.ow fun g e => hk g (.inr e)⟩
theorem RLR.lt {w : World} {q P : Nat} {cv : Value} {C : List RC} (h : RLR w q cv C P) : ∀ b, RU q cv b → b < w.heap.size := by
  rintro b (rfl | e)
  · exact (Array.getElem?_eq_some_iff.1 h.row).1
  · exact (h.ow.lt b e).2
theorem RLR.below {w w' : World} {q P : Nat} {cv : Value} {C : List RC} (h : RLR w q cv C P) (hb : Below w.heap.size w w') : RLR w' q cv C P := h.kept fun b e => hb.block b (h.lt b e)
theorem RLR.qt {w w' : World} {q P : Nat} {cv : Value} {C : List RC} (h : RLR w q cv C P) (hb : Qt w w') : RLR w' q cv C P := h.below hb.2
theorem RLR.c {w : World} {q P : Nat} {cv : Value} {C : List RC} (h : RLR w q cv C P) (i : Nat) : w.cell? ⟨q, i, none⟩ = (#[cv, .int .i64 (P : Int)] : Array Value)[i]? := cell_of_row _ _ _ _ _ _ h.row
theorem RLR.form {w : World} {q P : Nat} {cv : Value} {C : List RC} (h : RLR w q cv C P) : ∃ a cap, cv = .slice a C.length cap ∧ C.length ≤ cap ∧ cap ≤ maxLen := rowForm h.ow
theorem RLR.at {w : World} {q P : Nat} {cv : Value} {C : List RC} (h : RLR w q cv C P) {i : Nat} (hi : i < C.length) : ∃ g cap cs, cv = .slice (some ⟨g, 0, none⟩) C.length cap ∧ w.heap[g]? = some (.cells cs 74 (0, 0)) ∧ w.cell? ⟨g, i * 4, none⟩ = some (.bool (rcb C i).used) ∧ w.cell? ⟨g, i * 4 + 1, none⟩ = some (.int .i64 (rcb C i).key) ∧ w.cell? ⟨g, i * 4 + 2, none⟩ = some (.int .i64 ((rcb C i).refs : Int)) ∧ w.cell? ⟨g, i * 4 + 3, none⟩ = some (.int .i64 ((rcb C i).given : Int)) := by
  rcases h.ow.2 with ⟨_, e⟩ | ⟨g, cap, cur, rfl, hb, hg, h1, h2, h3, h4⟩
  · omega
  · have hc : ∀ f, f < 4 → w.cell? ⟨g, i * 4 + f, none⟩ = (rcb C i).cells[f]? := fun f hf => by
      rw [cell_of_row _ _ _ _ _ _ hg, ← cflat_get (rcb_of hi) hf, ← h4, List.getElem?_take_of_lt (by omega), Array.getElem?_toList]
    exact ⟨g, cap, cur, rfl, hg, hc 0 (by omega), hc 1 (by omega), hc 2 (by omega), hc 3 (by omega)⟩
theorem RLR.set {w : World} {q P g cap : Nat} {C : List RC} (h : RLR w q (.slice (some ⟨g, 0, none⟩) C.length cap) C P) {i f : Nat} {c' : RC} (hi : i < C.length) (hf : f < 4) {x : Value} (e : c'.cells = (rcb C i).cells.set f x) : RLR (w.setCell ⟨g, i * 4 + f, none⟩ x) q (.slice (some ⟨g, 0, none⟩) C.length cap) (C.set i c') P ∧ Chg (fun b => b = g) w (w.setCell ⟨g, i * 4 + f, none⟩ x) := by
  have hgq : g ≠ q := by
    obtain ⟨cs, hc⟩ := rowCells h.ow rfl
    exact neType hc h.row (by decide)
  refine ⟨⟨(Go.heap_setCell_other _ _ _ _ (by exact fun e => hgq e.symm)).trans h.row, ?_⟩, ⟨rfl, rfl, rfl, by rw [World.size_setCell]; exact Nat.le_refl _, fun b _ hn => Go.heap_setCell_other _ _ _ _ (by exact hn)⟩⟩
  rw [List.length_set, ← cflat_set (rcb_of hi) hf e]
  refine ⟨by rw [List.length_set]; exact h.ow.1, ?_⟩
  rcases h.ow.2 with ⟨h0, _⟩ | ⟨g', cap', cur, e', h1, hg, h2, h3, h4, h5⟩
  · simp at h0
  · simp only [Value.slice.injEq, Option.some.injEq, Addr.mk.injEq] at e'
    obtain ⟨⟨rfl, -, -⟩, -, rfl⟩ := e'
    refine .inr ⟨g, cap, cur.setIfInBounds (i * 4 + f) x, rfl, h1, Go.heap_setCell_same w g (i * 4 + f) _ 74 _ hg, h2, h3, by simpa using h4, ?_⟩
    rw [← h5, Array.toList_setIfInBounds, List.take_set]
def SRes (S : LS) (key : Int) (r : Int) : Prop := (∃ s : Nat, S.ks[s]? = some key ∧ r = (s : Int)) ∨ (key ∉ S.ks ∧ r = -1)
set_option maxHeartbeats 1000000 in
theorem rSlot_any {w : World} {q P M : Nat} {cv : Value} {C : List RC} {S : LS} (h : RLR w q cv C P) (hR : Rel S C P) (hS : S.Ok M) (key : Int) :
    Calls Try.prog 27 #[.pointer (some ⟨q, 0, none⟩), .int .i64 key] w fun e w' => ∃ r, e = .returned (.int .i64 r) ∧ w' = w ∧ SRes S key r := by
  have hcl : C.length ≤ 16 := by rw [hR.len]; exact hS.s2
  have hkl : S.ks.length ≤ C.length := by rw [hR.len]; exact hS.kl
  have HAT : Hid (∀ i, i < C.length → ∃ g cap, cv = .slice (some ⟨g, 0, none⟩) C.length cap ∧ w.cell? ⟨g, i * 4, none⟩ = some (.bool (rcb C i).used) ∧ w.cell? ⟨g, i * 4 + 1, none⟩ = some (.int .i64 (rcb C i).key)) := hide fun i hi => by
    obtain ⟨g, cap, cs, q1, -, q3, q4, -⟩ := h.at hi
    exact ⟨g, cap, q1, q3, q4⟩
  have HYES : Hid (∀ i, i < S.ks.length → (rcb C i).used = true ∧ ((rcb C i).key = key → SRes S key (i : Int))) := hide fun i hi => ⟨(hR.us i hi).1, fun e => .inl ⟨i, by rw [(hR.us i hi).2.1, e], rfl⟩⟩
  have HFR : Hid (∀ i, S.ks.length ≤ i → i < C.length → (rcb C i).used = false) := hide fun i h1 h2 => hR.fr i h1 h2
  have HNO : Hid ((∀ i, i < S.ks.length → (rcb C i).key ≠ key) → SRes S key (-1)) := hide fun hn => .inr ⟨fun hm => by
    obtain ⟨s, hs⟩ := List.getElem?_of_mem hm
    have hsl := (List.getElem?_eq_some_iff.1 hs).1
    rw [(hR.us s hsl).2.1] at hs
    exact hn s hsl (Option.some.inj hs), rfl⟩
  have c0 : w.cell? ⟨q, 0, none⟩ = some cv := h.c 0
  obtain ⟨a, cap, rfl, h1, h2⟩ := h.form
  unfold maxLen at h2
  clear h hR hS
  generalize C.length = n at *
  generalize S.ks.length = nk at *
  go_enter Try.func27, Try.ntmps27
  go_wp2_with fail
  go_loopw [5] (fun x wr => ∃ i : Nat, i ≤ n ∧ x = .int .i64 (i : Int) ∧ wr = w ∧ ∀ j, j < i → j < nk → (rcb C j).key ≠ key) (fun x _ => n - (intOf x).toNat)
  case atStart => exact ⟨0, Nat.zero_le _, rfl, rfl, fun j hj => by omega⟩
  case round =>
    obtain ⟨i, hin, rfl, rfl, hno⟩ := hrel
    have HN := hide hno
    clear hno
    by_cases hlt : i < n
    · obtain ⟨g, cap', e, r0, r1⟩ := HAT.out i hlt
      simp only [Value.slice.injEq] at e
      obtain ⟨rfl, -, -⟩ := e
      by_cases hik : i < nk
      · obtain ⟨hu, hy⟩ := HYES.out i hik
        rw [hu] at r0
        by_cases hk : (rcb C i).key = key
        · have HF := hide (hy hk)
          rw [hk] at r1
          clear hk hy hu
          go_wp2_with fail
          go_ret
          exact ⟨_, rfl, rfl, HF.out⟩
        · have HNX : Hid (∀ j, j < i + 1 → j < nk → (rcb C j).key ≠ key) := hide fun j hj hj2 => by
            by_cases e : j = i
            · subst e; exact hk
            · exact HN.out j (by omega) hj2
          have b1 : ((rcb C i).key == key) = false := by simpa using hk
          clear hk hy hu
          generalize (rcb C i).key = kk at *
          go_wp2_with fail
          go_roundw
          case rel => exact ⟨i + 1, by omega, by go_num, trivial, HNX.out⟩
          case measure => simp [intOf]; omega
      · have hu := HFR.out i (by omega) hlt
        rw [hu] at r0
        have HNX : Hid (∀ j, j < i + 1 → j < nk → (rcb C j).key ≠ key) := hide fun j hj hj2 => HN.out j (by omega) hj2
        clear hu
        generalize (rcb C i).key = kk at *
        go_wp2_with fail
        go_roundw
        case rel => exact ⟨i + 1, by omega, by go_num, trivial, HNX.out⟩
        case measure => simp [intOf]; omega
    · have HF := hide (HNO.out fun j hj => HN.out j (by omega) hj)
      go_wp2_with fail
      go_ret
      exact ⟨_, rfl, rfl, HF.out⟩
def IRes (S : LS) (r : Int) : Prop := (∃ (s : Nat) (t : List Nat), S.idle = s :: t ∧ r = (s : Int)) ∨ (S.idle = [] ∧ r = -1)
/-- the best of the first i slots -/
def RBest (S : LS) (C : List RC) (i : Nat) (b : Int) : Prop := (b = -1 ∧ ∀ s ∈ S.idle, ¬ s < i) ∨ ∃ k : Nat, b = (k : Int) ∧ k < i ∧ k ∈ S.idle ∧ ∀ s ∈ S.idle, s < i → (rcb C k).given ≤ (rcb C s).given
theorem RBest.fin {S : LS} {C : List RC} {P M : Nat} (hR : Rel S C P) (hS : S.Ok M) {b : Int} (h : RBest S C C.length b) : IRes S b := by
  have hlt : ∀ s ∈ S.idle, s < C.length := fun s hs => by have := hS.idle_lt hs; have := hS.kl; rw [hR.len]; omega
  rcases h with ⟨rfl, h1⟩ | ⟨k, rfl, h1, h2, h3⟩
  · refine .inr ⟨?_, rfl⟩
    cases he : S.idle with
    | nil => rfl
    | cons s r => exact absurd (hlt s (by rw [he]; simp)) (h1 s (by rw [he]; simp))
  · refine .inl ?_
    cases he : S.idle with
    | nil => rw [he] at h2; cases h2
    | cons s r =>
      refine ⟨s, r, rfl, ?_⟩
      rw [he] at h2
      rcases List.mem_cons.1 h2 with rfl | h2
      · rfl
      · have hp := hR.od
        rw [he] at hp
        have h4 := (List.pairwise_cons.1 hp).1 k h2
        have h5 := h3 s (by rw [he]; simp) (hlt s (by rw [he]; simp))
        omega
set_option maxHeartbeats 2000000 in
theorem rIdle_any {w : World} {q P M : Nat} {cv : Value} {C : List RC} {S : LS} (h : RLR w q cv C P) (hR : Rel S C P) (hS : S.Ok M) :
    Calls Try.prog 54 #[.pointer (some ⟨q, 0, none⟩)] w fun e w' => ∃ r, e = .returned (.int .i64 r) ∧ Below w.heap.size w w' ∧ IRes S r := by
  have hcl : C.length ≤ 16 := by rw [hR.len]; exact hS.s2
  have hkl : S.ks.length ≤ C.length := by rw [hR.len]; exact hS.kl
  have HAT : Hid (∀ x, Below w.heap.size w x → ∀ i, i < C.length → ∃ g cap, cv = .slice (some ⟨g, 0, none⟩) C.length cap ∧ x.cell? ⟨g, i * 4, none⟩ = some (.bool (rcb C i).used) ∧ x.cell? ⟨g, i * 4 + 1, none⟩ = some (.int .i64 (rcb C i).key) ∧ x.cell? ⟨g, i * 4 + 2, none⟩ = some (.int .i64 ((rcb C i).refs : Int)) ∧ x.cell? ⟨g, i * 4 + 3, none⟩ = some (.int .i64 ((rcb C i).given : Int))) := hide fun x hx i hi => by
    obtain ⟨g, cap, cs, q1, -, q3, q4, q5, q6⟩ := (h.below hx).at hi
    exact ⟨g, cap, q1, q3, q4, q5, q6⟩
  have HC0 : Hid (∀ x, Below w.heap.size w x → x.cell? ⟨q, 0, none⟩ = some cv) := hide fun x hx => (h.below hx).c 0
  have HFIN : Hid (∀ b, RBest S C C.length b → IRes S b) := hide fun b hb => hb.fin hR hS
  have HID : Hid (∀ i, i < C.length → (i ∈ S.idle → (rcb C i).used = true ∧ (rcb C i).refs = 0) ∧ (i ∉ S.idle → (rcb C i).used = false ∨ ((rcb C i).used = true ∧ (rcb C i).refs ≠ 0))) := hide fun i hi => ⟨fun hm => by
      have hk := hS.idle_lt hm
      have h3 := (hR.us i hk).2.2
      rw [(hS.im i).1 hm] at h3
      exact ⟨(hR.us i hk).1, (Option.some.inj h3).symm⟩, fun hm => by
      by_cases hk : i < S.ks.length
      · refine .inr ⟨(hR.us i hk).1, fun e => hm ((hS.im i).2 ?_)⟩
        rw [(hR.us i hk).2.2, e]
      · exact .inl (hR.fr i (by omega) hi)⟩
  have HST : Hid (RBest S C 0 (-1)) := hide (.inl ⟨rfl, fun s _ => by omega⟩)
  obtain ⟨a, cap, rfl, h1, h2⟩ := h.form
  unfold maxLen at h2
  clear h hR hS hkl
  generalize C.length = n at *
  go_enter Try.func54, Try.ntmps54
  go_wp2_with fail
  go_loopw [3, 4] (fun y x wr => ∃ (i : Nat) (b : Int), i ≤ n ∧ x = .int .i64 (i : Int) ∧ y = .int .i64 b ∧ Below w.heap.size w wr ∧ RBest S C i b) (fun _ x _ => n - (intOf x).toNat)
  case atStart => exact ⟨0, -1, Nat.zero_le _, rfl, rfl, Below.refl _ _, HST.out⟩
  case round =>
    clear HST
    obtain ⟨i, b, hin, rfl, rfl, hbe, hbest⟩ := hrel
    have HBE := hide hbe
    have HB := hide hbest
    have c0 := HC0.out wr hbe
    clear hbest
    by_cases hlt : i < n
    · obtain ⟨g, cap', e, r0, r1, r2, r3⟩ := HAT.out wr hbe i hlt
      simp only [Value.slice.injEq] at e
      obtain ⟨rfl, -, -⟩ := e
      obtain ⟨hi1, hi2⟩ := HID.out i hlt
      have HBX : Hid (∀ o m, Below w.heap.size w ((wr.alloc o).drewN m)) := hide fun o m => HBE.out.trans ((below_drewN ((Below.refl wr.heap.size wr).alloc (Nat.le_refl _) o) m).mono HBE.out.size)
      have hca : ∀ o, (wr.alloc o).cell? ⟨q, 0, none⟩ = some (.slice (some ⟨g, 0, none⟩) n cap) := fun o => HC0.out _ (HBE.out.trans (((Below.refl wr.heap.size wr).alloc (Nat.le_refl _) o).mono HBE.out.size))
      by_cases hm : i ∈ S.idle
      · obtain ⟨hu, hr⟩ := hi1 hm
        rw [hu] at r0
        rw [hr] at r2
        rcases HB.out with ⟨rfl, hno⟩ | ⟨k, rfl, hk1, hk2, hk3⟩
        · have HN : Hid (RBest S C (i + 1) (i : Int)) := hide (.inr ⟨i, rfl, by omega, hm, fun s hs hsi => by
            by_cases e : s = i
            · subst e; exact Nat.le_refl _
            · exact absurd (show s < i by omega) (hno s hs)⟩)
          clear hno hm hi1 hi2 hu hr HB hbe
          generalize (rcb C i).given = gv at *
          generalize (rcb C i).key = kk at *
          have c1 := hca (.cells #[.bool true, .int .i64 kk, .int .i64 0, .int .i64 (gv : Int)] 74)
          clear hca
          go_wp2_with fail
          go_quiet (fail)
          go_wp2_with fail
          go_roundw
          case rel => exact ⟨i + 1, i, by omega, by go_num, rfl, HBX.out _ _, HN.out⟩
          case measure => simp [intOf]; omega
        · have hkn : k < n := by omega
          have hcb : ∀ o, (wr.alloc o).cell? ⟨g, k * 4 + 3, none⟩ = some (.int .i64 ((rcb C k).given : Int)) := fun o => by
            obtain ⟨g', cap'', e', s0, s1, s2, s3⟩ := HAT.out _ (HBE.out.trans (((Below.refl wr.heap.size wr).alloc (Nat.le_refl _) o).mono HBE.out.size)) k hkn
            simp only [Value.slice.injEq, Option.some.injEq, Addr.mk.injEq] at e'
            obtain ⟨⟨rfl, -, -⟩, -, -⟩ := e'
            exact s3
          have bk0 : ((k : Int) < 0) = False := by simp
          by_cases hlt2 : (rcb C i).given < (rcb C k).given
          · have HN : Hid (RBest S C (i + 1) (i : Int)) := hide (.inr ⟨i, rfl, by omega, hm, fun s hs hsi => by
              by_cases e : s = i
              · subst e; exact Nat.le_refl _
              · have := hk3 s hs (by omega); omega⟩)
            clear hk2 hk3 hm hi1 hi2 hu hr HB hbe
            generalize (rcb C i).given = gv at *
            generalize (rcb C i).key = kk at *
            generalize (rcb C k).given = gk at *
            have c1 := hca (.cells #[.bool true, .int .i64 kk, .int .i64 0, .int .i64 (gv : Int)] 74)
            have c2 := hcb (.cells #[.bool true, .int .i64 kk, .int .i64 0, .int .i64 (gv : Int)] 74)
            clear hca hcb
            go_wp2_with fail
            go_quiet (fail)
            go_wp2_with fail
            go_roundw
            case rel => exact ⟨i + 1, i, by omega, by go_num, rfl, HBX.out _ _, HN.out⟩
            case measure => simp [intOf]; omega
          · have HN : Hid (RBest S C (i + 1) (k : Int)) := hide (.inr ⟨k, rfl, by omega, hk2, fun s hs hsi => by
              by_cases e : s = i
              · subst e; omega
              · exact hk3 s hs (by omega)⟩)
            clear hk2 hk3 hm hi1 hi2 hu hr HB hbe
            generalize (rcb C i).given = gv at *
            generalize (rcb C i).key = kk at *
            generalize (rcb C k).given = gk at *
            have c1 := hca (.cells #[.bool true, .int .i64 kk, .int .i64 0, .int .i64 (gv : Int)] 74)
            have c2 := hcb (.cells #[.bool true, .int .i64 kk, .int .i64 0, .int .i64 (gv : Int)] 74)
            clear hca hcb
            go_wp2_with fail
            go_quiet (fail)
            go_wp2_with fail
            go_roundw
            case rel => exact ⟨i + 1, k, by omega, by go_num, rfl, HBX.out _ _, HN.out⟩
            case measure => simp [intOf]; omega
      · have HN : Hid (RBest S C (i + 1) b) := hide (by
          rcases HB.out with ⟨e, hno⟩ | ⟨k, e, hk1, hk2, hk3⟩
          · exact .inl ⟨e, fun s hs hsi => by
              by_cases es : s = i
              · subst es; exact hm hs
              · exact hno s hs (by omega)⟩
          · exact .inr ⟨k, e, by omega, hk2, fun s hs hsi => by
              by_cases es : s = i
              · subst es; exact absurd hs hm
              · exact hk3 s hs (by omega)⟩)
        rcases hi2 hm with hu | ⟨hu, hr⟩
        · rw [hu] at r0
          clear hm hi1 hi2 hu HB hbe
          generalize (rcb C i).given = gv at *
          generalize (rcb C i).key = kk at *
          generalize (rcb C i).refs = rr at *
          go_wp2_with fail
          go_quiet (fail)
          go_wp2_with fail
          go_roundw
          case rel => exact ⟨i + 1, b, by omega, by go_num, rfl, HBX.out _ _, HN.out⟩
          case measure => simp [intOf]; omega
        · rw [hu] at r0
          clear hm hi1 hi2 hu HB hbe
          generalize (rcb C i).given = gv at *
          generalize (rcb C i).key = kk at *
          generalize (rcb C i).refs = rr at *
          have b1 : ((rr : Int) == 0) = false := by simp; omega
          clear hr
          go_wp2_with fail
          go_quiet (fail)
          go_wp2_with fail
          go_roundw
          case rel => exact ⟨i + 1, b, by omega, by go_num, rfl, HBX.out _ _, HN.out⟩
          case measure => simp [intOf]; omega
    · have ei : i = n := by omega
      subst ei
      have HF := hide (HFIN.out b HB.out)
      go_wp2_with fail
      go_ret
      exact ⟨_, rfl, HBE.out, HF.out⟩
end Go.Proofs.Ythkkinmegileaaa
