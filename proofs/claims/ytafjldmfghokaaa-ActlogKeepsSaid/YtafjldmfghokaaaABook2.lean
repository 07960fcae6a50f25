import Derived.Test.YtafjldmfghokaaaABook
namespace Go.Proofs.Ytafjldmfghokaaa
open Go.RowKit Go.Sort
set_option linter.unusedVariables false
set_option linter.unusedSimpArgs false
set_option maxRecDepth 20000

/-- nothing but the tape's place has turned -/
def Qt (w w' : World) : Prop := w'.heap = w.heap ∧ Below w.heap.size w w'
theorem Qt.refl (w : World) : Qt w w := ⟨rfl, Below.refl _ _⟩
theorem Qt.drewN {w w1 : World} (h : Qt w w1) : ∀ n, Qt w (w1.drewN n)
  | 0 => h
  | n + 1 => ⟨(Qt.drewN h n).1, (Qt.drewN h n).2.drew⟩
theorem Qt.trans {a b c : World} (h : Qt a b) (k : Qt b c) : Qt a c := ⟨k.1.trans h.1, h.2.trans (k.2.mono h.2.size)⟩
theorem Qt.cell {w w' : World} (h : Qt w w') (a : Addr) : w'.cell? a = w.cell? a := World.cell?_of_block (by rw [h.1])
def ub (L : List Us) (i : Nat) : Us := L.getD i ⟨0, 0, 0, 0⟩
theorem ub_of {L : List Us} {i : Nat} (h : i < L.length) : L[i]? = some (ub L i) := by simp [ub, List.getD, h]
/-- the best up to line i -/
def Best (L : List Us) (i : Nat) (b : Int) : Prop := (b = -1 ∧ ∀ j, j < i → (ub L j).got ≠ (ub L j).back) ∨ ∃ k : Nat, b = (k : Int) ∧ k < i ∧ (ub L k).got = (ub L k).back ∧ ∀ j, j < i → (ub L j).got = (ub L j).back → (ub L k).at_ ≤ (ub L j).at_
def ORes (L : List Us) (k : Int) (some' : Bool) : Prop := (some' = true ∧ ∃ u ∈ L, u.got = u.back ∧ k = u.key ∧ ∀ v ∈ L, v.got = v.back → u.at_ ≤ v.at_) ∨ (some' = false ∧ k = 0 ∧ ∀ u ∈ L, u.got ≠ u.back)
theorem all_ub {L : List Us} {p : Us → Prop} (h : ∀ j, j < L.length → p (ub L j)) : ∀ u ∈ L, p u := fun u hu => by
  obtain ⟨i, hi⟩ := List.getElem?_of_mem hu
  have hil := (List.getElem?_eq_some_iff.1 hi).1
  have := h i hil
  rw [ub_of hil] at hi
  rwa [Option.some.inj hi] at this
set_option maxHeartbeats 2000000 in
theorem oldest_any {base : Nat} {w : World} {v : Value} {L : List Us} (h : BkR base w v L) (hl : L.length ≤ 17) :
    Calls Try.prog 15 #[v] w fun e w' => ∃ k s, e = .returned (.tuple #[.int .i64 k, .bool s]) ∧ Qt w w' ∧ ORes L k s := by
  have HAT : Hid (∀ x, Qt w x → ∀ i, i < L.length → ∃ g cap, v = .slice (some ⟨g, 0, none⟩) L.length cap ∧ x.cell? ⟨g, i * 4, none⟩ = some (.int .i64 (ub L i).key) ∧ x.cell? ⟨g, i * 4 + 1, none⟩ = some (.int .i64 ((ub L i).got : Int)) ∧ x.cell? ⟨g, i * 4 + 2, none⟩ = some (.int .i64 ((ub L i).back : Int)) ∧ x.cell? ⟨g, i * 4 + 3, none⟩ = some (.int .i64 ((ub L i).at_ : Int))) := hide fun x hx i hi => by
    obtain ⟨g, cap, cs, q1, q2, q3, q4, q5, q6, q7⟩ := h.at (ub_of hi)
    exact ⟨g, cap, q1, by rw [hx.cell]; exact q4, by rw [hx.cell]; exact q5, by rw [hx.cell]; exact q6, by rw [hx.cell]; exact q7⟩
  have HSOME : Hid (∀ k : Nat, Best L L.length (k : Int) → k < L.length ∧ ORes L (ub L k).key true) := hide fun k hk => by
    rcases hk with ⟨e, _⟩ | ⟨k', e, h1, h2, h3⟩
    · omega
    · have : k' = k := by omega
      subst this
      exact ⟨h1, .inl ⟨rfl, ub L k', List.mem_of_getElem? (ub_of h1), h2, rfl, all_ub h3⟩⟩
  have HNONE : Hid (Best L L.length (-1) → ORes L 0 false) := hide fun hk => by
    rcases hk with ⟨_, h1⟩ | ⟨k', e, _⟩
    · exact .inr ⟨rfl, rfl, all_ub h1⟩
    · omega
  obtain ⟨a, cap, rfl, h1, h2⟩ := h.form
  unfold maxLen at h2
  clear h
  generalize hn : L.length = n at *
  clear hn
  go_enter Try.func15, Try.ntmps15
  go_wp2_with fail
  go_loopw [4, 5] (fun y x wr => ∃ (i : Nat) (b : Int), i ≤ n ∧ x = .int .i64 (i : Int) ∧ y = .int .i64 b ∧ Qt w wr ∧ Best L i b) (fun _ x _ => n - (intOf x).toNat)
  case atStart => exact ⟨0, -1, Nat.zero_le _, rfl, rfl, Qt.refl _, .inl ⟨rfl, fun j hj => by omega⟩⟩
  case round =>
    obtain ⟨i, b, hin, rfl, rfl, hq, hbest⟩ := hrel
    have HQ := hide hq
    have HB := hide hbest
    clear hq hbest
    by_cases hlt : i < n
    · obtain ⟨g, cap', e, r0, r1, r2, r3⟩ := HAT.out _ HQ.out i hlt
      simp only [Value.slice.injEq] at e
      obtain ⟨rfl, -, -⟩ := e
      by_cases heq : (ub L i).got = (ub L i).back
      · rcases HB.out with ⟨rfl, hno⟩ | ⟨k, rfl, hk1, hk2, hk3⟩
        · have HN : Hid (Best L (i + 1) (i : Int)) := hide (.inr ⟨i, rfl, by omega, heq, fun j hj e => by
            by_cases ej : j = i
            · subst ej; exact Nat.le_refl _
            · exact absurd e (hno j (by omega))⟩)
          rw [heq] at r1
          clear hno heq HB
          generalize (ub L i).back = bk at *
          generalize (ub L i).at_ = tt at *
          go_wp2_with fail
          go_quiet (fail)
          go_wp2_with fail
          go_roundw
          case rel => exact ⟨i + 1, i, by omega, by go_num, rfl, HQ.out.drewN _, HN.out⟩
          case measure => simp [intOf]; omega
        · obtain ⟨g', cap'', e', s0, s1, s2, s3⟩ := HAT.out _ HQ.out k (by omega)
          simp only [Value.slice.injEq, Option.some.injEq, Addr.mk.injEq] at e'
          obtain ⟨⟨rfl, -, -⟩, -, -⟩ := e'
          have bk0 : ((k : Int) < 0) = False := by simp
          by_cases hlt2 : (ub L i).at_ < (ub L k).at_
          · have HN : Hid (Best L (i + 1) (i : Int)) := hide (.inr ⟨i, rfl, by omega, heq, fun j hj e => by
              by_cases ej : j = i
              · subst ej; exact Nat.le_refl _
              · have := hk3 j (by omega) e; omega⟩)
            rw [heq] at r1
            clear hk2 hk3 heq HB s0 s1 s2
            generalize (ub L i).back = bk at *
            generalize (ub L i).at_ = tt at *
            generalize (ub L k).at_ = tk at *
            go_wp2_with fail
            go_quiet (fail)
            go_wp2_with fail
            go_roundw
            case rel => exact ⟨i + 1, i, by omega, by go_num, rfl, HQ.out.drewN _, HN.out⟩
            case measure => simp [intOf]; omega
          · have HN : Hid (Best L (i + 1) (k : Int)) := hide (.inr ⟨k, rfl, by omega, hk2, fun j hj e => by
              by_cases ej : j = i
              · subst ej; omega
              · exact hk3 j (by omega) e⟩)
            rw [heq] at r1
            clear hk2 hk3 heq HB s0 s1 s2
            generalize (ub L i).back = bk at *
            generalize (ub L i).at_ = tt at *
            generalize (ub L k).at_ = tk at *
            go_wp2_with fail
            go_quiet (fail)
            go_wp2_with fail
            go_roundw
            case rel => exact ⟨i + 1, k, by omega, by go_num, rfl, HQ.out.drewN _, HN.out⟩
            case measure => simp [intOf]; omega
      · have HN : Hid (Best L (i + 1) b) := hide (by
          rcases HB.out with ⟨e, hno⟩ | ⟨k, e, hk1, hk2, hk3⟩
          · exact .inl ⟨e, fun j hj => by
              by_cases ej : j = i
              · subst ej; exact heq
              · exact hno j (by omega)⟩
          · exact .inr ⟨k, e, by omega, hk2, fun j hj e => by
              by_cases ej : j = i
              · subst ej; exact absurd e heq
              · exact hk3 j (by omega) e⟩)
        have b1 : (((ub L i).got : Int) == ((ub L i).back : Int)) = false := by simp; omega
        clear heq HB
        generalize (ub L i).back = bk at *
        generalize (ub L i).got = gt at *
        go_wp2_with fail
        go_quiet (fail)
        go_wp2_with fail
        go_roundw
        case rel => exact ⟨i + 1, b, by omega, by go_num, rfl, HQ.out.drewN _, HN.out⟩
        case measure => simp [intOf]; omega
    · have ei : i = n := by omega
      subst ei
      have hcase : b = -1 ∨ ∃ k : Nat, b = (k : Int) := by
        rcases HB.out with ⟨e, _⟩ | ⟨k, e, _⟩
        · exact .inl e
        · exact .inr ⟨k, e⟩
      rcases hcase with rfl | ⟨k, rfl⟩
      · have HF := hide (HNONE.out HB.out)
        go_wp2_with fail
        go_ret2
        exact ⟨_, _, rfl, HQ.out, HF.out⟩
      · obtain ⟨hkn, hor⟩ := HSOME.out k HB.out
        have HF := hide hor
        obtain ⟨g, cap', e, r0, -⟩ := HAT.out _ HQ.out k hkn
        simp only [Value.slice.injEq] at e
        obtain ⟨rfl, -, -⟩ := e
        clear hor
        generalize (ub L k).key = kk at *
        go_wp2_with fail
        go_ret2
        exact ⟨_, _, rfl, HQ.out, HF.out⟩
end Go.Proofs.Ytafjldmfghokaaa
