import Derived.Test.YthkkinmegileaaaARef5
namespace Go.Proofs.Ythkkinmegileaaa
open Go.RowKit Go.Sort
set_option linter.unusedVariables false
set_option linter.unusedSimpArgs false
set_option maxRecDepth 20000

/-- what the document's Keys has laid: the keys of some slots -/
def ROut (w wr : World) (v : Value) (C : List RC) (l : List Nat) : Prop := wr.ownsRow 0 3 1 v l.length (l.map (fun s => Value.int .i64 (rkey C s))) ∧ Below w.heap.size w wr ∧ ∀ b, v.ownBlock = some b → w.heap.size ≤ b
theorem ROut.form {w wr : World} {v : Value} {C : List RC} {l : List Nat} (h : ROut w wr v C l) : ∃ a cap, v = .slice a l.length cap ∧ l.length ≤ cap ∧ cap ≤ maxLen := by
  obtain ⟨a, cap, e, h1, h2⟩ := rowForm h.1
  exact ⟨a, cap, e, h1, h2⟩
theorem ROut.later {w wr w2 : World} {v : Value} {C : List RC} {l : List Nat} (h : ROut w wr v C l) (hb : Below wr.heap.size wr w2) : ROut w w2 v C l :=
  ⟨rowKept h.1 fun g e => hb.block g (h.1.lt g e).2, h.2.1.trans (hb.mono h.2.1.size), h.2.2⟩
theorem ROut.more {w wr w4 : World} {v v' : Value} {C : List RC} {l : List Nat} {s : Nat} {o : Obj} (h : ROut w wr v C l) (ho : w4.ownsRow 0 3 1 v' (l.length + 1) (l.map (fun s => Value.int .i64 (rkey C s)) ++ [.int .i64 (rkey C s)])) (hu : Upon (wr.alloc o) w4 v v') : ROut w w4 v' C (l ++ [s]) := by
  obtain ⟨h1, h2, h3⟩ := keys_step (zs := (l ++ [s]).map (fun s => Value.int .i64 (rkey C s))) ho hu h.2.1 h.2.2 (by rw [List.map_append]; rfl)
  exact ⟨by rw [List.length_append]; exact h1, h2, h3⟩
theorem rseen_yes {S : LS} {C : List RC} {t i : Nat} (h : (rcb C i).used = true ∧ (rcb C i).refs = 0 ∧ (rcb C i).given = t) : rseen S C t (i + 1) = rseen S C t i ++ [i] := by
  rw [rseen_succ, if_pos]
  unfold rcand
  simp [h.1, h.2.1, h.2.2]
theorem rseen_no {S : LS} {C : List RC} {t i : Nat} (h : ¬ ((rcb C i).used = true ∧ (rcb C i).refs = 0 ∧ (rcb C i).given = t)) : rseen S C t (i + 1) = rseen S C t i := by
  rw [rseen_succ, if_neg]
  unfold rcand
  simp only [Bool.and_eq_true, decide_eq_true_eq]
  rintro ⟨⟨e1, e2⟩, e3⟩
  exact h ⟨e1, e2, e3⟩
theorem rbusy_yes {C : List RC} {i : Nat} (h : (rcb C i).used = true ∧ 0 < (rcb C i).refs) : rbusy C (i + 1) = rbusy C i ++ [i] := by
  rw [rbusy_succ, if_pos]
  simp [h.1, h.2]
theorem rbusy_no {C : List RC} {i : Nat} (h : ¬ ((rcb C i).used = true ∧ 0 < (rcb C i).refs)) : rbusy C (i + 1) = rbusy C i := by
  rw [rbusy_succ, if_neg]
  simp only [Bool.and_eq_true, decide_eq_true_eq]
  exact h
set_option maxHeartbeats 2000000 in
theorem rKeys_any {w : World} {q P M : Nat} {cv : Value} {C : List RC} {S : LS} (h : RLR w q cv C P) (hR : Rel S C P) (hS : S.Ok M) (hP : P ≤ 4611686018427387904) :
    Calls Try.prog 29 #[.pointer (some ⟨q, 0, none⟩)] w fun e w' => ∃ v, e = .returned v ∧ w'.ownsRow 0 3 1 v S.keys.length (S.keys.map iV) ∧ Below w.heap.size w w' ∧ ∀ b, v.ownBlock = some b → w.heap.size ≤ b := by
  obtain ⟨i0, hi, hz0, hz1, hz2⟩ := info_parts info_int
  have hcl : C.length ≤ 16 := by rw [hR.len]; exact hS.s2
  have HRL : Hid (∀ x, Below w.heap.size w x → RLR x q cv C P) := hide fun x hx => h.below hx
  have HFIRST := hide (rseen_first hR)
  have HLAST := hide (rseen_last hR)
  have HNEXT := hide (rseen_next hR hS)
  have HSL : Hid (∀ t i, (rseen S C t i).length ≤ 16 + i) := hide fun t i => rseen_len (P := P) hS t i
  have HIL : Hid (S.idle.length ≤ 16) := hide (by have := nodup_bound hS.id fun x hx => hS.idle_lt hx; have := hS.kl; have := hS.s2; omega)
  have HFIN : Hid (∀ wr v, ROut w wr v C (S.idle ++ rbusy C C.length) → wr.ownsRow 0 3 1 v S.keys.length (S.keys.map iV) ∧ Below w.heap.size w wr ∧ ∀ b, v.ownBlock = some b → w.heap.size ≤ b) := hide fun wr v hv => by
    have e := rkeys_eq hR hS
    refine ⟨?_, hv.2.1, hv.2.2⟩
    rw [← e, List.map_map, List.length_map]
    exact hv.1
  have c1 : w.cell? ⟨q, 1, none⟩ = some (.int .i64 (P : Int)) := h.c 1
  have HT0 : Hid (ROut w w (.slice none 0 0) C (rseen S C 1 0)) := hide (by rw [HFIRST.out]; exact ⟨⟨rfl, .inl ⟨rfl, rfl⟩⟩, Below.refl _ _, fun b e => by simp [Value.ownBlock] at e⟩)
  obtain ⟨a, cap, rfl, h1, h2⟩ := h.form
  unfold maxLen at h2
  have HAT : Hid (∀ x, Below w.heap.size w x → x.cell? ⟨q, 0, none⟩ = some (.slice a C.length cap) ∧ x.cell? ⟨q, 1, none⟩ = some (.int .i64 (P : Int)) ∧ ∀ i, i < C.length → ∃ g, a = some ⟨g, 0, none⟩ ∧ x.cell? ⟨g, i * 4, none⟩ = some (.bool (rcb C i).used) ∧ x.cell? ⟨g, i * 4 + 1, none⟩ = some (.int .i64 (rkey C i)) ∧ x.cell? ⟨g, i * 4 + 2, none⟩ = some (.int .i64 ((rcb C i).refs : Int)) ∧ x.cell? ⟨g, i * 4 + 3, none⟩ = some (.int .i64 ((rcb C i).given : Int))) := hide fun x hx => ⟨(h.below hx).c 0, (h.below hx).c 1, fun i hi => by
    obtain ⟨g, cap, cs, q1, q2, q3, q4, q5, q6⟩ := (h.below hx).at hi
    simp only [Value.slice.injEq] at q1
    exact ⟨g, q1.1, q3, q4, q5, q6⟩⟩
  have HBL := hide (rbusy_len C)
  clear HFIRST HRL h hR hS
  generalize hnn : C.length = n at *
  clear hnn
  go_enter Try.func29, Try.ntmps29
  go_wp2_with fail
  clear c1
  go_loopw [3, 4] (fun lv x wr => ∃ t : Nat, 1 ≤ t ∧ t ≤ P + 1 ∧ x = .int .i64 (t : Int) ∧ ROut w wr lv C (rseen S C t 0)) (fun _ x _ => P + 2 - (intOf x).toNat)
  case atStart => exact ⟨1, by omega, by omega, rfl, HT0.out⟩
  case round =>
    clear HT0
    obtain ⟨t, ht1, htP, rfl, hro⟩ := hrel
    have HO := hide hro
    obtain ⟨-, c1, -⟩ := HAT.out wr hro.2.1
    clear hro
    by_cases htl : t ≤ P
    · have HNX := hide (HNEXT.out t)
      clear HLAST HNEXT HFIN HBL
      go_wp2_with fail
      go_loopw [3, 5] (fun lv x wr => ∃ i : Nat, i ≤ n ∧ x = .int .i64 (i : Int) ∧ ROut w wr lv C (rseen S C t i)) (fun _ x _ => n - (intOf x).toNat)
      case atStart => exact ⟨0, Nat.zero_le _, rfl, HO.out⟩
      case round =>
        clear HO c1
        obtain ⟨i, hin, rfl, hro⟩ := hrel
        have HO := hide hro
        obtain ⟨c0, -, hat⟩ := HAT.out wr hro.2.1
        have HXX := hide hat
        clear hat
        obtain ⟨al, cl, rfl, hl1, hl2⟩ := hro.form
        unfold maxLen at hl2
        clear hro
        by_cases hlt : i < n
        · obtain ⟨g, rfl, r0, r1, r2, r3⟩ := HXX.out i hlt
          have hsl := HSL.out t i
          clear HXX HAT HSL HNX
          by_cases hc : (rcb C i).used = true ∧ (rcb C i).refs = 0 ∧ (rcb C i).given = t
          · have HSS := hide (rseen_yes (S := S) hc)
            obtain ⟨e1, e2, e3⟩ := hc
            rw [e1] at r0
            rw [e2] at r2
            rw [e3] at r3
            clear e1 e2 e3
            have HOO : Hid (∀ o, ROut w (wr.alloc o) (.slice al (rseen S C t i).length cl) C (rseen S C t i)) := hide fun o => HO.out.later ((Below.refl _ _).alloc (Nat.le_refl _) o)
            have HO2 := hide (HOO.out (.cells #[.bool true, .int .i64 (rkey C i), .int .i64 0, .int .i64 (t : Int)] 74))
            have o3 := HO2.out.1.alloc (.cells #[.int .i64 (rkey C i)] 3)
            have HMORE : Hid (∀ v' w4, w4.ownsRow 0 3 1 v' ((rseen S C t i).length + 1) ((rseen S C t i).map (fun s => Value.int .i64 (rkey C s)) ++ [.int .i64 (rkey C i)]) → Upon (((wr.alloc (.cells #[.bool true, .int .i64 (rkey C i), .int .i64 0, .int .i64 (t : Int)] 74)).alloc (.cells #[.int .i64 (rkey C i)] 3))) w4 (.slice al (rseen S C t i).length cl) v' → ROut w w4 v' C (rseen S C t (i + 1))) := hide fun v' w4 y1 y2 => by
              rw [HSS.out]; exact HO2.out.more y1 y2
            clear HO HO2 HOO HSS
            generalize (rseen S C t i).length = ll at *
            generalize (rseen S C t i).map (fun s => Value.int .i64 (rkey C s)) = xs at *
            generalize rkey C i = key at *
            go_wp2_with (at_builtin; refine wpList_append1 _ rfl (.tmp 45) (.tmp 48) 67 rfl 3 i0 (.int .i64 0) 8 Try.underlying67 hi hz0 hz1 hz2 rfl _ _ _ rfl o3 ⟨wr.heap.size + 1, 0, none⟩ 1 (.int .i64 key) rfl (by have := cell_one_new (wr.alloc (.cells #[.bool true, .int .i64 key, .int .i64 0, .int .i64 (t : Int)] 74)) (.int .i64 key) 3; rw [World.size_alloc] at this; exact this) rfl (by unfold maxLen; omega) (by omega) ?_)
            intro v' w4 ho4 hup4
            have HN := hide (HMORE.out v' w4 ho4 (by unfold Upon; rw [World.size_alloc, World.size_alloc]; exact hup4))
            clear HMORE o3 ho4 hup4 c0 r0 r1 r2 r3
            go_wp2_with fail
            go_roundw
            case rel => exact ⟨i + 1, by omega, by go_num, HN.out⟩
            case measure => simp [intOf]; omega
          · have HN : Hid (∀ o, ROut w (wr.alloc o) (.slice al (rseen S C t i).length cl) C (rseen S C t (i + 1))) := hide fun o => by
              rw [rseen_no hc]
              exact HO.out.later ((Below.refl _ _).alloc (Nat.le_refl _) o)
            clear HO
            generalize (rseen S C t i).length = ll at *
            generalize rkey C i = key at *
            cases hu : (rcb C i).used with
            | false =>
              rw [hu] at r0
              clear hc hu
              generalize (rcb C i).refs = rr at *
              generalize (rcb C i).given = gg at *
              go_wp2_with fail
              go_roundw
              case rel => exact ⟨i + 1, by omega, by go_num, HN.out _⟩
              case measure => simp [intOf]; omega
            | true =>
              rw [hu] at r0
              by_cases e2 : (rcb C i).refs = 0
              · have e3 : ¬ (rcb C i).given = t := fun e3 => hc ⟨hu, e2, e3⟩
                have b3 : (((rcb C i).given : Int) == (t : Int)) = false := by simp; omega
                rw [e2] at r2
                clear hc hu e2 e3
                generalize (rcb C i).given = gg at *
                go_wp2_with fail
                go_roundw
                case rel => exact ⟨i + 1, by omega, by go_num, HN.out _⟩
                case measure => simp [intOf]; omega
              · have b3 : (((rcb C i).refs : Int) == 0) = false := by simp; omega
                clear hc hu e2
                generalize (rcb C i).refs = rr at *
                generalize (rcb C i).given = gg at *
                go_wp2_with fail
                go_roundw
                case rel => exact ⟨i + 1, by omega, by go_num, HN.out _⟩
                case measure => simp [intOf]; omega
        · have ei : i = n := by omega
          subst ei
          have HN : Hid (ROut w wr (.slice al (rseen S C t i).length cl) C (rseen S C (t + 1) 0)) := hide (by rw [HNX.out]; exact HO.out)
          clear HO HXX HAT HSL HNX
          generalize (rseen S C t i).length = ll at *
          go_wp2_with fail
          go_roundw
          case rel => exact ⟨t + 1, by omega, by omega, by go_num, HN.out⟩
          case measure => simp [intOf]; omega
    · have et : t = P + 1 := by omega
      have hl := HLAST.out
      rw [← et] at hl
      rw [hl] at HO
      clear hl
      have bt : ((t : Int) ≤ (P : Int)) = False := by simp; omega
      have HT := hide (show ROut w wr _ C (S.idle ++ rbusy C 0) from by
        have : rbusy C 0 = [] := rfl
        rw [this, List.append_nil]; exact HO.out)
      clear HO HLAST HNEXT HSL htl htP ht1 et
      go_wp2_with fail
      clear c1 bt hP
      go_loopw [3, 7] (fun lv x wr => ∃ i : Nat, i ≤ n ∧ x = .int .i64 (i : Int) ∧ ROut w wr lv C (S.idle ++ rbusy C i)) (fun _ x _ => n - (intOf x).toNat)
      case atStart => exact ⟨0, Nat.zero_le _, rfl, HT.out⟩
      case round =>
        clear HT
        obtain ⟨i, hin, rfl, hro⟩ := hrel
        have HO := hide hro
        obtain ⟨c0, -, hat⟩ := HAT.out wr hro.2.1
        have HXX := hide hat
        clear hat
        obtain ⟨al, cl, rfl, hl1, hl2⟩ := hro.form
        unfold maxLen at hl2
        clear hro
        by_cases hlt : i < n
        · obtain ⟨g, rfl, r0, r1, r2, r3⟩ := HXX.out i hlt
          have hsl : (S.idle ++ rbusy C i).length ≤ 16 + i := by have := HIL.out; have := HBL.out i; rw [List.length_append]; omega
          clear HXX HAT HBL HIL HFIN r3
          by_cases hc : (rcb C i).used = true ∧ 0 < (rcb C i).refs
          · have HSS : Hid (S.idle ++ rbusy C (i + 1) = (S.idle ++ rbusy C i) ++ [i]) := hide (by rw [rbusy_yes hc, List.append_assoc])
            obtain ⟨e1, e2⟩ := hc
            rw [e1] at r0
            have b2 : (0 : Int) < ((rcb C i).refs : Int) := by omega
            have o3 := HO.out.1.alloc (.cells #[.int .i64 (rkey C i)] 3)
            have HMORE : Hid (∀ v' w4, w4.ownsRow 0 3 1 v' ((S.idle ++ rbusy C i).length + 1) ((S.idle ++ rbusy C i).map (fun s => Value.int .i64 (rkey C s)) ++ [.int .i64 (rkey C i)]) → Upon (wr.alloc (.cells #[.int .i64 (rkey C i)] 3)) w4 (.slice al (S.idle ++ rbusy C i).length cl) v' → ROut w w4 v' C (S.idle ++ rbusy C (i + 1))) := hide fun v' w4 y1 y2 => by
              rw [HSS.out]; exact HO.out.more y1 y2
            clear HO HSS e1 e2
            generalize (S.idle ++ rbusy C i).length = ll at *
            generalize (S.idle ++ rbusy C i).map (fun s => Value.int .i64 (rkey C s)) = xs at *
            generalize rkey C i = key at *
            generalize (rcb C i).refs = rr at *
            go_wp2_with (at_builtin; refine wpList_append1 _ rfl (.tmp 78) (.tmp 87) 67 rfl 3 i0 (.int .i64 0) 8 Try.underlying67 hi hz0 hz1 hz2 rfl _ _ _ rfl o3 ⟨wr.heap.size, 0, none⟩ 1 (.int .i64 key) rfl (cell_one_new _ _ _) rfl (by unfold maxLen; omega) (by omega) ?_)
            intro v' w4 ho4 hup4
            have HN := hide (HMORE.out v' w4 ho4 (by unfold Upon; rw [World.size_alloc]; exact hup4))
            clear HMORE o3 ho4 hup4 c0 r0 r1 r2
            go_wp2_with fail
            go_roundw
            case rel => exact ⟨i + 1, by omega, by go_num, HN.out⟩
            case measure => simp [intOf]; omega
          · have HN : Hid (ROut w wr (.slice al (S.idle ++ rbusy C i).length cl) C (S.idle ++ rbusy C (i + 1))) := hide (by
              rw [rbusy_no hc]
              exact HO.out)
            clear HO
            generalize (S.idle ++ rbusy C i).length = ll at *
            generalize rkey C i = key at *
            cases hu : (rcb C i).used with
            | false =>
              rw [hu] at r0
              clear hc hu
              generalize (rcb C i).refs = rr at *
              go_wp2_with fail
              go_roundw
              case rel => exact ⟨i + 1, by omega, by go_num, HN.out⟩
              case measure => simp [intOf]; omega
            | true =>
              rw [hu] at r0
              have e2 : (rcb C i).refs = 0 := by
                have : ¬ 0 < (rcb C i).refs := fun e => hc ⟨hu, e⟩
                omega
              rw [e2] at r2
              clear hc hu e2
              go_wp2_with fail
              go_roundw
              case rel => exact ⟨i + 1, by omega, by go_num, HN.out⟩
              case measure => simp [intOf]; omega
        · have ei : i = n := by omega
          subst ei
          have HN := hide (HFIN.out wr _ HO.out)
          clear HO HXX HAT HFIN HBL HIL
          generalize (S.idle ++ rbusy C i).length = ll at *
          go_wp2_with fail
          go_ret
          exact ⟨_, rfl, HN.out⟩
end Go.Proofs.Ythkkinmegileaaa
