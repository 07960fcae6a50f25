import Derived.Test.YtafjldmfghokaabAGa
namespace Go.Proofs.Ytafjldmfghokaab
open Go.RowKit Go.Sort
open Num
set_option linter.unusedVariables false
set_option linter.unusedSimpArgs false
set_option maxRecDepth 20000

/-- ints that are being gathered since w -/
structure GIn (w wr : World) (v : Value) (T : List Int) : Prop where
  ow : wr.ownsRow 0 3 1 v T.length (T.map iV)
  be : Below w.heap.size w wr
  nw : ∀ b, v.ownBlock = some b → w.heap.size ≤ b
theorem GIn.start (w : World) : GIn w w (.slice none 0 0) [] := ⟨⟨rfl, .inl ⟨rfl, rfl⟩⟩, Below.refl _ _, fun b e => by simp [Value.ownBlock] at e⟩
theorem GIn.form {w wr : World} {v : Value} {T : List Int} (h : GIn w wr v T) : ∃ a cap, v = .slice a T.length cap ∧ T.length ≤ cap ∧ cap ≤ maxLen := rowForm h.ow
theorem GIn.later {w wr w2 : World} {v : Value} {T : List Int} (h : GIn w wr v T) (hb : Below wr.heap.size wr w2) : GIn w w2 v T :=
  ⟨rowKept h.ow fun g e => hb.block g (h.ow.lt g e).2, h.be.trans (hb.mono h.be.size), h.nw⟩
theorem GIn.more {w wr w4 : World} {v v' : Value} {T : List Int} {z : Int} {o : Obj} (h : GIn w wr v T) (ho : w4.ownsRow 0 3 1 v' (T.length + 1) (T.map iV ++ [.int .i64 z])) (hu : Upon (wr.alloc o) w4 v v') : GIn w w4 v' (T ++ [z]) := by
  have q := keys_step (zs := (T ++ [z]).map iV) ho hu h.be h.nw (by simp [iV])
  exact ⟨by simpa using q.1, q.2.1, q.2.2⟩
theorem gRefs_any {w : World} {rp q M : Nat} {cv : Value} {C : List RC} {P ext size next age start : Nat} {S : LS} (h : RGR w rp q cv C P ext size next age start) (hR : Rel S C P) (hS : S.Ok M) (x : Int) :
    Calls Try.prog 109 #[.pointer (some ⟨rp, 0, none⟩), .int .i64 x] w fun e w' => ∃ r : Nat, e = .returned (.int .i64 (r : Int)) ∧ w' = w ∧ RefRes S x r := by
  have c0 : w.cell? ⟨rp, 0, none⟩ = some (.pointer (some ⟨q, 0, none⟩)) := h.c 0
  have HR := hide (rRefs_any h.l hR hS x)
  clear h hS hR
  go_enter Try.func109, Try.ntmps109
  go_wp2_with (first
    | (go_at_call 132; refine HR.out.mono ?_; rintro e w1 ⟨r, rfl, rfl, hr⟩; have HF := hide hr; clear hr HR))
  go_ret
  exact ⟨_, rfl, rfl, HF.out⟩
set_option maxHeartbeats 1000000 in
theorem gEnd_any {w : World} {rp q M : Nat} {cv : Value} {C : List RC} {P ext size next age start : Nat} {S : LS} (h : RGR w rp q cv C P ext size next age start) (hR : Rel S C P) (hS : S.Ok M) (hM : M ≤ 4611686018427387904) (hP : P ≤ 4611686018427387904) (x : Int) :
    Calls Try.prog 91 #[.pointer (some ⟨rp, 0, none⟩), .int .i64 x] w fun e w' => (¬ (0 ≤ x ∧ x < (ext : Int)) ∧ e = .returned (.int .i64 2) ∧ w' = w) ∨
      ((0 ≤ x ∧ x < (ext : Int)) ∧ ∃ S' er C' P', PutRes S x S' er ∧ e = .returned (.int .i64 er) ∧ RGR w' rp q cv C' P' ext size next age start ∧ Rel S' C' P' ∧ P' ≤ P + 1 ∧ Chg (RU q cv) w w') := by
  have c0 : w.cell? ⟨rp, 0, none⟩ = some (.pointer (some ⟨q, 0, none⟩)) := h.c 0
  have c1 : w.cell? ⟨rp, 1, none⟩ = some (.int .i64 (ext : Int)) := h.c 1
  have HP := hide (rPut_any h.l hR hS hM hP x)
  have HT : Hid (∀ w' C' P', _ → _ → RGR w' rp q cv C' P' ext size next age start) := hide fun w' C' P' a b => h.turn (w' := w') (C' := C') (P' := P') a b
  clear h hS hR
  by_cases h0 : 0 ≤ x
  · have b0 : (x < 0) = False := by simp; omega
    by_cases h1 : x < (ext : Int)
    · have HI := hide (And.intro h0 h1)
      clear h0
      have b1 : ((ext : Int) ≤ x) = False := by simp; omega
      clear h1
      go_enter Try.func91, Try.ntmps91
      go_wp2_with (first
        | (go_at_call 107; refine HP.out.mono ?_; rintro e w2 ⟨S', er, C', P', hp, rfl, hl, ho, hP', hc⟩; have HF := hide (And.intro hp (And.intro (HT.out _ _ _ hl hc) (And.intro ho (And.intro hP' hc)))); clear hp hl ho hc hP' HP HT))
      go_ret
      exact .inr ⟨HI.out, _, _, _, _, HF.out.1, rfl, HF.out.2⟩
    · have HI : Hid (¬ (0 ≤ x ∧ x < (ext : Int))) := hide fun e => h1 e.2
      have b1 : (ext : Int) ≤ x := by omega
      clear h1
      go_enter Try.func91, Try.ntmps91
      go_wp2_with fail
      go_ret
      exact .inl ⟨HI.out, rfl, rfl⟩
  · have HI : Hid (¬ (0 ≤ x ∧ x < (ext : Int))) := hide fun e => h0 e.1
    have b1 : x < 0 := by omega
    clear h0
    go_enter Try.func91, Try.ntmps91
    go_wp2_with fail
    go_ret
    exact .inl ⟨HI.out, rfl, rfl⟩
def slAt (C : List RC) (s : Nat) : Int := if (rcb C s).used then rkey C s else -1
theorem slots_eq {S : LS} {C : List RC} {P M : Nat} (hR : Rel S C P) (hS : S.Ok M) : (List.range C.length).map (slAt C) = rowL S := by
  have hl := rowL_len hS
  have hkl := hS.kl
  apply List.ext_getElem?
  intro i
  by_cases hi : i < C.length
  · rw [List.getElem?_map, List.getElem?_range hi]
    unfold rowL slAt
    simp only [Option.map_some]
    by_cases hk : i < S.ks.length
    · obtain ⟨q1, q2, -⟩ := hR.us i hk
      rw [List.getElem?_append_left hk, q1, q2]
      rfl
    · have e : i - S.ks.length < S.slots - S.ks.length := by have := hR.len; omega
      rw [List.getElem?_append_right (by omega), hR.fr i (by omega) hi, List.getElem?_replicate]
      simp [e]
  · rw [List.getElem?_eq_none (by simp; omega), List.getElem?_eq_none (by rw [hl, ← hR.len]; omega)]
theorem range_succ_map {α : Type} (f : Nat → α) (i : Nat) : (List.range (i + 1)).map f = (List.range i).map f ++ [f i] := by
  rw [List.range_succ, List.map_append]; rfl
set_option maxHeartbeats 2000000 in
theorem gSlots_any {w : World} {rp q M : Nat} {cv : Value} {C : List RC} {P ext size next age start : Nat} {S : LS} (h : RGR w rp q cv C P ext size next age start) (hR : Rel S C P) (hS : S.Ok M) :
    Calls Try.prog 105 #[.pointer (some ⟨rp, 0, none⟩)] w fun e w' => ∃ v, e = .returned v ∧ GIn w w' v (rowL S) := by
  obtain ⟨i0, hi, hz0, hz1, hz2⟩ := info_parts info_int
  have hcl : C.length ≤ 16 := by rw [hR.len]; exact hS.s2
  have HFIN := hide (slots_eq hR hS)
  obtain ⟨a, cap, rfl, h1, h2⟩ := h.l.form
  unfold maxLen at h2
  have HAT : Hid (∀ x, Below w.heap.size w x → x.cell? ⟨rp, 0, none⟩ = some (.pointer (some ⟨q, 0, none⟩)) ∧ x.cell? ⟨q, 0, none⟩ = some (.slice a C.length cap) ∧ ∀ i, i < C.length → ∃ g, a = some ⟨g, 0, none⟩ ∧ x.cell? ⟨g, i * 4, none⟩ = some (.bool (rcb C i).used) ∧ x.cell? ⟨g, i * 4 + 1, none⟩ = some (.int .i64 (rkey C i))) := hide fun x hx => ⟨(h.below hx).c 0, (h.below hx).l.c 0, fun i hi => by
    obtain ⟨g, cap, cs, q1, q2, q3, q4, q5, q6⟩ := (h.below hx).l.at hi
    simp only [Value.slice.injEq] at q1
    exact ⟨g, q1.1, q3, q4⟩⟩
  have HT0 : Hid (GIn w w (.slice none 0 0) ((List.range 0).map (slAt C))) := hide (GIn.start w)
  clear h hR hS
  generalize hnn : C.length = n at *
  clear hnn
  go_enter Try.func105, Try.ntmps105
  go_wp2_with fail
  go_loopw [3, 4] (fun lv x wr => ∃ i : Nat, i ≤ n ∧ x = .int .i64 (i : Int) ∧ GIn w wr lv ((List.range i).map (slAt C))) (fun _ x _ => n - (intOf x).toNat)
  case atStart => exact ⟨0, Nat.zero_le _, rfl, HT0.out⟩
  case round =>
    clear HT0
    obtain ⟨i, hin, rfl, hro⟩ := hrel
    have HO := hide hro
    obtain ⟨c0, d0, hat⟩ := HAT.out wr hro.be
    have HXX := hide hat
    clear hat
    obtain ⟨al, cl, rfl, hl1, hl2⟩ := hro.form
    simp only [List.length_map, List.length_range] at hl1 HO ⊢
    unfold maxLen at hl2
    clear hro
    by_cases hlt : i < n
    · obtain ⟨g, rfl, r0, r1⟩ := HXX.out i hlt
      clear HXX HAT HFIN
      have o4 := HO.out.ow
      simp only [List.length_map, List.length_range] at o4
      cases hu : (rcb C i).used with
      | true =>
        rw [hu] at r0
        have HSS : Hid ((List.range (i + 1)).map (slAt C) = (List.range i).map (slAt C) ++ [rkey C i]) := hide (by rw [range_succ_map]; simp [slAt, hu])
        clear hu
        have HMORE : Hid (∀ v' w4, w4.ownsRow 0 3 1 v' (i + 1) (((List.range i).map (slAt C)).map iV ++ [.int .i64 (rkey C i)]) → Upon (wr.alloc (.cells #[.int .i64 (rkey C i)] 3)) w4 (.slice al i cl) v' → GIn w w4 v' ((List.range (i + 1)).map (slAt C))) := hide fun v' w4 y1 y2 => by
          rw [HSS.out]; exact HO.out.more (by simpa using y1) y2
        have o3 := o4.alloc (.cells #[.int .i64 (rkey C i)] 3)
        clear HO HSS o4
        generalize ((List.range i).map (slAt C)).map iV = xs at *
        generalize rkey C i = key at *
        go_wp2_with (at_builtin; refine wpList_append1 _ rfl (.tmp 28) (.tmp 40) 46 rfl 3 i0 (.int .i64 0) 8 Try.underlying46 hi hz0 hz1 hz2 rfl _ _ _ rfl o3 ⟨wr.heap.size, 0, none⟩ 1 (.int .i64 key) rfl (cell_one_new _ _ _) rfl (by unfold maxLen; omega) (by omega) ?_)
        intro v' w4 q1 q2
        have HN := hide (HMORE.out v' w4 q1 (by unfold Upon; rw [World.size_alloc]; exact q2))
        obtain ⟨a', c', rfl, -, -⟩ := rowForm q1
        clear q1 q2 HMORE o3 r0 r1 c0 d0
        go_wp2_with fail
        go_roundw
        case rel => exact ⟨i + 1, by omega, by go_num, HN.out⟩
        case measure => simp [intOf]; omega
      | false =>
        rw [hu] at r0
        have HSS : Hid ((List.range (i + 1)).map (slAt C) = (List.range i).map (slAt C) ++ [-1]) := hide (by rw [range_succ_map]; simp [slAt, hu])
        clear hu
        have HMORE : Hid (∀ v' w4, w4.ownsRow 0 3 1 v' (i + 1) (((List.range i).map (slAt C)).map iV ++ [.int .i64 (-1)]) → Upon (wr.alloc (.cells #[.int .i64 (-1)] 3)) w4 (.slice al i cl) v' → GIn w w4 v' ((List.range (i + 1)).map (slAt C))) := hide fun v' w4 y1 y2 => by
          rw [HSS.out]; exact HO.out.more (by simpa using y1) y2
        have o3 := o4.alloc (.cells #[.int .i64 (-1)] 3)
        clear HO HSS o4
        generalize ((List.range i).map (slAt C)).map iV = xs at *
        go_wp2_with (at_builtin; refine wpList_append1 _ rfl (.tmp 42) (.tmp 43) 46 rfl 3 i0 (.int .i64 0) 8 Try.underlying46 hi hz0 hz1 hz2 rfl _ _ _ rfl o3 ⟨wr.heap.size, 0, none⟩ 1 (.int .i64 (-1)) rfl (cell_one_new _ _ _) rfl (by unfold maxLen; omega) (by omega) ?_)
        intro v' w4 q1 q2
        have HN := hide (HMORE.out v' w4 q1 (by unfold Upon; rw [World.size_alloc]; exact q2))
        obtain ⟨a', c', rfl, -, -⟩ := rowForm q1
        clear q1 q2 HMORE o3 r0 r1 c0 d0
        go_wp2_with fail
        go_roundw
        case rel => exact ⟨i + 1, by omega, by go_num, HN.out⟩
        case measure => simp [intOf]; omega
    · have ei : i = n := by omega
      subst ei
      rw [HFIN.out] at HO
      clear HXX HAT
      go_wp2_with fail
      go_ret
      exact ⟨_, rfl, HO.out⟩
end Go.Proofs.Ytafjldmfghokaab
