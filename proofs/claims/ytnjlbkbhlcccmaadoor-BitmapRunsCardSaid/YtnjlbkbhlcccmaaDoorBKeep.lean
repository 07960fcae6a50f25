import Derived.Test.YtnjlbkbhlcccmaaDoorBAppend
namespace Go.Proofs.YtnjlbkbhlcccmaaDoor
open Go.RowKit Go.Shelf
set_option linter.unusedVariables false
set_option linter.unusedSimpArgs false
set_option maxRecDepth 20000

theorem info_words : (Tryd.prog.info? 22).map (fun i => (i.zero, i.size, i.bytes)) = some (some (.slice none 0 0), 1, 24) := by kernel_rfl
/-- the mark of the list that is the nl-th -/
def mk (nl : Nat) : Nat := 11529215046068469761 + nl
/-- the blocks that keep may turn -/
def KU (k : Nat) (bv v : Value) (b : Nat) : Prop := b = k ∨ bv.ownBlock = some b ∨ v.ownBlock = some b
/-- what keep leaves -/
structure Kp (w w' : World) (k nl n : Nat) (bv v raw was : Value) (ys : List Value) (bv' gv : Value) : Prop where
  bk : Bk w' k false bv' raw was (nl + 2) (ys ++ [v, gv])
  one : WSl w' v (List.replicate n (mk nl))
  two : WSl w' gv (List.replicate (n + 80) (mk nl))
  chg : Chg (KU k bv v) w w'
  gloc : ∀ b, gv.ownBlock = some b → v.ownBlock = some b ∨ w.heap.size ≤ b
  bloc : ∀ b, bv'.ownBlock = some b → bv.ownBlock = some b ∨ w.heap.size ≤ b
  gb : ∀ b, (v.ownBlock = some b ∨ gv.ownBlock = some b) → bv'.ownBlock ≠ some b ∧ b ≠ k ∧ b < w'.heap.size

theorem own_of_blockOf {a : Option Addr} {n cap b : Nat} (h : blockOf (.slice a n cap) = some b) : (Value.slice a n cap).ownBlock = some b := by
  cases a with
  | none => simp [blockOf] at h
  | some ad => simpa [blockOf, Value.ownBlock] using h

set_option maxHeartbeats 2000000 in
theorem keep_any {w : World} {k nl n : Nat} {bv v raw was : Value} {ys xs : List Value} (h : Bk w k false bv raw was nl ys) (hv : w.ownsRow 0 63 1 v n xs) (hn : n ≤ 17592186044416) (hnl : nl ≤ 9000000000000) :
    Calls Tryd.prog 13 #[.pointer (some ⟨k, 0, none⟩), v] w fun e w' => e = .returned (.tuple #[]) ∧ ∃ bv' gv, Kp w w' k nl n bv v raw was ys bv' gv := by
  obtain ⟨i0, hi, hz0, hz1, hz2⟩ := info_parts info_u64
  obtain ⟨i1, hj, hy0, hy1, hy2⟩ := info_parts info_words
  have H := hide h
  obtain ⟨a, cap, rfl, hc1, hc2⟩ := rowForm hv
  obtain ⟨ab, cb, rfl, hb1, hb2⟩ := rowForm h.bo
  unfold maxLen at hc2 hb2
  have c0 : w.cell? ⟨k, 0, none⟩ = some (.slice ab nl cb) := h.cell 0
  have c1 : w.cell? ⟨k, 1, none⟩ = some (.bool false) := h.cell 1
  have HBV : Hid (∀ g, (Value.slice a n cap).ownBlock = some g → (Value.slice ab nl cb).ownBlock ≠ some g ∧ g ≠ k) := hide fun g hg => by
    obtain ⟨cs, hcs⟩ := rowCells hv hg
    exact ⟨fun e => by obtain ⟨ds, hds⟩ := rowCells h.bo e; exact neType hcs hds (by decide) rfl, neType hcs h.row (by decide)⟩
  have HA : Hid (∀ g, (Value.slice a n cap).ownBlock = some g → a = some ⟨g, 0, none⟩) := hide fun g hg => by
    rcases hv.2 with ⟨e, _⟩ | ⟨g', _, _, e, _⟩
    · simp only [Value.slice.injEq] at e; rw [e.1] at hg; simp [Value.ownBlock] at hg
    · simp only [Value.slice.injEq] at e
      rw [e.1] at hg
      simp only [Value.ownBlock, Option.some.injEq] at hg
      rw [e.1, hg]
  have HVL : Hid (∀ b, (Value.slice a n cap).ownBlock = some b → b < w.heap.size) := hide fun b hb => (hv.lt b hb).2
  have HSEP : Hid (∀ b, (b = k ∨ (Value.slice ab nl cb).ownBlock = some b) → ¬ ((Value.slice a n cap).ownBlock = some b ∨ w.heap.size ≤ b)) := hide fun b hb hx => by
    rcases hb with rfl | hb
    · rcases hx with hx | hx
      · exact (HBV.out b hx).2 rfl
      · have := h.lt; omega
    · rcases hx with hx | hx
      · exact (HBV.out b hx).1 hb
      · have := (h.bo.lt b hb).2; omega
  have START : Hid (∃ xs', w.ownsRow 0 63 1 (.slice a n cap) n xs' ∧ ∀ j, j < 0 → xs'[j]? = some (.int .u64 ((mk nl : Nat) : Int))) := hide ⟨xs, hv, fun j hj => by omega⟩
  have hmk1 : IntKind.u64.wrap (11529215046068469761 + (nl : Int)) = ((mk nl : Nat) : Int) := by unfold mk; simp [IntKind.wrap, IntKind.bits, IntKind.signed]; omega
  have hmk2 : (11529215046068469761 + (nl : Int)) = ((mk nl : Nat) : Int) := by unfold mk; omega
  have hmk3 : mk nl < 18446744073709551616 := by unfold mk; omega
  have HE : Hid (∀ xs' : List Value, xs'.length = n → (∀ j, j < n → xs'[j]? = some (.int .u64 ((mk nl : Nat) : Int))) → xs' = List.replicate n (.int .u64 ((mk nl : Nat) : Int))) := hide fun xs' h1 h2 => rep_of_all h1 h2
  have HM2 : Hid (nl + 1 + 1 ≤ maxLen) := hide (by unfold maxLen; omega)
  have HK4 : Hid (((nl + 1 + 1) + (nl + 1 + 1) / 4 + 192) * 24 ≤ 281474976710656) := hide (by omega)
  clear h hv
  generalize hM : mk nl = M at *
  have HM := hide hM
  clear hM
  go_enter Tryd.func13, Tryd.ntmps13
  go_wp2_with fail
  go_loopw [5] (fun x wr => ∃ i : Nat, i ≤ n ∧ x = .int .i64 (i : Int) ∧ (∃ xs', wr.ownsRow 0 63 1 (.slice a n cap) n xs' ∧ ∀ j, j < i → xs'[j]? = some (.int .u64 (M : Int))) ∧ Chg (fun b => (Value.slice a n cap).ownBlock = some b) w wr ∧ wr.heap.size = w.heap.size) (fun x _ => n - (intOf x).toNat)
  case atStart => exact ⟨0, Nat.zero_le _, rfl, START.out, Chg.refl _ _, rfl⟩
  case round =>
    clear START
    obtain ⟨i, hin, rfl, ⟨xs', hx1, hx2⟩, hch, hsz⟩ := hrel
    have HX1 := hide hx1
    have HX2 := hide hx2
    have HCH := hide hch
    have HSZ := hide hsz
    clear hx1 hx2 hch hsz
    by_cases hlt : i < n
    · obtain ⟨g, rfl⟩ : ∃ g, a = some ⟨g, 0, none⟩ := by
        rcases HX1.out.2 with ⟨_, e⟩ | ⟨g, _, _, e, _⟩
        · omega
        · simp only [Value.slice.injEq] at e; exact ⟨g, e.1⟩
      have hcz : ∃ z, wr.cell? ⟨g, i, none⟩ = some z := by
        rw [HX1.out.cellAt i (by omega)]
        exact ⟨_, List.getElem?_eq_getElem (by have := HX1.out.1; omega)⟩
      obtain ⟨z, hcz⟩ := hcz
      obtain ⟨cs, hcs⟩ := rowCells HX1.out (g := g) rfl
      have hfz : wr.frozen? ⟨g, i, none⟩ = false := frozen_of_row _ _ _ _ 63 hcs
      have HN1 : Hid ((wr.setCell ⟨g, i, none⟩ (.int .u64 (M : Int))).ownsRow 0 63 1 (.slice (some ⟨g, 0, none⟩) n cap) n (xs'.set i (.int .u64 (M : Int)))) := hide (row_set HX1.out hlt)
      have HN2 : Hid (∀ j, j < i + 1 → (xs'.set i (.int .u64 (M : Int)))[j]? = some (.int .u64 (M : Int))) := hide fun j hj => by
        have hl := HX1.out.1
        by_cases e : j = i
        · subst e; rw [List.getElem?_set_self (by omega)]
        · rw [List.getElem?_set_ne (fun h => e h.symm)]; exact HX2.out j (by omega)
      have HN3 : Hid (Chg (fun b => (Value.slice (some ⟨g, 0, none⟩) n cap).ownBlock = some b) w (wr.setCell ⟨g, i, none⟩ (.int .u64 (M : Int)))) := hide
        (HCH.out.trans ⟨rfl, rfl, rfl, by simp [World.setCell], fun b _ hb => Go.heap_setCell_other _ _ _ _ fun e => hb (by rw [e]; rfl)⟩)
      have HN4 : Hid ((wr.setCell ⟨g, i, none⟩ (.int .u64 (M : Int))).heap.size = w.heap.size) := hide (by simp [World.setCell]; exact HSZ.out)
      clear hcs hmk1 hmk2
      go_wp2_with fail
      go_roundw
      case rel => exact ⟨i + 1, by omega, by go_num, ⟨_, HN1.out, HN2.out⟩, HN3.out, HN4.out⟩
      case measure => simp [intOf]; omega
    · have ein : n = i := by omega
      subst ein
      have hrep := HE.out xs' (by have := HX1.out.1; omega) (fun j hj => HX2.out j (by omega))
      have hx1 := HX1.out
      rw [hrep] at hx1
      have START2 : Hid (wr.ownsRow 0 63 1 (.slice a n cap) (n + 0) (List.replicate (n + 0) (.int .u64 (M : Int)))) := hide hx1
      have HW0 : Hid (WSl wr (.slice a n cap) (List.replicate n M)) := hide (by
        rcases hx1.2 with ⟨e, e0⟩ | ⟨g, _, _, e, _⟩
        · simp only [Value.slice.injEq] at e
          obtain ⟨rfl, -, rfl⟩ := e
          subst e0
          exact ⟨none, 0, rfl, Nat.le_refl _, by unfold maxLen; omega, fun _ => rfl, by simp, by simp⟩
        · simp only [Value.slice.injEq] at e
          obtain ⟨rfl, -, -⟩ := e
          exact wsl_rep (g := g) hx1 rfl (Nat.le_refl _) hc1 (by unfold maxLen; omega) hmk3)
      have HBr := hide (H.out.kept (HCH.out.keep k H.out.lt fun e => (HBV.out k e).2 rfl) fun b hb => HCH.out.keep b (H.out.bo.lt b hb).2 fun e => (HBV.out b e).1 hb)
      have HU : Hid (∀ U : Nat → Prop, (∀ b, (Value.slice a n cap).ownBlock = some b → U b) → Chg U w wr) := hide fun U hU => HCH.out.mono fun b _ h => hU b h
      clear hx1 hrep HX1 HX2 HE
      go_wp2_with fail
      go_loopw [6, 7] (fun lv x wr => ∃ i : Nat, i ≤ 80 ∧ x = .int .i64 (i : Int) ∧ wr.ownsRow 0 63 1 lv (n + i) (List.replicate (n + i) (.int .u64 (M : Int))) ∧ WSl wr (.slice a n cap) (List.replicate n M) ∧ Bk wr k false (.slice ab nl cb) raw was nl ys ∧ Chg (KU k (.slice ab nl cb) (.slice a n cap)) w wr ∧ (∀ b, lv.ownBlock = some b → (Value.slice a n cap).ownBlock = some b ∨ w.heap.size ≤ b)) (fun _ x _ => 80 - (intOf x).toNat)
      case atStart => exact ⟨0, Nat.zero_le _, rfl, START2.out, HW0.out, HBr.out, HU.out _ fun b h => .inr (.inr h), fun b h => .inl h⟩
      case round =>
        clear START2 HW0 HBr HU HCH HSZ H
        obtain ⟨i2, hin2, rfl, hown, hw1, hbk, hch2, hloc⟩ := hrel
        have HOW := hide hown
        have HW1 := hide hw1
        have HBK := hide hbk
        have HCH := hide hch2
        have HLOC := hide hloc
        clear hown hw1 hbk hch2 hloc
        by_cases hlt2 : i2 < 80
        · have r3a := HOW.out.alloc (.cells #[.int .u64 (M : Int)] 63)
          clear hmk1 hmk2
          go_wp2_with (at_builtin; refine wpList_append1 _ rfl (.tmp 56) (.tmp 58) 22 rfl 63 i0 (.int .u64 0) 8 Tryd.underlying22 hi hz0 hz1 hz2 rfl _ _ _ rfl r3a ⟨wr.heap.size, 0, none⟩ 1 (.int .u64 (M : Int)) rfl (cell_one_new _ _ _) rfl (by unfold maxLen; omega) (by omega) ?_)
          intro lv' w4 ho4 hup4
          have HUP : Hid (Upon (wr.alloc (.cells #[.int .u64 (M : Int)] 63)) w4 _ lv') := hide (by unfold Upon; rw [World.size_alloc]; exact hup4)
          have ho5 : w4.ownsRow 0 63 1 lv' (n + (i2 + 1)) (List.replicate (n + (i2 + 1)) (.int .u64 (M : Int))) := by
            rw [← Nat.add_assoc, List.replicate_succ']; exact ho4
          have hal : ∀ b, b < wr.heap.size → (wr.alloc (.cells #[.int .u64 (M : Int)] 63)).heap[b]? = wr.heap[b]? := fun b hb => Below.heap_alloc _ _ b hb
          have HN1 : Hid (WSl w4 (.slice a n cap) (List.replicate n M)) := hide (by
            rcases HUP.out with ⟨e1, hgb⟩ | ⟨g, e1, e2, hgb⟩
            · exact HW1.out.keptIf fun b _ hlt => (hgb.block b (by simp; omega) (by simp)).trans (hal b hlt)
            · by_cases eg : (Value.slice a n cap).ownBlock = some g
              · obtain rfl := HA.out g eg
                exact wsl_rep (g := g) ho5 e2 (by omega) hc1 (by unfold maxLen; omega) hmk3
              · exact HW1.out.keptIf fun b hb hlt => (hgb.block b (by simp; omega) (fun e => eg (by injection e with e; rw [← e]; exact own_of_blockOf hb))).trans (hal b hlt))
          have HN2 : Hid (Bk w4 k false (.slice ab nl cb) raw was nl ys) := hide (HBK.out.kept ((HUP.out.block k (by have := HBK.out.lt; simp; omega) (fun e => HSEP.out k (.inl rfl) (HLOC.out k e))).trans (hal _ HBK.out.lt)) fun b hb => (HUP.out.block b (by have := (HBK.out.bo.lt b hb).2; simp; omega) (fun e => HSEP.out b (.inr hb) (HLOC.out b e))).trans (hal b (HBK.out.bo.lt b hb).2))
          have HN3 : Hid (Chg (KU k (.slice ab nl cb) (.slice a n cap)) w w4) := hide (HUP.out.chg HCH.out fun b hb => by
            rcases HLOC.out b hb with h | h
            · exact .inl (.inr (.inr h))
            · exact .inr h)
          have HN4 : Hid (∀ b, lv'.ownBlock = some b → (Value.slice a n cap).ownBlock = some b ∨ w.heap.size ≤ b) := hide fun b hb => by
            rcases HUP.out.loc b hb with h | h
            · exact HLOC.out b h
            · have := HCH.out.size
              rw [h]; exact .inr (by simp; omega)
          have HO5 := hide ho5
          clear ho4 ho5 hup4 r3a hal HUP
          go_wp2
          go_roundw
          case rel => exact ⟨i2 + 1, by omega, by go_num, HO5.out, HN1.out, HN2.out, HN3.out, HN4.out⟩
          case measure => simp [intOf]; omega
        · have e80 : i2 = 80 := by omega
          subst e80
          obtain ⟨al, cl, el, hl1, hl2⟩ := rowForm HOW.out
          subst el
          have HG : Hid (WSl wr (.slice al (n + 80) cl) (List.replicate (n + 80) M)) := hide (by
            rcases HOW.out.2 with ⟨_, e⟩ | ⟨g, _, _, e, _⟩
            · omega
            · simp only [Value.slice.injEq] at e
              obtain ⟨rfl, -, -⟩ := e
              exact wsl_rep (g := g) HOW.out rfl (Nat.le_refl _) hl1 hl2 hmk3)
          have HTY : Hid (∀ b, (Value.slice al (n + 80) cl).ownBlock = some b → ∃ cs, wr.heap[b]? = some (.cells cs 63 (0, 0))) := hide fun b hb => rowCells HOW.out hb
          have HLL : Hid (∀ b, (Value.slice al (n + 80) cl).ownBlock = some b → b < wr.heap.size) := hide fun b hb => (HOW.out.lt b hb).2
          have k0 : wr.cell? ⟨k, 0, none⟩ = some (.slice ab nl cb) := HBK.out.cell 0
          have hbl0 := (Below.refl wr.heap.size wr).alloc (Nat.le_refl _) (.cells #[.slice a n cap] 22)
          have HBA := hide (HBK.out.below hbl0)
          have k1 : (wr.alloc (.cells #[.slice a n cap] 22)).cell? ⟨k, 0, none⟩ = some (.slice ab nl cb) := HBA.out.cell 0
          have r1 := HBA.out.bo
          have hs0 := HCH.out.size
          unfold maxLen at hl2
          clear hmk1 hmk2 hbl0 HOW
          go_wp2_with (at_builtin; refine wpList_append1 _ rfl (.tmp 64) (.tmp 66) 30 rfl 22 i1 (.slice none 0 0) 24 Tryd.underlying30 hj hy0 hy1 hy2 rfl _ _ _ rfl r1 ⟨wr.heap.size, 0, none⟩ 1 (.slice a n cap) rfl (cell_one_new _ _ _) rfl (by unfold maxLen; omega) (by omega) ?_)
          intro bv1 w5 ho5 hup5
          obtain ⟨ab1, cb1, e1, hf1, hf2⟩ := rowForm ho5
          subst e1
          obtain ⟨g1, e1⟩ : ∃ g, ab1 = some ⟨g, 0, none⟩ := by
            rcases ho5.2 with ⟨_, e⟩ | ⟨g, _, _, e, _⟩
            · omega
            · simp only [Value.slice.injEq] at e; exact ⟨g, e.1⟩
          subst e1
          have HUP5 : Hid (Upon (wr.alloc (.cells #[.slice a n cap] 22)) w5 (.slice ab nl cb) (.slice (some ⟨g1, 0, none⟩) (nl + 1) cb1)) := hide (by unfold Upon; rw [World.size_alloc]; exact hup5)
          obtain ⟨p1, hr5⟩ := HBA.out.push ho5 HUP5.out
          have k5 : w5.cell? ⟨k, 0, none⟩ = some (.slice ab nl cb) := by rw [cell_of_row _ _ _ _ _ _ hr5]; rfl
          have f5 : w5.frozen? ⟨k, 0, none⟩ = false := frozen_of_row _ _ _ _ 32 hr5
          have HP1 := hide p1
          have HL1 : Hid (∀ b, (Value.slice (some ⟨g1, 0, none⟩) (nl + 1) cb1).ownBlock = some b → (Value.slice ab nl cb).ownBlock = some b ∨ wr.heap.size ≤ b) := hide fun b hb => by
            rcases HUP5.out.loc b hb with h | h
            · exact .inl h
            · rw [h]; exact .inr (by simp)
          have HC1 : Hid (Chg (KU k (.slice ab nl cb) (.slice a n cap)) w (w5.setCell ⟨k, 0, none⟩ (.slice (some ⟨g1, 0, none⟩) (nl + 1) cb1))) := hide
            ((HUP5.out.chg HCH.out fun b hb => .inl (.inr (.inl hb))).trans ⟨rfl, rfl, rfl, by simp [World.setCell], fun b _ hb => Go.heap_setCell_other _ _ _ _ fun e => hb (.inl e)⟩)
          have HF1 : Hid (∀ b, b < wr.heap.size → ((Value.slice a n cap).ownBlock = some b ∨ w.heap.size ≤ b) → (w5.setCell ⟨k, 0, none⟩ (.slice (some ⟨g1, 0, none⟩) (nl + 1) cb1)).heap[b]? = wr.heap[b]?) := hide fun b hb hx => by
            rw [Go.heap_setCell_other _ _ _ _ (fun e => HSEP.out b (.inl e) hx), HUP5.out.block b (by simp; omega) (fun e => HSEP.out b (.inr e) hx), Below.heap_alloc _ _ b hb]
          have HS1 : Hid (wr.heap.size ≤ (w5.setCell ⟨k, 0, none⟩ (.slice (some ⟨g1, 0, none⟩) (nl + 1) cb1)).heap.size) := hide (by
            have := HUP5.out.size
            simp [World.setCell] at *
            omega)
          clear ho5 hup5 p1 hr5 r1 HUP5 HBA k0 k1 c0 c1
          unfold maxLen at hf2
          generalize hW6 : w5.setCell ⟨k, 0, none⟩ (.slice (some ⟨g1, 0, none⟩) (nl + 1) cb1) = w6 at *
          have HW6 := hide hW6
          clear hW6
          have k6 : w6.cell? ⟨k, 0, none⟩ = some (.slice (some ⟨g1, 0, none⟩) (nl + 1) cb1) := HP1.out.cell 0
          have hbl6 := (Below.refl w6.heap.size w6).alloc (Nat.le_refl _) (.cells #[.slice al (n + 80) cl] 22)
          have HBB := hide (HP1.out.below hbl6)
          have k7 : (w6.alloc (.cells #[.slice al (n + 80) cl] 22)).cell? ⟨k, 0, none⟩ = some (.slice (some ⟨g1, 0, none⟩) (nl + 1) cb1) := HBB.out.cell 0
          have r2 := HBB.out.bo
          clear hbl6
          go_wp2_with (first
            | (at_builtin; refine wpList_append1 _ rfl (.tmp 74) (.tmp 76) 30 rfl 22 i1 (.slice none 0 0) 24 Tryd.underlying30 hj hy0 hy1 hy2 rfl _ _ _ rfl r2 ⟨w6.heap.size, 0, none⟩ 1 (.slice al (n + 80) cl) rfl (cell_one_new _ _ _) rfl HM2.out HK4.out ?_)
            | (rw [HW6.out]))
          intro bv2 w7 ho7 hup7
          obtain ⟨ab2, cb2, e2, hg1, hg2⟩ := rowForm ho7
          subst e2
          obtain ⟨g2, e2⟩ : ∃ g, ab2 = some ⟨g, 0, none⟩ := by
            rcases ho7.2 with ⟨_, e⟩ | ⟨g, _, _, e, _⟩
            · omega
            · simp only [Value.slice.injEq] at e; exact ⟨g, e.1⟩
          subst e2
          have HUP7 : Hid (Upon (w6.alloc (.cells #[.slice al (n + 80) cl] 22)) w7 (.slice (some ⟨g1, 0, none⟩) (nl + 1) cb1) (.slice (some ⟨g2, 0, none⟩) (nl + 1 + 1) cb2)) := hide (by unfold Upon; rw [World.size_alloc]; exact hup7)
          obtain ⟨p2, hr7⟩ := HBB.out.push ho7 HUP7.out
          have k8 : w7.cell? ⟨k, 0, none⟩ = some (.slice (some ⟨g1, 0, none⟩) (nl + 1) cb1) := by rw [cell_of_row _ _ _ _ _ _ hr7]; rfl
          have f8 : w7.frozen? ⟨k, 0, none⟩ = false := frozen_of_row _ _ _ _ 32 hr7
          have hs1 := HS1.out
          have HF2 : Hid (∀ b, b < wr.heap.size → ((Value.slice a n cap).ownBlock = some b ∨ w.heap.size ≤ b) → (w7.setCell ⟨k, 0, none⟩ (.slice (some ⟨g2, 0, none⟩) (nl + 1 + 1) cb2)).heap[b]? = wr.heap[b]?) := hide fun b hb hx => by
            rw [Go.heap_setCell_other _ _ _ _ (fun e => HSEP.out b (.inl e) hx), HUP7.out.block b (by simp; omega) (fun e => by rcases HL1.out b e with h | h; exact HSEP.out b (.inr h) hx; omega), Below.heap_alloc _ _ b (by omega)]
            exact HF1.out b hb hx
          have HKP : Hid (Kp w (w7.setCell ⟨k, 0, none⟩ (.slice (some ⟨g2, 0, none⟩) (nl + 1 + 1) cb2)) k nl n (.slice ab nl cb) (.slice a n cap) raw was ys (.slice (some ⟨g2, 0, none⟩) (nl + 1 + 1) cb2) (.slice al (n + 80) cl)) := hide (by
            refine ⟨p2, ?_, ?_, ?_, HLOC.out, fun b hb => ?_, fun b hb => ?_⟩
            · rw [HM.out]; exact wsl_keep HW1.out fun b hb => HF2.out b (by have := HVL.out b hb; omega) (.inl hb)
            · rw [HM.out]; exact wsl_keep HG.out fun b hb => HF2.out b (HLL.out b hb) (HLOC.out b hb)
            · exact (HUP7.out.chg HC1.out fun b hb => by
                rcases HL1.out b hb with h | h
                · exact .inl (.inr (.inl h))
                · exact .inr (by omega)).trans ⟨rfl, rfl, rfl, by simp [World.setCell], fun b _ hb => Go.heap_setCell_other _ _ _ _ fun e => hb (.inl e)⟩
            · rcases HUP7.out.loc b hb with h | h
              · rcases HL1.out b h with h | h
                · exact .inl h
                · exact .inr (by omega)
              · rw [h]; exact .inr (by simp; omega)
            · have hs7 := HUP7.out.size
              have hs8 : (w7.setCell ⟨k, 0, none⟩ (.slice (some ⟨g2, 0, none⟩) (nl + 1 + 1) cb2)).heap.size = w7.heap.size := by simp [World.setCell]
              rw [World.size_alloc] at hs7
              rcases hb with hb | hb
              · have hvl := HVL.out b hb
                refine ⟨fun e => ?_, (HBV.out b hb).2, by omega⟩
                rcases HUP7.out.loc b e with h | h
                · rcases HL1.out b h with h | h
                  · exact (HBV.out b hb).1 h
                  · omega
                · rw [World.size_alloc] at h; omega
              · have hll := HLL.out b hb
                refine ⟨fun e => ?_, fun e => HSEP.out b (.inl e) (HLOC.out b hb), by omega⟩
                obtain ⟨cs, hcs⟩ := HTY.out b hb
                obtain ⟨ds, hds⟩ := rowCells p2.bo e
                exact neType ((HF2.out b hll (HLOC.out b hb)).trans hcs) hds (by decide) rfl)
          clear ho7 hup7 p2 hr7 r2 HUP7 HBB k6 k7
          go_wp2
          go_end0
          exact ⟨rfl, _, _, HKP.out⟩
end Go.Proofs.YtnjlbkbhlcccmaaDoor
