import Derived.Test.YtlpmpicmpklaoacGreatELaw1
namespace Go.Proofs.YtlpmpicmpklaoacGreat
open Go.RowKit Go.Maps Go.Sort
set_option linter.unusedVariables false
set_option linter.unusedSimpArgs false
set_option maxRecDepth 20000

/-- what may have turned: a block, and new ones -/
structure But1 (w w' : World) (g : Nat) : Prop where
  os : w'.os = w.os
  tape : w'.tape = w.tape
  output : w'.output = w.output
  size : w.heap.size ≤ w'.heap.size
  keep : ∀ b, b < w.heap.size → b ≠ g → w'.heap[b]? = w.heap[b]?
theorem But1.refl (w : World) (g : Nat) : But1 w w g := ⟨rfl, rfl, rfl, Nat.le_refl _, fun _ _ _ => rfl⟩
theorem But1.trans {w w1 w2 : World} {g : Nat} (h : But1 w w1 g) (k : But1 w1 w2 g) : But1 w w2 g :=
  ⟨k.os.trans h.os, k.tape.trans h.tape, k.output.trans h.output, Nat.le_trans h.size k.size, fun b hb hn => (k.keep b (Nat.lt_of_lt_of_le hb h.size) hn).trans (h.keep b hb hn)⟩

set_option maxHeartbeats 1000000 in
theorem grown_any {w : World} {g : Nat} {l : List Nat} (hp : PieceAt w g l) (hl : l.length ≤ 140737488355000) (m : Nat) (hm : m < 256) :
    Calls Tryz.prog 72 #[sl g l.length, .int .u8 (m : Int)] w fun e w' => ∃ a n c, e = .returned (.slice a n c) ∧ But1 w w' g := by
  obtain ⟨i0, hi, hz0, hz1, hz2⟩ := info_parts info_u8
  have START : Hid (w.ownsRow 0 5 1 (sl g l.length) l.length (l.map byteV)) := hide ⟨by simp, .inr ⟨g, l.length, _, rfl, Nat.zero_le _, hp.1, Nat.le_refl _, hp.2.2.1, by simp, by simp [List.take_of_length_le]⟩⟩
  have hg := hp.lt
  clear hp
  go_enter Tryz.func72, Tryz.ntmps72
  go_wp2
  go_loopw [0, 5] (fun lv x wr => ∃ (i : Nat) (xs : List Value), i ≤ 90 ∧ x = .int .i64 (i : Int) ∧ wr.ownsRow 0 5 1 lv (l.length + i) xs ∧ But1 w wr g ∧ (∀ b, lv.ownBlock = some b → b = g ∨ w.heap.size ≤ b)) (fun _ x _ => 90 - (intOf x).toNat)
  case atStart => exact ⟨0, _, Nat.zero_le _, rfl, START.out, But1.refl _ _, fun b hb => by simp [Value.ownBlock] at hb; exact .inl hb.symm⟩
  case round =>
    clear START
    obtain ⟨i, xs, hin, rfl, hown, hbut, hob⟩ := hrel
    have HOW := hide hown
    have HBU := hide hbut
    have HOB := hide hob
    clear hown hbut hob
    by_cases hlt : i < 90
    · have r3a := HOW.out.alloc (.cells #[.int .u8 (m : Int)] 5)
      have hsz := HBU.out.size
      go_wp2_with (at_builtin; refine wpList_append_own_at _ rfl (.tmp 10) (.tmp 12) 22 rfl 0 5 i0 (.int .u8 0) 1 1 Tryz.underlying22 hi hz0 hz1 hz2 rfl (by decide) _ _ _ rfl r3a ⟨wr.heap.size, 0, none⟩ 1 1 [.int .u8 (m : Int)] rfl rfl (cell_one_new _ _ _) (by simp [Value.oneCell']) (by unfold maxLen; omega) (by omega) (Nat.zero_le _) ?_)
      intro lv' w4 ho4 hg4 hn4 hloc4
      have HNB : Hid (But1 w w4 g) := hide ⟨hg4.os.trans HBU.out.os, hg4.tape.trans HBU.out.tape, hg4.output.trans HBU.out.output, by have := hg4.size; simp at this; omega, fun b hb hne => by
        rw [hg4.block b (by simp; omega) fun e => by rcases HOB.out b e.symm with h | h <;> omega, Below.heap_alloc _ _ b (by omega)]
        exact HBU.out.keep b hb hne⟩
      have HNO : Hid (∀ b, lv'.ownBlock = some b → b = g ∨ w.heap.size ≤ b) := hide fun b hb => by
        rcases hloc4 with e | e
        · exact HOB.out b (e ▸ hb)
        · rw [e] at hb
          simp at hb
          exact .inr (by omega)
      have HO4 := hide ho4
      clear ho4 hg4 hn4 hloc4 r3a
      go_wp2
      go_roundw
      case rel => exact ⟨i + 1, _, by omega, by go_num, HO4.out, HNB.out, HNO.out⟩
      case measure => simp [intOf]; omega
    · obtain ⟨a, c, e, -, -⟩ := rowForm HOW.out
      subst e
      go_wp2
      go_ret
      exact ⟨_, _, _, rfl, HBU.out⟩

def pairRow (D R : Value) (nx : Nat) (bv : Value) : Array Value := #[D, R, .bool false, bv, .slice none 0 0, .slice none 0 0, .slice none 0 0, .int .i64 (nx : Int), .bool false, .slice none 0 0, .slice none 0 0, .slice none 0 0, .slice none 0 0]
/-- the pair, and the lists that its book holds -/
structure BookAt (w : World) (pp : Nat) (D R : Value) (nx : Nat) (bv : Value) (k : Nat) : Prop where
  row : w.heap[pp]? = some (.cells (pairRow D R nx bv) 40 (0, 0))
  bo : ∃ xs, w.ownsRow 0 22 1 bv k xs
theorem BookAt.kept {w w' : World} {pp nx k : Nat} {D R bv : Value} (h : BookAt w pp D R nx bv k) (hp : w'.heap[pp]? = w.heap[pp]?) (hb : ∀ b, bv.ownBlock = some b → w'.heap[b]? = w.heap[b]?) : BookAt w' pp D R nx bv k := by
  obtain ⟨xs, h2⟩ := h.bo
  exact ⟨hp.trans h.row, xs, rowKept h2 hb⟩
theorem BookAt.cell {w : World} {pp nx k : Nat} {D R bv : Value} (h : BookAt w pp D R nx bv k) (i : Nat) : w.cell? ⟨pp, i, none⟩ = (pairRow D R nx bv)[i]? := cell_of_row _ _ _ _ _ _ h.row
theorem BookAt.free {w : World} {pp nx k : Nat} {D R bv : Value} (h : BookAt w pp D R nx bv k) (i : Nat) : w.frozen? ⟨pp, i, none⟩ = false := frozen_of_row _ _ _ _ 40 h.row
theorem BookAt.lt {w : World} {pp nx k : Nat} {D R bv : Value} (h : BookAt w pp D R nx bv k) : pp < w.heap.size := (Array.getElem?_eq_some_iff.1 h.row).1

theorem BookAt.push {wa w6 : World} {pp nx k : Nat} {D R bv v6 : Value} {zs : List Value} (h : BookAt wa pp D R nx bv k) (ho : w6.ownsRow 0 22 1 v6 (k + 1) zs) (hg : wa.grownBy w6 bv.ownBlock) :
    BookAt (w6.setCell ⟨pp, 3, none⟩ v6) pp D R nx v6 (k + 1) ∧ ∀ b, b < wa.heap.size → b ≠ pp → bv.ownBlock ≠ some b → (w6.setCell ⟨pp, 3, none⟩ v6).heap[b]? = wa.heap[b]? := by
  obtain ⟨xs, hx⟩ := h.bo
  have hr6 : w6.heap[pp]? = some (.cells (pairRow D R nx bv) 40 (0, 0)) := (hg.block pp h.lt fun e => by
    obtain ⟨cs, hcs⟩ := rowCells hx e.symm
    exact neType hcs h.row (by decide) rfl).trans h.row
  refine ⟨⟨Go.heap_setCell_same w6 pp 3 _ 40 _ hr6, zs, rowKept ho fun b hb => Go.heap_setCell_other _ _ _ _ ?_⟩, fun b hb hne hbv => ?_⟩
  · obtain ⟨cs, hcs⟩ := rowCells ho hb
    exact neType hcs hr6 (by decide)
  · rw [Go.heap_setCell_other _ _ _ _ hne]
    exact hg.block b hb fun e => hbv e.symm

/-- the marks are laid -/
structure FInv2 (w wr : World) (pp g : Nat) (n : Nat) : Prop where
  os : wr.os = w.os
  tape : wr.tape = w.tape
  output : wr.output = w.output
  size : wr.heap.size = w.heap.size
  keep : ∀ b, b ≠ g → wr.heap[b]? = w.heap[b]?
  pc : ∃ l : List Nat, l.length = n ∧ PieceAt wr g l
theorem FInv2.set {w wr : World} {pp g n i x : Nat} (h : FInv2 w wr pp g n) (hi : i < n) (hx : x < 256) : FInv2 w (wr.setCell ⟨g, i, none⟩ (.int .u8 (x : Int))) pp g n := by
  obtain ⟨l, hl, hp⟩ := h.pc
  refine ⟨h.os, h.tape, h.output, by simp [World.setCell]; exact h.size, fun b hb => (Go.heap_setCell_other _ _ _ _ hb).trans (h.keep b hb), l.set i x, by simpa using hl, ?_, fun b hb => ?_, by simpa using hp.2.2.1, by simpa using hp.2.2.2⟩
  · rw [Go.heap_setCell_same wr g i _ 5 _ hp.1]
    simp [List.map_set, byteV]
  · rcases List.mem_or_eq_of_mem_set hb with h | h
    · exact hp.2.1 b h
    · rw [h]; exact hx

set_option maxHeartbeats 2000000 in
theorem bookBytes {w : World} {pp nx k g : Nat} {D R bv : Value} {l : List Nat} (h : BookAt w pp D R nx bv k) (hp : PieceAt w g l) (hl : l.length ≤ 140737488355000) (hnx : nx ≤ 1152921504606846976) (hk : k ≤ 1152921504606) :
    Calls Tryz.prog 27 #[.pointer (some ⟨pp, 3, none⟩), sl g l.length] w fun e w' => e = .returned (.tuple #[]) ∧ ∃ bv', BookAt w' pp D R (nx + 1) bv' (k + 2) ∧ w'.os = w.os ∧ w'.tape = w.tape ∧ w'.output = w.output ∧ w.heap.size ≤ w'.heap.size ∧
      (∀ b, b < w.heap.size → b ≠ pp → b ≠ g → bv.ownBlock ≠ some b → w'.heap[b]? = w.heap[b]?) ∧ (∀ b, bv'.ownBlock = some b → bv.ownBlock = some b ∨ w.heap.size ≤ b) := by
  have hk3 : (k + 1) * 24 ≤ 140737488355328 := Nat.le_trans (Nat.mul_le_mul_right 24 (show k + 1 ≤ 1152921504608 by omega)) (by decide)
  have hk4 : (k + 1 + 1) * 24 ≤ 140737488355328 := Nat.le_trans (Nat.mul_le_mul_right 24 (show k + 1 + 1 ≤ 1152921504608 by omega)) (by decide)
  have hmx1 : k + 1 ≤ maxLen := by unfold maxLen; omega
  have hmx : k + 1 + 1 ≤ maxLen := by unfold maxLen; omega
  have HK3 := hide hk3
  have HK4 := hide hk4
  have HM1 := hide hmx1
  have HM2 := hide hmx
  clear hk3 hk4 hmx1 hmx
  obtain ⟨i0, hi, hz0, hz1, hz2⟩ := info_parts info_bytes
  have H := hide h
  have HP := hide hp
  have c8 : w.cell? ⟨pp, 8, none⟩ = some (.bool false) := h.cell 8
  have c7 : w.cell? ⟨pp, 7, none⟩ = some (.int .i64 (nx : Int)) := h.cell 7
  have f7 := h.free 7
  have hmod : Int.tmod (nx : Int) 250 = ((nx % 250 : Nat) : Int) := rfl
  have hml : nx % 250 < 250 := Nat.mod_lt _ (by decide)
  have hwu : IntKind.u8.wrap (1 + ((nx % 250 : Nat) : Int)) = ((1 + nx % 250 : Nat) : Int) := by simp [IntKind.wrap, IntKind.bits, IntKind.signed]; omega
  have hnum : ((nx + 1 : Nat) : Int) = (nx : Int) + 1 := by omega
  have hnp : g ≠ pp := neType hp.1 h.row (by decide)
  have hgl := hp.lt
  clear h hp
  generalize hmm : nx % 250 = mm at *
  have HNP := hide hnp
  clear hmm hnp
  go_enter Tryz.func27, Tryz.ntmps27
  have hB1 : BookAt (w.setCell ⟨pp, 7, none⟩ (.int .i64 ((nx + 1 : Nat) : Int))) pp D R (nx + 1) bv k := by
    obtain ⟨xs, hx⟩ := H.out.bo
    refine ⟨Go.heap_setCell_same w pp 7 _ 40 _ H.out.row, xs, rowKept hx fun b hb => Go.heap_setCell_other _ _ _ _ ?_⟩
    obtain ⟨cs, hcs⟩ := rowCells hx hb
    exact neType hcs H.out.row (by decide)
  have hk1 : ∀ b, b ≠ pp → (w.setCell ⟨pp, 7, none⟩ (.int .i64 ((nx + 1 : Nat) : Int))).heap[b]? = w.heap[b]? := fun b hb => Go.heap_setCell_other _ _ _ _ hb
  have hz1' : (w.setCell ⟨pp, 7, none⟩ (.int .i64 ((nx + 1 : Nat) : Int))).heap.size = w.heap.size := by simp [World.setCell]
  have START : Hid (FInv2 (w.setCell ⟨pp, 7, none⟩ (.int .i64 ((nx + 1 : Nat) : Int))) (w.setCell ⟨pp, 7, none⟩ (.int .i64 ((nx + 1 : Nat) : Int))) pp g l.length) := hide ⟨rfl, rfl, rfl, rfl, fun _ _ => rfl, l, rfl, HP.out.kept (hk1 g HNP.out)⟩
  rw [hnum] at hB1 hk1 hz1' START
  have HB1 := hide hB1
  have HK1 := hide hk1
  have HZ1 := hide hz1'
  have HOS : Hid ((w.setCell ⟨pp, 7, none⟩ (.int .i64 ((nx : Int) + 1))).os = w.os ∧ (w.setCell ⟨pp, 7, none⟩ (.int .i64 ((nx : Int) + 1))).tape = w.tape ∧ (w.setCell ⟨pp, 7, none⟩ (.int .i64 ((nx : Int) + 1))).output = w.output) := hide ⟨rfl, rfl, rfl⟩
  clear hB1 hk1 hz1' hnum
  go_wp2
  generalize hW1 : w.setCell ⟨pp, 7, none⟩ (.int .i64 ((nx : Int) + 1)) = w1 at *
  clear hW1
  have hm8 : 1 + mm < 256 := by omega
  have HCM : Hid (((1 + mm : Nat) : Int) = 1 + (mm : Int)) := hide (by omega)
  go_loopw [5] (fun x wr => ∃ i : Nat, i ≤ l.length ∧ x = .int .i64 (i : Int) ∧ FInv2 w1 wr pp g l.length) (fun x _ => l.length - (intOf x).toNat)
  case atStart => exact ⟨0, Nat.zero_le _, rfl, START.out⟩
  case round =>
    clear START
    obtain ⟨i, hin, rfl, hF⟩ := hrel
    have HF := hide hF
    clear hF
    by_cases hlt : i < l.length
    · have HNX := hide (HF.out.set (x := 1 + mm) hlt hm8)
      obtain ⟨l', hl', hp'⟩ := HF.out.pc
      have hcz : ∃ z, wr.cell? ⟨g, i, none⟩ = some z := by
        rw [cell_of_row _ _ _ _ _ _ hp'.1]
        exact ⟨_, Array.getElem?_eq_getElem (by simp; omega)⟩
      obtain ⟨z, hcz⟩ := hcz
      have hfz : wr.frozen? ⟨g, i, none⟩ = false := frozen_of_row _ _ _ _ 5 hp'.1
      clear hl' hp'
      rw [HCM.out] at HNX
      generalize 1 + (mm : Int) = mkv at *
      go_wp2
      go_roundw
      case rel => exact ⟨i + 1, by omega, by go_num, HNX.out⟩
      case measure => simp [intOf]; omega
    · obtain ⟨l', hl', hp'⟩ := HF.out.pc
      have hpg : pp ≠ g := fun e => HNP.out e.symm
      obtain ⟨xs, hxs⟩ := HB1.out.bo
      have hbg : ∀ b, bv.ownBlock = some b → b ≠ g := fun b hb => by
        obtain ⟨cs, hcs⟩ := rowCells hxs hb
        have hcs2 : w1.heap[g]? = _ := (HK1.out g HNP.out).trans HP.out.1
        exact neType hcs hcs2 (by decide)
      have HBr := hide (HB1.out.kept (HF.out.keep pp hpg) fun b hb => HF.out.keep b (hbg b hb))
      have HGR0 := grown_any (w := wr.drew) (g := g) (l := l') ⟨hp'.1, hp'.2⟩ (by omega) (1 + mm) hm8
      rw [hl'] at HGR0
      have HGR : Hid (Calls Tryz.prog 72 #[sl g l.length, .int .u8 ((1 + mm : Nat) : Int)] wr.drew fun e w' => ∃ a n c, e = .returned (.slice a n c) ∧ But1 wr.drew w' g) := hide HGR0
      obtain ⟨ab, cb, eb, -, -⟩ := rowForm hxs
      subst eb
      have k0 : wr.drew.cell? ⟨pp, 3, none⟩ = some (.slice ab k cb) := HBr.out.cell 3
      have HXS := hide hxs
      have HBG := hide hbg
      have HPG := hide hpg
      have HPL := hide HBr.out.lt
      clear HGR0 hl' hp' hxs hbg hpg
      rw [HCM.out] at HGR
      clear hwu
      generalize 1 + (mm : Int) = mkv at *
      have k00 : wr.cell? ⟨pp, 3, none⟩ = some (.slice ab k cb) := k0
      go_wp2_with fail
      go_region_law (first
        | (refine step_callTo rfl 72 #[sl g l.length, .int .u8 mkv] (by kernel_rfl) HGR.out (fun e w' h => by obtain ⟨a, n, c, h, _⟩ := h; exact ⟨_, h⟩) ?_; rintro v4 w4 ⟨a4, n4, c4, hv4, hb4⟩; injection hv4 with hv4; subst hv4; have HB4 := hide (HBr.out.kept (w' := w4) (hb4.keep pp HPL.out HPG.out) fun b hb => hb4.keep b (by obtain ⟨xs, hx⟩ := HBr.out.bo; exact (hx.lt b hb).2) (HBG.out b hb)); have k4 : w4.cell? ⟨pp, 3, none⟩ = some (.slice ab k cb) := HB4.out.cell 3; have HBU := hide hb4; have hbl := (Below.refl w4.heap.size w4).alloc (Nat.le_refl _) (.cells #[.slice a4 n4 c4] 22); have HB5 := hide (HB4.out.kept (hbl.block _ HB4.out.lt) fun b hb => hbl.block b (by obtain ⟨xs, hx⟩ := HB4.out.bo; exact (hx.lt b hb).2)); have k5 : (w4.alloc (.cells #[.slice a4 n4 c4] 22)).cell? ⟨pp, 3, none⟩ = some (.slice ab k cb) := HB5.out.cell 3; obtain ⟨ys, hys⟩ := HB5.out.bo; have HYS := hide hys; clear hb4 hbl hys)
        | (refine step_append_lies _ rfl (.tmp 60) (.tmp 64) 33 rfl 0 22 i0 (.slice none 0 0) 1 24 Tryz.underlying33 hi hz0 hz1 hz2 rfl (by decide) (.slice ab k cb) k ys rfl HYS.out ⟨w4.heap.size, 0, none⟩ 1 1 [.slice a4 n4 c4] rfl rfl (cell_one_new _ _ _) (by simp [Value.oneCell']) (by decide) HM1.out HK3.out (Nat.zero_le _) (w4.heap.size + 1) (by simp) ?_; intro g6 cap6 w6 ho6 hg6 hloc6 hlt6; have HO6 := hide ho6; have HG6 := hide hg6; have HL6 := hide hloc6; have hr6 := (hg6.block pp HB5.out.lt (fun e => by obtain ⟨cs, hcs⟩ := rowCells HYS.out e.symm; exact neType hcs HB5.out.row (by decide) rfl)).trans HB5.out.row; have k6 : w6.cell? ⟨pp, 3, none⟩ = some (.slice ab k cb) := (by rw [cell_of_row _ _ _ _ _ _ hr6]; rfl); have f6 : w6.frozen? ⟨pp, 3, none⟩ = false := frozen_of_row _ _ _ _ 40 hr6; have HR6 := hide hr6; clear ho6 hg6 hloc6 hlt6 hr6))
      all_goals
        obtain ⟨p1, p2⟩ := HB5.out.push HO6.out HG6.out
        have HP1 := hide p1
        have hs4 := HBU.out.size
        have hs6 := HG6.out.size
        have HK7 : Hid (∀ b, b < w.heap.size → b ≠ pp → b ≠ g → (Value.slice ab k cb).ownBlock ≠ some b → (w6.setCell ⟨pp, 3, none⟩ (.slice (some ⟨g6, 0, none⟩) (k + 1) cap6)).heap[b]? = w.heap[b]?) := hide fun b hb h1 h2 h3 => by
          have e1 := HF.out.size
          have e2 := HZ1.out
          have e3 : wr.drew.heap.size = wr.heap.size := rfl
          rw [p2 b (by simp; omega) h1 h3, Below.heap_alloc _ _ b (by omega), HBU.out.keep b (by omega) h2]
          show wr.heap[b]? = _
          rw [HF.out.keep b h2]
          exact HK1.out b h1
        have HOS7 : Hid ((w6.setCell ⟨pp, 3, none⟩ (.slice (some ⟨g6, 0, none⟩) (k + 1) cap6)).os = w.os ∧ (w6.setCell ⟨pp, 3, none⟩ (.slice (some ⟨g6, 0, none⟩) (k + 1) cap6)).tape = w.tape ∧ (w6.setCell ⟨pp, 3, none⟩ (.slice (some ⟨g6, 0, none⟩) (k + 1) cap6)).output = w.output) := hide
          ⟨HG6.out.os.trans (HBU.out.os.trans (HF.out.os.trans HOS.out.1)), HG6.out.tape.trans (HBU.out.tape.trans (HF.out.tape.trans HOS.out.2.1)), HG6.out.output.trans (HBU.out.output.trans (HF.out.output.trans HOS.out.2.2))⟩
        have HSZ7 : Hid (w.heap.size ≤ (w6.setCell ⟨pp, 3, none⟩ (.slice (some ⟨g6, 0, none⟩) (k + 1) cap6)).heap.size) := hide (by
          have e1 := HF.out.size
          have e2 := HZ1.out
          have e3 : wr.drew.heap.size = wr.heap.size := rfl
          simp [World.setCell] at *
          omega)
        have HOB7 : Hid (∀ b, (Value.slice (some ⟨g6, 0, none⟩) (k + 1) cap6).ownBlock = some b → (Value.slice ab k cb).ownBlock = some b ∨ w.heap.size ≤ b) := hide fun b hb => by
          simp only [Value.ownBlock, Option.some.injEq] at hb
          subst hb
          rcases HL6.out with e | e
          · exact .inl e
          · have e1 := HF.out.size
            have e2 := HZ1.out
            have e3 : wr.drew.heap.size = wr.heap.size := rfl
            exact .inr (by omega)
        have c3 : (w6.setCell ⟨pp, 3, none⟩ (.slice (some ⟨g6, 0, none⟩) (k + 1) cap6)).cell? ⟨pp, 3, none⟩ = some (.slice (some ⟨g6, 0, none⟩) (k + 1) cap6) := p1.cell 3
        have f3 := p1.free 3
        obtain ⟨zs, hzs⟩ := p1.bo
        have r3a := hzs.alloc (.cells #[sl g l.length] 22)
        have hpl7 := p1.lt
        have HR7 := hide p1.row
        clear p1 p2 hzs hs4 hs6
        generalize hW7 : w6.setCell ⟨pp, 3, none⟩ (.slice (some ⟨g6, 0, none⟩) (k + 1) cap6) = w7 at *
        have HW7 := hide hW7
        clear hW7
        go_wp2_with (first
          | (at_builtin; refine wpList_append_own_at _ rfl (.tmp 72) (.tmp 74) 33 rfl 0 22 i0 (.slice none 0 0) 1 24 Tryz.underlying33 hi hz0 hz1 hz2 rfl (by decide) _ _ _ rfl r3a ⟨w7.heap.size, 0, none⟩ 1 1 [sl g l.length] rfl rfl (cell_one_new _ _ _) (by simp [Value.oneCell']) HM2.out HK4.out (Nat.zero_le _) ?_)
          | (rw [HW7.out]))
        intro v9 w9 ho9 hg9 hn9 hloc9
        obtain ⟨a9, c9, e9, -, -⟩ := rowForm ho9
        subst e9
        obtain ⟨g9, rfl, -⟩ := rowAt ho9 (by omega)
        have hb9 := (Below.refl w7.heap.size w7).alloc (Nat.le_refl _) (.cells #[sl g l.length] 22)
        have HB9 := hide (HP1.out.kept (hb9.block _ hpl7) fun b hb => hb9.block b (by obtain ⟨xs, hx⟩ := HP1.out.bo; exact (hx.lt b hb).2))
        obtain ⟨y1, y2⟩ := HB9.out.push ho9 hg9
        have hr9 := (hg9.block pp HB9.out.lt (fun e => by obtain ⟨cs, hcs⟩ := rowCells r3a e.symm; exact neType hcs HB9.out.row (by decide) rfl)).trans HB9.out.row
        have k9 : w9.cell? ⟨pp, 3, none⟩ = some (.slice (some ⟨g6, 0, none⟩) (k + 1) cap6) := by rw [cell_of_row _ _ _ _ _ _ hr9]; rfl
        have f9 : w9.frozen? ⟨pp, 3, none⟩ = false := frozen_of_row _ _ _ _ 40 hr9
        have HY1 := hide y1
        have HFIN : Hid ((w9.setCell ⟨pp, 3, none⟩ (.slice (some ⟨g9, 0, none⟩) (k + 1 + 1) c9)).os = w.os ∧ (w9.setCell ⟨pp, 3, none⟩ (.slice (some ⟨g9, 0, none⟩) (k + 1 + 1) c9)).tape = w.tape ∧ (w9.setCell ⟨pp, 3, none⟩ (.slice (some ⟨g9, 0, none⟩) (k + 1 + 1) c9)).output = w.output ∧ w.heap.size ≤ (w9.setCell ⟨pp, 3, none⟩ (.slice (some ⟨g9, 0, none⟩) (k + 1 + 1) c9)).heap.size ∧
            (∀ b, b < w.heap.size → b ≠ pp → b ≠ g → (Value.slice ab k cb).ownBlock ≠ some b → (w9.setCell ⟨pp, 3, none⟩ (.slice (some ⟨g9, 0, none⟩) (k + 1 + 1) c9)).heap[b]? = w.heap[b]?) ∧ (∀ b, (Value.slice (some ⟨g9, 0, none⟩) (k + 1 + 1) c9).ownBlock = some b → (Value.slice ab k cb).ownBlock = some b ∨ w.heap.size ≤ b)) := hide (by
          have hs9 := hg9.size
          have hz7 := HSZ7.out
          simp only [World.size_alloc] at hs9
          refine ⟨hg9.os.trans HOS7.out.1, hg9.tape.trans HOS7.out.2.1, hg9.output.trans HOS7.out.2.2, by simp [World.setCell]; omega, fun b hb h1 h2 h3 => ?_, fun b hb => ?_⟩
          · rw [y2 b (by simp; omega) h1 (fun e => by rcases HOB7.out b e with h | h; exact h3 h; omega), Below.heap_alloc _ _ b (by omega)]
            exact HK7.out b hb h1 h2 h3
          · rcases hloc9 with e | e
            · exact HOB7.out b (e ▸ hb)
            · rw [e] at hb
              simp at hb
              exact .inr (by omega))
        clear ho9 hg9 hn9 hloc9 hr9 hb9 r3a y1 y2
        go_wp2
        go_end0
        exact ⟨rfl, _, HY1.out, HFIN.out⟩
end Go.Proofs.YtlpmpicmpklaoacGreat
