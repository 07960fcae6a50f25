import Derived.Test.YtglajdmkbckjjabBDe
import Derived.Test.YtglajdmkbckjjabBCopied
import Derived.Test.YtglajdmkbckjjabBHelp
import Derived.Laws.MakeOwn
namespace Go.Proofs.Ytglajdmkbckjjab
open Go.RowKit Go.Shelf
set_option linter.unusedVariables false
set_option linter.unusedSimpArgs false
set_option maxRecDepth 20000

theorem CSl.getLt8 {w : World} {v : Value} {l : List Nat} (h : CSl w v l) (i : Nat) : l.getD i 0 < 256 := by
  obtain ⟨_, _, _, _, _, h3, _⟩ := h
  by_cases hi : i < l.length
  · exact h3 _ (mem_getD hi)
  · simp [List.getD, List.getElem?_eq_none (Nat.le_of_not_lt hi)]
theorem CSl.lt {w : World} {v : Value} {l : List Nat} (h : CSl w v l) : ∀ x ∈ l, x < 256 := by obtain ⟨_, _, _, _, _, h3, _⟩ := h; exact h3
set_option maxHeartbeats 400000 in
theorem sameBytes_any {w : World} {v1 v2 : Value} {l1 l2 : List Nat} (h1 : CSl w v1 l1) (h2 : CSl w v2 l2) :
    Calls Try.prog 22 #[v1, v2] w fun e w' => e = .returned (.bool (decide (l1 = l2))) ∧ Qt w w' := by
  have g1 := hide h1.getLt8
  have g2 := hide h2.getLt8
  obtain ⟨a, cap, rfl, hl, hm, hb, hcell⟩ := h1
  obtain ⟨a2, cap2, rfl, hl2, hm2, hb2, hcell2⟩ := h2
  unfold maxLen at hm hm2
  have HC := hide hcell
  have HC2 := hide hcell2
  clear hb2 hb hcell hcell2
  by_cases hlen : l1.length = l2.length
  · have HIFF := hide (take_eq_iff hlen)
    have HLEN := hide hlen
    rw [← hlen] at HC2 hl2
    rw [← hlen]
    clear hlen
    generalize hR : decide (l1 = l2) = R
    have HR := hide hR
    clear hR
    generalize hL : l1.length = len at *
    clear hL
    go_enter Try.func22, Try.ntmps22
    go_wp2
    go_loopw [5] (fun i wr => ∃ k : Nat, k ≤ len ∧ i = .int .i64 k ∧ (∀ i, i < k → l1.getD i 0 = l2.getD i 0) ∧ ∃ n, wr = w.drewN n) (fun i _ => len - (intOf i).toNat)
    case atStart => exact ⟨0, Nat.zero_le _, rfl, fun i hi => by omega, 0, rfl⟩
    case round =>
      obtain ⟨k, hk, rfl, hz, n, rfl⟩ := hrel
      have HZ := hide hz
      clear hz
      by_cases hlt : k < len
      · obtain ⟨b, off, rfl, hcell⟩ := HC.out (by omega)
        obtain ⟨b2, off2, rfl, hcell2⟩ := HC2.out (by omega)
        have hck := hcell k hlt
        have hck2 := hcell2 k hlt
        have hx := g1.out k
        have hy := g2.out k
        clear hcell hcell2 HC HC2
        by_cases hxy : l1.getD k 0 = l2.getD k 0
        · have HN : Hid (∀ i, i < k + 1 → l1.getD i 0 = l2.getD i 0) := hide fun i hi => by
            by_cases e : i = k
            · rw [e]; exact hxy
            · exact HZ.out i (by omega)
          rw [← hxy] at hck2
          clear hxy HZ
          generalize l1.getD k 0 = x at *
          have hne : ((x : Int) != (x : Int)) = false := by simp
          go_wp2
          go_quiet (fail)
          go_wp2
          go_roundw
          case rel => exact ⟨k + 1, by omega, by go_num, HN.out, _, rfl⟩
          case measure => simp [intOf]; omega
        · have HF : Hid (R = false) := hide (by
            rw [← HR.out]
            exact decide_eq_false fun e => hxy (by rw [e]))
          have hne : (((l1.getD k 0 : Nat) : Int) != ((l2.getD k 0 : Nat) : Int)) = true := by simp only [bne_iff_ne, ne_eq]; omega
          clear hxy HZ
          generalize l1.getD k 0 = x at *
          generalize l2.getD k 0 = y at *
          go_wp2
          go_quiet (fail)
          go_wp2
          go_ret
          exact ⟨ret_bool HF.out.symm, ((Qt.refl _).drewN _).drewN _⟩
      · have HT : Hid (R = true) := hide (by
          rw [← HR.out]
          exact decide_eq_true (HIFF.out.2 fun i hi => HZ.out i (by omega)))
        go_wp2
        go_ret
        exact ⟨ret_bool HT.out.symm, (Qt.refl _).drewN _⟩
  · have hR : decide (l1 = l2) = false := decide_eq_false fun e => hlen (by rw [e])
    rw [hR]
    have hne : ((l1.length : Int) != (l2.length : Int)) = true := by simp only [bne_iff_ne, ne_eq]; omega
    clear hlen hR HC HC2 g1 g2
    generalize l1.length = len1 at *
    generalize l2.length = len2 at *
    go_enter Try.func22, Try.ntmps22
    go_wp2
    go_ret
    exact ⟨rfl, Qt.refl _⟩
theorem Try.infoB : (Try.prog.info? 5).map (fun i => (i.zero, i.size, i.bytes)) = some (some (.int .u8 0), 1, 1) := by kernel_rfl
theorem infoBs : ∃ i, Try.prog.info? 5 = some i ∧ i.zero = some (.int .u8 0) ∧ i.size = 1 ∧ i.bytes = 1 := by
  have h := Try.infoB
  cases hi : Try.prog.info? 5 with
  | none => rw [hi] at h; simp at h
  | some i => rw [hi] at h; simp at h; exact ⟨i, rfl, h.1, h.2.1, h.2.2⟩
def bpRow (len : Nat) (f : Nat → Nat) : Array Value := ((List.range len).map fun i => Value.int .u8 (f i : Nat)).toArray
theorem bpRow_size (len : Nat) (f : Nat → Nat) : (bpRow len f).size = len := by simp [bpRow]
theorem bpRow_get {len i : Nat} (f : Nat → Nat) (h : i < len) : (bpRow len f)[i]? = some (.int .u8 (f i : Nat)) := by
  simp [bpRow, h]
theorem bpRow_congr {len : Nat} {f g : Nat → Nat} (h : ∀ i, i < len → f i = g i) : bpRow len f = bpRow len g := by
  unfold bpRow
  congr 1
  exact List.map_congr_left fun i hi => by rw [h i (List.mem_range.1 hi)]
theorem bpRow_set {len k x : Nat} {f g : Nat → Nat} (hk : k < len) (h1 : g k = x) (h2 : ∀ i, i < len → i ≠ k → g i = f i) : (bpRow len f).setIfInBounds k (.int .u8 (x : Int)) = bpRow len g := by
  apply Array.ext_getElem?
  intro i
  by_cases hi : i < len
  · by_cases e : i = k
    · subst e
      rw [Array.getElem?_setIfInBounds_self_of_lt (by rw [bpRow_size]; exact hi), bpRow_get g hi, h1]
    · rw [Array.getElem?_setIfInBounds_ne (by omega), bpRow_get f hi, bpRow_get g hi, h2 i hi e]
  · rw [Array.getElem?_eq_none (by simp [bpRow_size]; omega), Array.getElem?_eq_none (by simp [bpRow_size]; omega)]

theorem run_bytes8 (n : Nat) (hn : n ≤ 140737488355328) (w : World) :
    (Instr.makeSlice 23 (.int .i64 (n : Int)) (.int .i64 (n : Int))).run Try.prog w = .ok (.slice (some ⟨w.heap.size, 0, none⟩) n n) (w.alloc (.cells (bpRow n fun _ => 0) 5)) := by
  obtain ⟨i0, hi, hz0, hz1, hz2⟩ := infoBs
  have hr := run_make (P := Try.prog) w 23 5 i0 (.int .u8 0) Try.underlying23 hi hz0 .i64 .i64 (n : Int) (n : Int) (by omega) (Int.le_refl _) (by rw [hz2]; omega) (by omega)
  simp only [Int.toNat_natCast] at hr
  have e : madeCells (Value.int IntKind.u8 0).cells n = bpRow n fun _ => 0 := by
    apply Array.ext_getElem?
    intro i
    by_cases h : i < n
    · rw [bpRow_get _ h]
      simp [madeCells, Value.cells, h, Nat.mod_one]
    · rw [Array.getElem?_eq_none (by simp [madeCells]; omega), Array.getElem?_eq_none (by rw [bpRow_size]; omega)]
  rw [hz1, Nat.mul_one, e] at hr
  exact hr
/-- what bytesOf gives: new memory with marks behind its end -/
def Bo (N : Nat) (w : World) (v : Value) (l : List Nat) : Prop :=
  ∃ g, v = .slice (some ⟨g, 0, none⟩) l.length (l.length + 3) ∧ N ≤ g ∧ w.heap[g]? = some (.cells (bpRow (l.length + 3) fun i => if i < l.length then l.getD i 0 else 199) 5 (0, 0))
set_option maxHeartbeats 400000 in
theorem bytesOf_any {w : World} {v : Value} {l : List Nat} (h : CSl w v l) (hr : l.length ≤ 140737488351232) :
    Calls Try.prog 4 #[v] w fun e w' => ∃ v', e = .returned v' ∧ Bo w.heap.size w' v' l ∧ Below w.heap.size w w' := by
  have H := hide h
  obtain ⟨a, cap, rfl, q1, q2, q4, q5⟩ := h
  unfold maxLen at q2
  have HC : Hid (∀ k, k < l.length → ∃ b off, a = some ⟨b, off, none⟩ ∧ b < w.heap.size ∧ w.cell? ⟨b, off + k, none⟩ = some (.int .u8 (l.getD k 0 : Nat))) := hide fun k hk => by
    obtain ⟨b, off, rfl, hc⟩ := q5 (by omega)
    exact ⟨b, off, rfl, World.block_lt_of_cell? w _ (hc k hk), hc k hk⟩
  have HL := hide H.out.lt
  have HG := hide H.out.getLt8
  clear q4 q5
  have hmk := run_bytes8 (l.length + 3) (by omega)
  have HZ : Hid ((w.alloc (.cells (bpRow (l.length + 3) (fun _ => 0)) 5)).heap[w.heap.size]? = some (.cells (bpRow (l.length + 3) fun i => if i < 0 then 199 else 0) 5 (0, 0))) := hide (by
    rw [Go.heap_alloc_new w _]; simp)
  generalize hZ : bpRow (l.length + 3) (fun _ => 0) = Z at *
  clear hZ
  obtain ⟨ROW, hROW⟩ : ∃ ROW : (Nat → Nat) → Array Value, ∀ f, ROW f = bpRow (l.length + 3) f := ⟨_, fun _ => rfl⟩
  have HROW := hide hROW
  simp only [← hROW] at HZ
  clear hROW
  obtain ⟨F, hF⟩ : ∃ F : Nat → Nat, ∀ k, F k = l.getD k 0 := ⟨_, fun _ => rfl⟩
  have HF := hide hF
  simp only [← hF] at HC HG
  clear hF
  obtain ⟨len, hlen⟩ : ∃ len, l.length = len := ⟨_, rfl⟩
  have HLEN := hide hlen
  rw [hlen] at hmk HC q1 hr HROW ⊢
  clear hlen
  have hmk' : ∀ W : World, (Instr.makeSlice 23 (.int .i64 ((len : Int) + 3)) (.int .i64 ((len : Int) + 3))).run Try.prog W = .ok (.slice (some ⟨W.heap.size, 0, none⟩) (len + 3) (len + 3)) (W.alloc (.cells Z 5)) := fun W => by
    have := hmk W
    rw [Int.natCast_add] at this
    exact this
  clear hmk
  go_enter Try.func4, Try.ntmps4
  go_wp2_with fail
  go_loopw [4] (fun i wr => ∃ k : Nat, k ≤ len + 3 ∧ i = .int .i64 (k : Int) ∧ Below w.heap.size w wr ∧ wr.heap[w.heap.size]? = some (.cells (ROW fun i => if i < k then 199 else 0) 5 (0, 0))) (fun i _ => len + 3 - (intOf i).toNat)
  case atStart => exact ⟨0, by omega, rfl, (Below.refl _ _).alloc (Nat.le_refl _) _, HZ.out⟩
  case round =>
    obtain ⟨k, hk, rfl, hb, hrow⟩ := hrel
    have HB := hide hb
    clear hb HZ
    by_cases hlt : k < len + 3
    · have hc : wr.cell? ⟨w.heap.size, k, none⟩ = some (.int .u8 (0 : Nat)) := by rw [cell_of_row _ _ _ _ _ _ hrow, HROW.out, bpRow_get _ hlt, if_neg (by omega)]
      have hf : wr.frozen? ⟨w.heap.size, k, none⟩ = false := frozen_of_row _ _ _ _ 5 hrow
      have HN : Hid ((wr.setCell ⟨w.heap.size, k, none⟩ (.int .u8 199)).heap[w.heap.size]? = some (.cells (ROW fun i => if i < k + 1 then 199 else 0) 5 (0, 0))) := hide (by
        rw [Go.heap_setCell_same wr w.heap.size k _ 5 _ hrow, HROW.out, HROW.out]
        have := bpRow_set (len := len + 3) (k := k) (x := 199) (f := fun i => if i < k then 199 else 0) (g := fun i => if i < k + 1 then 199 else 0) hlt (by simp) (fun i _ hne => by
          by_cases hik : i < k
          · rw [if_pos hik, if_pos (by omega)]
          · rw [if_neg hik, if_neg (by omega)])
        rw [← this]; rfl)
      clear hrow
      go_wp2_with fail
      go_roundw
      case rel => exact ⟨k + 1, by omega, by go_num, HB.out.setCell (p := ⟨w.heap.size, k, none⟩) (Nat.le_refl _) _, HN.out⟩
      case measure => simp [intOf]; omega
    · have HR : Hid (wr.heap[w.heap.size]? = some (.cells (ROW fun i => if i < 0 then F i else 199) 5 (0, 0))) := hide (by
        rw [hrow, HROW.out, HROW.out]
        congr 2
        exact bpRow_congr fun i hi => by rw [if_pos (by omega), if_neg (by omega)])
      clear hrow
      go_wp2_with fail
      go_loopw [5] (fun i wr => ∃ k : Nat, k ≤ len ∧ i = .int .i64 (k : Int) ∧ Below w.heap.size w wr ∧ wr.heap[w.heap.size]? = some (.cells (ROW fun i => if i < k then F i else 199) 5 (0, 0))) (fun i _ => len - (intOf i).toNat)
      case atStart => exact ⟨0, by omega, rfl, HB.out, HR.out⟩
      case round =>
        obtain ⟨k2, hk2, rfl, hb2, hrow2⟩ := hrel
        have HB2 := hide hb2
        clear HB HR
        by_cases hlt2 : k2 < len
        · obtain ⟨b, off, rfl, hbl, hcv⟩ := HC.out k2 hlt2
          have hcv' := (hb2.cell (p := ⟨b, off + k2, none⟩) hbl).trans hcv
          have hx := HG.out k2
          have hc : wr.cell? ⟨w.heap.size, k2, none⟩ = some (.int .u8 (199 : Nat)) := by rw [cell_of_row _ _ _ _ _ _ hrow2, HROW.out, bpRow_get _ (by omega), if_neg (by omega)]
          have hf : wr.frozen? ⟨w.heap.size, k2, none⟩ = false := frozen_of_row _ _ _ _ 5 hrow2
          have HN : Hid ((wr.setCell ⟨w.heap.size, k2, none⟩ (.int .u8 (F k2 : Nat))).heap[w.heap.size]? = some (.cells (ROW fun i => if i < k2 + 1 then F i else 199) 5 (0, 0))) := hide (by
            rw [Go.heap_setCell_same wr w.heap.size k2 _ 5 _ hrow2, HROW.out, HROW.out]
            have := bpRow_set (len := len + 3) (k := k2) (x := F k2) (f := fun i => if i < k2 then F i else 199) (g := fun i => if i < k2 + 1 then F i else 199) (by omega) (by simp) (fun i _ hne => by
              by_cases hik : i < k2
              · rw [if_pos hik, if_pos (by omega)]
              · rw [if_neg hik, if_neg (by omega)])
            rw [← this])
          clear hrow2 hb2 hcv HC
          generalize F k2 = x at *
          go_wp2_with fail
          go_roundw
          case rel => exact ⟨k2 + 1, by omega, by go_num, HB2.out.setCell (p := ⟨w.heap.size, k2, none⟩) (Nat.le_refl _) _, HN.out⟩
          case measure => simp [intOf]; omega
        · have ek : k2 = len := by omega
          have HCP : Hid (Bo w.heap.size wr (.slice (some ⟨w.heap.size, 0, none⟩) len (len + 3)) l) := hide (⟨w.heap.size, by rw [HLEN.out], Nat.le_refl _, by
            rw [hrow2, HROW.out, ek, HLEN.out]
            congr 2
            exact bpRow_congr fun i hi => by rw [HF.out]⟩)
          clear hrow2 hb2 ek
          go_wp2_with fail
          go_ret
          exact ⟨_, rfl, HCP.out, HB2.out⟩
theorem Bo.cslZ {N : Nat} {w : World} {v : Value} {l : List Nat} (h : Bo N w v l) (hl : l.length ≤ 140737488351232) (hb : ∀ x ∈ l, x < 256) : CSl w v l := by
  obtain ⟨g, rfl, hg, hh⟩ := h
  refine ⟨_, _, rfl, by omega, by unfold maxLen; omega, hb, fun _ => ⟨g, 0, rfl, fun i hi => ?_⟩⟩
  rw [cell_of_row _ _ _ _ _ _ hh, Nat.zero_add, bpRow_get _ (by omega), if_pos hi]
end Go.Proofs.Ytglajdmkbckjjab
