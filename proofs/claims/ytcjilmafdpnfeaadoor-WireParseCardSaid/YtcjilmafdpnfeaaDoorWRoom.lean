import Derived.Test.YtcjilmafdpnfeaaDoorByt
import Derived.Lib.SliceRun
namespace Go.Proofs.YtcjilmafdpnfeaaDoor
open Go.RowKit
open Num
set_option linter.unusedVariables false

set_option maxHeartbeats 400000 in
theorem same_eq (v1 v2 : Value) (l : List Nat) (w : World) (h1 : BSl w v1 l) (h2 : BSl w v2 l) :
    Calls Tryd.prog 18 #[v1, v2] w fun e w' => e = .returned (.bool true) ∧ ∃ n, w' = w.drewN n := by
  obtain ⟨a, cap, rfl, hl, hm, hn, hb, hcell⟩ := h1
  obtain ⟨a2, cap2, rfl, hl2, hm2, hn2, hb2, hcell2⟩ := h2
  unfold maxLen at hm hm2
  clear hb2 hn hn2
  have HB : Hid (∀ b ∈ l, b < 256) := hb
  have HC : Hid (0 < l.length → ∃ b off, a = some ⟨b, off, none⟩ ∧ ∀ i, i < l.length → w.cell? ⟨b, off + i, none⟩ = some (.int .u8 (l.getD i 0 : Nat))) := hcell
  have HC2 : Hid (0 < l.length → ∃ b off, a2 = some ⟨b, off, none⟩ ∧ ∀ i, i < l.length → w.cell? ⟨b, off + i, none⟩ = some (.int .u8 (l.getD i 0 : Nat))) := hcell2
  clear hb hcell hcell2
  go_enter Tryd.func18, Tryd.ntmps18
  go_wp2
  go_loopw [5] (fun i wr => ∃ k : Nat, k ≤ l.length ∧ i = .int .i64 k ∧ ∃ n, wr = w.drewN n) (fun i _ => l.length - (intOf i).toNat)
  case atStart => exact ⟨0, Nat.zero_le _, rfl, 0, rfl⟩
  case round =>
    obtain ⟨k, hk, rfl, n, rfl⟩ := hrel
    by_cases hlt : k < l.length
    · obtain ⟨b, off, rfl, hcell⟩ := HC.out (by omega)
      obtain ⟨b2, off2, rfl, hcell2⟩ := HC2.out (by omega)
      have hck := hcell k hlt
      have hck2 := hcell2 k hlt
      have hx : l.getD k 0 < 256 := HB.out _ (mem_getD hlt)
      clear hcell hcell2 HB HC HC2
      generalize l.getD k 0 = x at *
      go_wp2
      go_quiet (fail)
      go_wp2
      go_roundw
      case rel => exact ⟨k + 1, by omega, by go_num, _, rfl⟩
      case measure => simp [intOf]; omega
    · go_wp2
      go_ret
      exact ⟨rfl, n, rfl⟩

/-- the marks behind the end -/
def marks (k : Nat) : List Nat := (List.range k).map fun i => (165 ^^^ i) % 256

theorem marks_succ (k : Nat) : marks (k + 1) = marks k ++ [(165 ^^^ k) % 256] := by simp [marks, List.range_succ]
theorem marks_len (k : Nat) : (marks k).length = k := by simp [marks]
theorem marks_lt (k : Nat) : ∀ b ∈ marks k, b < 256 := by
  intro b hb
  obtain ⟨i, _, rfl⟩ := List.mem_map.1 hb
  omega

theorem xor165 : ∀ k : Nat, k < 40 → bits BinOp.xor IntKind.i64 165 (k : Int) % 256 = (((165 ^^^ k) % 256 : Nat) : Int) := by decide +kernel

theorem own_snoc {w : World} {base : Nat} {v : Value} {l : List Nat} {k : Nat} (hb : ∀ b ∈ l ++ marks k, b < 256) (hx : (165 ^^^ k) % 256 < 256)
    (h : w.ownsRow base 5 1 v ((l ++ marks k).length + 1) ((l ++ marks k).map byteV ++ [.int .u8 (((165 ^^^ k) % 256 : Nat) : Int)])) : Own w base v (l ++ marks (k + 1)) := by
  have e : l ++ marks (k + 1) = (l ++ marks k) ++ [(165 ^^^ k) % 256] := by rw [marks_succ, List.append_assoc]
  rw [e]
  refine ⟨?_, fun b hb' => ?_⟩
  · rw [List.length_append, List.map_append]; exact h
  · rcases List.mem_append.1 hb' with h1 | h1
    · exact hb b h1
    · simp only [List.mem_singleton] at h1; omega

set_option maxRecDepth 100000 in
set_option maxHeartbeats 1000000 in
theorem roomy_any (v : Value) (l : List Nat) (w : World) (h : BSl w v l) (hr : l.length + 40 ≤ 140737488355328) :
    Calls Tryd.prog 4 #[v] w fun e w' => ∃ v', e = .returned v' ∧ Own w' w.heap.size v' (l ++ marks 40) ∧ Below w.heap.size w w' := by
  obtain ⟨i0, hi, hz0, hz1, hz2⟩ := info_parts Tryd.info5
  have hmade : (w.alloc (.cells #[] 5)).ownsRow w.heap.size 5 1 (.slice (some ⟨w.heap.size, 0, none⟩) 0 0) 0 [] := World.ownsRow_made w #[] 0 (Nat.le_refl _) (by unfold maxLen; omega) rfl
  have h' := h
  obtain ⟨a, cap, rfl, hl, hm, hn, hb, hcell⟩ := h'
  have HB : Hid (∀ b ∈ l, b < 256) := hb
  cases a with
  | none =>
    have hc : cap = 0 := hn rfl
    have hl0 : Hid (l = []) := List.eq_nil_of_length_eq_zero (by omega)
    rw [show l.length = 0 from by omega, hc]
    clear hcell hn h hb hl hm hc
    go_enter Tryd.func4, Tryd.ntmps4
    go_wp2
    have START : Own (w.alloc (.cells #[] 5)) w.heap.size (.slice (some ⟨w.heap.size, 0, none⟩) 0 0) (l ++ marks 0) := by
      rw [hl0.out]; exact ⟨hmade, by simp [marks]⟩
    clear hmade
    go_loopw [3, 4] (fun v i wr => ∃ k : Nat, k ≤ 40 ∧ i = .int .i64 k ∧ Own wr w.heap.size v (l ++ marks k) ∧ Below w.heap.size w wr) (fun _ i _ => 40 - (intOf i).toNat)
    case atStart => exact ⟨0, Nat.zero_le _, rfl, START, (Below.refl _ _).alloc (Nat.le_refl _) _⟩
    case round =>
      clear START
      obtain ⟨k, hk, rfl, hown, hbel⟩ := hrel
      have hlen : (l ++ marks k).length = l.length + k := by simp [marks_len]
      have hsz := hbel.size
      by_cases hlt : k < 40
      · have hx := xor165 k hlt
        have HM : Hid (∀ wx vx, wx.ownsRow w.heap.size 5 1 vx ((l ++ marks k).length + 1) ((l ++ marks k).map byteV ++ [.int .u8 (((165 ^^^ k) % 256 : Nat) : Int)]) → Own wx w.heap.size vx (l ++ marks (k + 1))) := fun wx vx h => own_snoc hown.2 (by omega) h
        have how := hown.1
        have HO : Hid (∀ j, u3.ownBlock = some j → w.heap.size ≤ j) := fun j hj => (how.lt j hj).1
        clear hown
        generalize (165 ^^^ k) % 256 = x at *
        generalize hL : l ++ marks k = L at *
        have hL2 : Hid (l ++ marks k = L) := hL
        clear hL
        go_wp2_with (at_builtin; refine wpList_append_own _ rfl (.tmp 12) (.tmp 16) 22 rfl w.heap.size 5 i0 (.int .u8 0) 1 1 Tryd.underlying22 hi hz0 hz1 hz2 rfl (by decide) _ _ _ rfl (how.alloc _) ⟨wr.heap.size, 0, none⟩ 1 1 [.int .u8 (x : Int)] rfl rfl (cell_one_new _ _ _) (by simp [Value.oneCell']) (by unfold maxLen; omega) (by omega) (by simp; omega) ?_)
        intro v' w1 hown' hg _
        have R := HM.out w1 v' (by rw [hlen]; exact hown')
        have RB : Below w.heap.size w w1 := (hbel.alloc (by omega) _).grown hg (by simp; omega) HO.out
        clear hown' hg HM how HO hx
        go_wp2
        go_roundw
        case rel => exact ⟨k + 1, by omega, by go_num, R, RB⟩
        case measure => simp [intOf]; omega
      · go_wp2
        go_ret
        have : k = 40 := by omega
        subst this
        exact ⟨_, rfl, hown, hbel⟩
  | some ad =>
    have hnews := (h.below ((Below.refl _ _).alloc (Nat.le_refl _) (.cells #[] 5))).news
    have hone := byteV_oneCell l
    clear hn hcell h hb
    have hnl : (l.map byteV).length = l.length * 1 := by simp
    go_enter Tryd.func4, Tryd.ntmps4
    go_wp2_with (at_builtin; refine wpList_append_own _ rfl (.tmp 5) (.tmp 6) 22 rfl w.heap.size 5 i0 (.int .u8 0) 1 1 Tryd.underlying22 hi hz0 hz1 hz2 rfl (by decide) _ _ _ rfl hmade ad l.length cap (l.map byteV) rfl hnl hnews hone (by unfold maxLen; omega) (by omega) (by simp) ?_)
    intro v' w1 hown hg _
    have START : Own w1 w.heap.size v' (l ++ marks 0) := by
      rw [show l ++ marks 0 = l from by simp [marks]]; exact ⟨hown, HB.out⟩
    have RB0 : Below w.heap.size w w1 := ((Below.refl _ _).alloc (Nat.le_refl _) _).grown hg (by simp) (by simp [Value.ownBlock])
    clear hnews hone hnl hmade hown hg hl hm
    go_wp2
    go_loopw [3, 4] (fun v i wr => ∃ k : Nat, k ≤ 40 ∧ i = .int .i64 k ∧ Own wr w.heap.size v (l ++ marks k) ∧ Below w.heap.size w wr) (fun _ i _ => 40 - (intOf i).toNat)
    case atStart => exact ⟨0, Nat.zero_le _, rfl, START, RB0⟩
    case round =>
      clear START RB0
      obtain ⟨k, hk, rfl, hown, hbel⟩ := hrel
      have hlen : (l ++ marks k).length = l.length + k := by simp [marks_len]
      have hsz := hbel.size
      by_cases hlt : k < 40
      · have hx := xor165 k hlt
        have HM : Hid (∀ wx vx, wx.ownsRow w.heap.size 5 1 vx ((l ++ marks k).length + 1) ((l ++ marks k).map byteV ++ [.int .u8 (((165 ^^^ k) % 256 : Nat) : Int)]) → Own wx w.heap.size vx (l ++ marks (k + 1))) := fun wx vx h => own_snoc hown.2 (by omega) h
        have how := hown.1
        have HO : Hid (∀ j, u3.ownBlock = some j → w.heap.size ≤ j) := fun j hj => (how.lt j hj).1
        clear hown
        generalize (165 ^^^ k) % 256 = x at *
        generalize hL : l ++ marks k = L at *
        have hL2 : Hid (l ++ marks k = L) := hL
        clear hL
        go_wp2_with (at_builtin; refine wpList_append_own _ rfl (.tmp 12) (.tmp 16) 22 rfl w.heap.size 5 i0 (.int .u8 0) 1 1 Tryd.underlying22 hi hz0 hz1 hz2 rfl (by decide) _ _ _ rfl (how.alloc _) ⟨wr.heap.size, 0, none⟩ 1 1 [.int .u8 (x : Int)] rfl rfl (cell_one_new _ _ _) (by simp [Value.oneCell']) (by unfold maxLen; omega) (by omega) (by simp; omega) ?_)
        intro v' w1 hown' hg _
        have R := HM.out w1 v' (by rw [hlen]; exact hown')
        have RB : Below w.heap.size w w1 := (hbel.alloc (by omega) _).grown hg (by simp; omega) HO.out
        clear hown' hg HM how HO hx
        go_wp2
        go_roundw
        case rel => exact ⟨k + 1, by omega, by go_num, R, RB⟩
        case measure => simp [intOf]; omega
      · go_wp2
        go_ret
        have : k = 40 := by omega
        subst this
        exact ⟨_, rfl, hown, hbel⟩

set_option maxHeartbeats 400000 in
/-- 'given(full, p)': nil for nil, else the first bytes of full. -/
theorem given_any (g cap : Nat) (n : Nat) (v : Value) (l : List Nat) (w : World) (h : BSl w v l) (hn : l.length ≤ n) (hc : n ≤ cap) (hm : cap ≤ maxLen) :
    Calls Tryd.prog 6 #[.slice (some ⟨g, 0, none⟩) n cap, v] w fun e w' => (e = .returned (.slice none 0 0) ∧ l = [] ∨ e = .returned (.slice (some ⟨g, 0, none⟩) l.length cap)) ∧ w' = w := by
  obtain ⟨a, cap2, rfl, hl, hm2, hn2, hb, hcell⟩ := h
  unfold maxLen at hm hm2
  have hsn := fun wx => Lib.run_eql_slice_nil (P := Tryd.prog) wx 22 5 a l.length cap2 0 0 Tryd.underlying22
  clear hcell hb
  cases a with
  | none =>
    have hl0 : Hid (l = []) := List.eq_nil_of_length_eq_zero (by have := hn2 rfl; omega)
    clear hn2
    go_enter Tryd.func6, Tryd.ntmps6
    go_wp2
    go_ret
    exact ⟨.inl ⟨rfl, hl0.out⟩, rfl⟩
  | some x =>
    go_enter Tryd.func6, Tryd.ntmps6
    go_wp2
    go_ret
    exact ⟨.inr rfl, rfl⟩

/-- .. of a roomy list: it reads as the bytes that were given. -/
theorem given_own (g cap : Nat) (n base : Nat) (v : Value) (l m : List Nat) (w : World) (h : BSl w v l) (hn : n = (l ++ m).length) (ho : Own w base (.slice (some ⟨g, 0, none⟩) n cap) (l ++ m)) :
    Calls Tryd.prog 6 #[.slice (some ⟨g, 0, none⟩) n cap, v] w fun e w' => ∃ v', e = .returned v' ∧ BSl w v' l ∧ w' = w := by
  subst hn
  have hs : (l ++ m).length ≤ cap ∧ cap ≤ maxLen := by
    rcases ho.1.2 with ⟨h0, _⟩ | ⟨g', cap', cur, h0, hb, hg, hn, hmm, _⟩
    · simp at h0
    · simp only [Value.slice.injEq, Option.some.injEq, Addr.mk.injEq, and_true, true_and] at h0
      obtain ⟨rfl, rfl⟩ := h0
      exact ⟨hn, hmm⟩
  have hle : l.length ≤ (l ++ m).length := by simp
  refine (given_any g cap _ v l w h hle hs.1 hs.2).mono ?_
  rintro e w' ⟨⟨rfl, rfl⟩ | rfl, rfl⟩
  · exact ⟨_, rfl, ⟨none, 0, rfl, Nat.le_refl _, by unfold maxLen; omega, fun _ => rfl, by simp, by simp⟩, rfl⟩
  · have := ho.part l.length hle
    rw [List.take_left] at this
    exact ⟨_, rfl, this, rfl⟩

/-- every byte of the first k turned -/
def spoilL (k : Nat) (l : List Nat) : List Nat := (l.take k).map (fun b => b ^^^ 255) ++ l.drop k

theorem spoilL_len (k : Nat) (l : List Nat) : (spoilL k l).length = l.length := by simp [spoilL]; omega
theorem spoilL_lt {k : Nat} {l : List Nat} (h : ∀ b ∈ l, b < 256) : ∀ b ∈ spoilL k l, b < 256 := by
  intro b hb
  rcases List.mem_append.1 hb with h1 | h1
  · obtain ⟨c, hc, rfl⟩ := List.mem_map.1 h1
    exact Nat.xor_lt_two_pow (n := 8) (h c (List.mem_of_mem_take hc)) (by omega)
  · exact h b (List.mem_of_mem_drop h1)
theorem spoilL_getD {k : Nat} {l : List Nat} (hk : k < l.length) : (spoilL k l).getD k 0 = l.getD k 0 := by
  have h1 : ((l.take k).map (fun b => b ^^^ 255)).length = k := by simp; omega
  simp only [spoilL, List.getD]
  rw [List.getElem?_append_right (by omega), h1, List.getElem?_drop]
  simp
theorem spoilL_set {k : Nat} {l : List Nat} (hk : k < l.length) : (spoilL k l).set k (l.getD k 0 ^^^ 255) = spoilL (k + 1) l := by
  have h1 : ((l.take k).map (fun b => b ^^^ 255)).length = k := by simp; omega
  unfold spoilL
  rw [List.set_append_right _ _ (by omega), h1, Nat.sub_self, take_snoc l 0 k hk, List.map_append, List.append_assoc]
  have e : l.drop k = l[k] :: l.drop (k + 1) := List.drop_eq_getElem_cons hk
  rw [e, List.set_cons_zero]
  rfl

theorem map_set_byteV (l : List Nat) (k x : Nat) : (l.map byteV).set k (.int .u8 (x : Int)) = (l.set k x).map byteV := by
  rw [List.map_set]; rfl

theorem Own.stored {w : World} {base g cap : Nat} {l : List Nat} (h : Own w base (.slice (some ⟨g, 0, none⟩) l.length cap) l) (k x : Nat) (hx : x < 256) :
    Own (w.setCell ⟨g, k, none⟩ (.int .u8 (x : Int))) base (.slice (some ⟨g, 0, none⟩) l.length cap) (l.set k x) := by
  have h1 := (h.1.stored k (.int .u8 (x : Int))).1
  rw [map_set_byteV] at h1
  refine ⟨by rw [List.length_set]; exact h1, fun b hb => ?_⟩
  rcases List.mem_or_eq_of_mem_set hb with h2 | h2
  · exact h.2 b h2
  · omega

theorem Own.keptIf {w w' : World} {base : Nat} {v : Value} {l : List Nat} (h : Own w base v l) (hb : ∀ g, v.ownBlock = some g → w'.heap[g]? = w.heap[g]?) : Own w' base v l := by
  refine ⟨⟨h.1.1, ?_⟩, h.2⟩
  rcases h.1.2 with h0 | ⟨g, cap, cur, rfl, h1, hg, r⟩
  · exact .inl h0
  · exact .inr ⟨g, cap, cur, rfl, h1, by rw [hb g rfl]; exact hg, r⟩

set_option maxHeartbeats 400000 in
theorem spoil_any (g cap n : Nat) (l : List Nat) (base : Nat) (w : World) (hn : n ≤ l.length) (hl : l.length ≤ 140737488355328 + 40) (hbg : base ≤ g) (h : Own w base (.slice (some ⟨g, 0, none⟩) l.length cap) l) :
    Calls Tryd.prog 10 #[.slice (some ⟨g, 0, none⟩) n cap] w fun e w' => e = .returned (.tuple #[]) ∧ Own w' base (.slice (some ⟨g, 0, none⟩) l.length cap) (spoilL n l) ∧ Below base w w' ∧ w'.heap.size = w.heap.size ∧ (∀ j, j ≠ g → w'.heap[j]? = w.heap[j]?) := by
  have HH : Hid (Own w base (.slice (some ⟨g, 0, none⟩) l.length cap) l) := h
  clear h
  go_enter Tryd.func10, Tryd.ntmps10
  go_wp2
  go_loopw [2] (fun i wr => ∃ k : Nat, k ≤ n ∧ i = .int .i64 k ∧ Own wr base (.slice (some ⟨g, 0, none⟩) l.length cap) (spoilL k l) ∧ Below base w wr ∧ wr.heap.size = w.heap.size ∧ Hid (∀ j, j ≠ g → wr.heap[j]? = w.heap[j]?)) (fun i _ => n - (intOf i).toNat)
  case atStart => exact ⟨0, Nat.zero_le _, rfl, HH.out, Below.refl _ _, rfl, fun _ _ => rfl⟩
  case round =>
    obtain ⟨k, hk, rfl, hown, hbel, hsz, hoth⟩ := hrel
    by_cases hlt : k < n
    · have hown1 : Own wr base (.slice (some ⟨g, 0, none⟩) (spoilL k l).length cap) (spoilL k l) := by rw [spoilL_len]; exact hown
      have hck : wr.cell? ⟨g, k, none⟩ = some (.int .u8 ((spoilL k l).getD k 0 : Nat)) := by rw [hown1.1.cellAt k (by rw [spoilL_len]; omega), map_byteV_getD (by rw [spoilL_len]; omega)]
      have hfr := hown1.1.frozenAt k
      rw [spoilL_getD (by omega)] at hck
      have hx : l.getD k 0 < 256 := HH.out.2 _ (mem_getD (by omega))
      have hxo : bits BinOp.xor IntKind.u8 ((l.getD k 0 : Nat) : Int) 255 = ((l.getD k 0 ^^^ 255 : Nat) : Int) := u8_xor_nat (l.getD k 0) 255 hx (by omega)
      have HR : Hid (Own (wr.setCell ⟨g, k, none⟩ (.int .u8 ((l.getD k 0 ^^^ 255 : Nat) : Int))) base (.slice (some ⟨g, 0, none⟩) l.length cap) (spoilL (k + 1) l)) := by
        have := hown1.stored k (l.getD k 0 ^^^ 255) (Nat.xor_lt_two_pow (n := 8) hx (by omega))
        rw [spoilL_set (by omega), spoilL_len] at this
        exact this
      have HZ : Hid (wr.heap.size = w.heap.size) := hsz
      clear hown hown1 hsz
      generalize l.getD k 0 = x at *
      go_wp2
      go_roundw
      case rel => exact ⟨k + 1, by omega, by go_num, HR.out, hbel.setCell hbg _, by rw [← HZ.out]; simp, fun j hj => by rw [Go.heap_setCell_other _ _ _ _ (by show j ≠ g; exact hj)]; exact hoth.out j hj⟩
      case measure => simp [intOf]; omega
    · go_wp2
      go_end0
      have : k = n := by omega
      subst this
      exact ⟨rfl, hown, hbel, hsz, hoth.out⟩

set_option maxRecDepth 100000 in
set_option maxHeartbeats 400000 in
theorem untouched_any (g cap : Nat) (v : Value) (l : List Nat) (w : World) (base : Nat) (h : BSl w v l) (hr : l.length + 40 ≤ 140737488355328)
    (ho : Own w base (.slice (some ⟨g, 0, none⟩) (l ++ marks 40).length cap) (l ++ marks 40)) :
    Calls Tryd.prog 9 #[.slice (some ⟨g, 0, none⟩) (l.length + 40) cap, v] w fun e w' => e = .returned (.bool true) ∧ ∃ n, w' = w.drewN n := by
  obtain ⟨g', cap', e, _, _, hlc, hcm⟩ := ho.shape (by simp [marks_len])
  simp only [Value.slice.injEq, Option.some.injEq, Addr.mk.injEq, true_and, and_true] at e
  obtain ⟨rfl, rfl⟩ := e
  have hlen : (l ++ marks 40).length = l.length + 40 := by simp [marks_len]
  have h1 : BSl w (.slice (some ⟨g, 0, none⟩) l.length cap) l := by
    have := ho.part l.length (by omega)
    rwa [List.take_left] at this
  have hcell : ∀ i, i < 40 → w.cell? ⟨g, l.length + i, none⟩ = some (.int .u8 (((165 ^^^ i) % 256 : Nat) : Int)) := by
    intro i hi
    rw [ho.1.cellAt _ (by omega), map_byteV_getD (by omega)]
    have : (l ++ marks 40).getD (l.length + i) 0 = (165 ^^^ i) % 256 := by
      simp only [List.getD]
      rw [List.getElem?_append_right (by omega)]
      simp [marks, hi]
    rw [this]
  rw [hlen] at hlc
  have HS := same_eq _ _ l w h1 h
  obtain ⟨a, cap2, rfl, hl, hm2, hn2, hb, hcell2⟩ := h
  unfold maxLen at hcm hm2
  have HCC : Hid (∀ i, i < 40 → w.cell? ⟨g, l.length + i, none⟩ = some (.int .u8 (((165 ^^^ i) % 256 : Nat) : Int))) := hcell
  have HSS := hide HS
  clear hcell2 hb ho h1 hcell HS hn2 hlen
  go_enter Tryd.func9, Tryd.ntmps9
  go_wp2_with (go_at_call 18; refine (unhide HSS).mono ?_; rintro e w' ⟨rfl, n, rfl⟩)
  clear HSS
  go_loop [5] (fun i => ∃ k : Nat, k ≤ 40 ∧ i = .int .i64 k) (fun i => 40 - (intOf i).toNat)
  case atStart => exact ⟨0, Nat.zero_le _, rfl⟩
  case round =>
    obtain ⟨k, hk, rfl⟩ := hrel
    by_cases hlt : k < 40
    · have hck := HCC.out k hlt
      have hx := xor165 k hlt
      generalize (165 ^^^ k) % 256 = x at *
      go_wp2
      go_round
      case rel => exact ⟨k + 1, by omega, by go_num⟩
      case measure => simp [intOf]; omega
    · go_wp2
      go_ret
      exact ⟨rfl, n, rfl⟩
end Go.Proofs.YtcjilmafdpnfeaaDoor
