import Derived.Test.YtglajdmkbckjjabDoorBRef1
import Derived.Test.YtglajdmkbckjjabDoorBCm
import Derived.Test.YtglajdmkbckjjabDoorBLayL
import Derived.Test.YtglajdmkbckjjabDoorCards
import Derived.Test.YtglajdmkbckjjabDoorTie
import Derived.WalkKit
import Derived.ProofKit
import Derived.OpenShut
import Derived.ChangeOld
import Derived.SizedLaws
import Derived.ChangeSlices
import Derived.Deep.Slices
import Derived.ChangeSame
import Derived.Deep.DeepHandedRow
import Derived.Lib.LaidTab
import Derived.Test.YtglajdmkbckjjabDoorBRd
import Derived.Laws.AppendOwnNone
namespace Go.Proofs.YtglajdmkbckjjabDoor
open Go.RowKit Go.Shelf
set_option linter.unusedVariables false
set_option linter.unusedSimpArgs false
set_option maxRecDepth 20000

theorem bit_shift {B k : Nat} : (bits BinOp.and IntKind.u64 (((wd B (k / 64) : Nat) : Int) / 2 ^ (k % 64)) 1 == 1) = B.testBit k := by
  have hl : wd B (k / 64) / 2 ^ (k % 64) < 18446744073709551616 := Nat.lt_of_le_of_lt (Nat.div_le_self _ _) (wd_lt _ _)
  have e : ((wd B (k / 64) : Nat) : Int) / 2 ^ (k % 64) = ((wd B (k / 64) / 2 ^ (k % 64) : Nat) : Int) := by rw [Int.natCast_ediv]; simp
  have := u64_and_nat (wd B (k / 64) / 2 ^ (k % 64)) 1 hl (by decide)
  simp only [Int.natCast_one] at this
  rw [e, this, bit_of_wd, Nat.testBit, Nat.and_comm, Nat.shiftRight_eq_div_pow]
  generalize wd B (k / 64) / 2 ^ (k % 64) = y
  rw [Nat.one_and_eq_mod_two]
  rcases Nat.mod_two_eq_zero_or_one y with h | h <;> simp [h]
theorem mod_step (V i : Nat) : ∀ j, (V % 2 ^ (i + 1)).testBit j = if j = i then V.testBit i else (V % 2 ^ i).testBit j := by
  intro j
  rw [Nat.testBit_mod_two_pow, Nat.testBit_mod_two_pow]
  by_cases e : j = i
  · subst e; simp
  · rw [if_neg e]
    have : (j < i + 1) ↔ (j < i) := by omega
    simp only [this]

/-- new memory that holds these bools -/
def BoolsAt (w w' : World) (v : Value) (n B : Nat) : Prop := v = .slice (some ⟨w.heap.size, 0, none⟩) n n ∧ w'.heap[w.heap.size]? = some (.cells (boolRow B n) 4 (0, 0)) ∧ Below w.heap.size w w'
theorem bools_any {w : World} {v : Value} {l : List Nat} {n : Nat} (h : WSl w v l) (h1 : 1 ≤ n) (h2 : n ≤ 65536) (hl : l.length = nW n) (hV : valW l < 2 ^ n) :
    Calls Tryd.prog 64 #[.int .i64 (n : Int), v] w fun e w' => ∃ u, e = .returned u ∧ BoolsAt w w' u n (valW l) := by
  have hlt := h.lt
  have hWV : Hid (∀ k, wd (valW l) k = l.getD k 0) := hide fun k => wd_valW _ _ hlt
  obtain ⟨a, cap, rfl, q1, q2, q3, q4, q5⟩ := h
  unfold maxLen at q2
  obtain ⟨b, off, rfl, hc⟩ := q5 (by rw [hl]; unfold nW; omega)
  have hW : nW n ≤ 1024 := by unfold nW; omega
  have hbl := World.block_lt_of_cell? w _ (hc 0 (by rw [hl]; unfold nW; omega))
  have HC := hide hc
  rw [hl] at q1 HC
  rw [hl]
  clear hc q3 q4 q5 hl
  dsimp only at hbl
  have hmk := run_bools n h2
  have HZ : Hid ((w.alloc (.cells (boolRow 0 n) 4)).heap[w.heap.size]? = some (.cells (boolRow (valW l % 2 ^ 0) n) 4 (0, 0))) := hide (by rw [Go.heap_alloc_new w _, Nat.pow_zero, Nat.mod_one])
  have HEND : Hid (boolRow (valW l % 2 ^ n) n = boolRow (valW l) n) := hide (by rw [Nat.mod_eq_of_lt hV])
  generalize boolRow 0 n = Z at *
  generalize valW l = V at *
  generalize hm : nW n = m at *
  have HM := hide hm
  clear hm hlt
  go_enter Tryd.func64, Tryd.ntmps64
  go_wp2_with fail
  go_loopw [6] (fun i wr => ∃ k : Nat, k ≤ n ∧ i = .int .i64 (k : Int) ∧ Below w.heap.size w wr ∧ wr.heap[w.heap.size]? = some (.cells (boolRow (V % 2 ^ k) n) 4 (0, 0))) (fun i _ => n - (intOf i).toNat)
  case atStart => exact ⟨0, Nat.zero_le _, rfl, (Below.refl _ _).alloc (Nat.le_refl _) _, HZ.out⟩
  case round =>
    obtain ⟨k, hk, rfl, hb, hrow⟩ := hrel
    have HB := hide hb
    by_cases hltk : k < n
    · have hkm : k / 64 < m := by rw [← HM.out]; unfold nW; omega
      have hcv := (hb.cell (p := ⟨b, off + k / 64, none⟩) hbl).trans (HC.out (k / 64) hkm)
      rw [← hWV.out] at hcv
      have hbit := bit_shift (B := V) (k := k)
      have hw := wd_lt V (k / 64)
      have hc : wr.cell? ⟨w.heap.size, k, none⟩ = some (.bool ((V % 2 ^ k).testBit k)) := by rw [cell_of_row _ _ _ _ _ _ hrow, boolRow_get hltk]
      have hf : wr.frozen? ⟨w.heap.size, k, none⟩ = false := frozen_of_row _ _ _ _ 4 hrow
      have HN : Hid ((wr.setCell ⟨w.heap.size, k, none⟩ (.bool (V.testBit k))).heap[w.heap.size]? = some (.cells (boolRow (V % 2 ^ (k + 1)) n) 4 (0, 0))) := hide (by
        rw [Go.heap_setCell_same wr w.heap.size k _ 4 _ hrow, boolRow_set (B' := V % 2 ^ (k + 1)) hltk (by rw [mod_step, if_pos rfl]) (fun i _ hne => by rw [mod_step, if_neg hne])])
      clear hrow hb HZ HC
      generalize V.testBit k = vb at *
      generalize (V % 2 ^ k).testBit k = ob at *
      generalize wd V (k / 64) = x at *
      go_wp2_with fail
      go_roundw
      case rel => exact ⟨k + 1, by omega, by go_num, HB.out.setCell (p := ⟨w.heap.size, k, none⟩) (Nat.le_refl _) _, HN.out⟩
      case measure => simp [intOf]; omega
    · have ek : k = n := by omega
      have HR : Hid (wr.heap[w.heap.size]? = some (.cells (boolRow V n) 4 (0, 0))) := hide (by rw [hrow, ek, HEND.out])
      clear hrow ek hb HZ HC
      go_wp2_with fail
      go_ret
      exact ⟨_, rfl, rfl, HR.out, HB.out⟩

theorem or_add {x s : Nat} (hx : x < 2 ^ s) : x ||| 2 ^ s = x + 2 ^ s := by
  have := Nat.two_pow_add_eq_or_of_lt (i := s) (b := x) hx 1
  rw [Nat.mul_one] at this
  rw [Nat.or_comm, ← this, Nat.add_comm]
theorem wd_pack {B i : Nat} (h : B.testBit i = true) : wd (B % 2 ^ i) (i / 64) + 2 ^ (i % 64) = wd (B % 2 ^ (i + 1)) (i / 64) ∧ ∀ j, j ≠ i / 64 → wd (B % 2 ^ (i + 1)) j = wd (B % 2 ^ i) j := by
  have hs : i % 64 < 64 := Nat.mod_lt _ (by decide)
  have hx : wd (B % 2 ^ i) (i / 64) < 2 ^ (i % 64) := lt_of_bits fun j hj => by
    rw [testBit_wd, Nat.testBit_mod_two_pow]
    by_cases hj2 : j < 64
    · have : ¬ 64 * (i / 64) + j < i := by omega
      simp [this]
    · simp [hj2]
  refine ⟨?_, fun j hj => ?_⟩
  · rw [← or_add hx]
    apply Nat.eq_of_testBit_eq
    intro j
    rw [Nat.testBit_or, testBit_wd, testBit_wd, mod_step, Nat.testBit_two_pow]
    by_cases hj2 : j < 64
    · by_cases e : j = i % 64
      · have e2 : 64 * (i / 64) + j = i := by omega
        rw [e2, if_pos rfl]
        simp [hj2, e, h, hs]
      · have e2 : ¬ 64 * (i / 64) + j = i := by omega
        rw [if_neg e2]
        simp [hj2, Ne.symm e]
    · have : ¬ i % 64 = j := by omega
      simp [hj2, this]
  · apply Nat.eq_of_testBit_eq
    intro t
    rw [testBit_wd, testBit_wd, mod_step]
    by_cases ht : t < 64
    · have : ¬ 64 * j + t = i := by omega
      rw [if_neg this]
    · simp [ht]
theorem mod_same {B i : Nat} (h : B.testBit i = false) : B % 2 ^ (i + 1) = B % 2 ^ i := by
  apply Nat.eq_of_testBit_eq
  intro j
  rw [mod_step]
  by_cases e : j = i
  · rw [if_pos e, h, e, Nat.testBit_mod_two_pow]; simp
  · rw [if_neg e]

/-- new memory that holds these words -/
def WordsAt (w w' : World) (v : Value) (m B : Nat) : Prop := v = .slice (some ⟨w.heap.size, 0, none⟩) m m ∧ w'.heap[w.heap.size]? = some (.cells (wrow (wds B m)) 62 (0, 0)) ∧ Below w.heap.size w w'
theorem WordsAt.wsl {w w' : World} {v : Value} {m B : Nat} (h : WordsAt w w' v m B) (hm : m ≤ 1000000) : WSl w' v (wds B m) := by
  obtain ⟨rfl, hr, hb⟩ := h
  refine ⟨some ⟨w.heap.size, 0, none⟩, m, by rw [wds_len], by rw [wds_len]; exact Nat.le_refl _, by unfold maxLen; omega, by simp, wds_lt _ _, fun _ => ⟨w.heap.size, 0, rfl, fun i hi => ?_⟩⟩
  rw [wds_len] at hi
  rw [Nat.zero_add, cell_of_row _ _ _ _ _ _ hr, wrow_get (by rw [wds_len]; exact hi), wds_get hi]
set_option maxHeartbeats 400000 in
theorem pack_any {w : World} {b n B : Nat} (h1 : 1 ≤ n) (h2 : n ≤ 65536) (hB : B < 2 ^ n) (hr : w.heap[b]? = some (.cells (boolRow B n) 4 (0, 0))) :
    Calls Tryd.prog 72 #[.slice (some ⟨b, 0, none⟩) n n] w fun e w' => ∃ v, e = .returned v ∧ WordsAt w w' v (nW n) B := by
  have hbl : b < w.heap.size := (Array.getElem?_eq_some_iff.1 hr).1
  have hW : nW n ≤ 1024 := by unfold nW; omega
  have HL := hide (Length_any w n (by omega))
  have hmk := run_words (nW n) (by omega)
  have HZ : Hid ((w.alloc (.cells (wrow (wds 0 (nW n))) 62)).heap[w.heap.size]? = some (.cells (wrow (wds (B % 2 ^ 0) (nW n))) 62 (0, 0))) := hide (by rw [Go.heap_alloc_new w _, Nat.pow_zero, Nat.mod_one])
  have HEND : Hid (B % 2 ^ n = B) := hide (Nat.mod_eq_of_lt hB)
  have HC : Hid (∀ k, k < n → w.cell? ⟨b, k, none⟩ = some (.bool (B.testBit k))) := hide fun k hk => by rw [cell_of_row _ _ _ _ _ _ hr, boolRow_get hk]
  clear hr
  generalize wrow (wds 0 (nW n)) = Z at *
  generalize hm : nW n = m at *
  have HM := hide hm
  clear hm
  go_enter Tryd.func72, Tryd.ntmps72
  go_wp2_with (go_at_call 84; refine HL.out.mono ?_; rintro e w ⟨rfl, rfl⟩)
  go_loopw [4] (fun i wr => ∃ k : Nat, k ≤ n ∧ i = .int .i64 (k : Int) ∧ Below w.heap.size w wr ∧ wr.heap[w.heap.size]? = some (.cells (wrow (wds (B % 2 ^ k) m)) 62 (0, 0))) (fun i _ => n - (intOf i).toNat)
  case atStart => exact ⟨0, Nat.zero_le _, rfl, (Below.refl _ _).alloc (Nat.le_refl _) _, HZ.out⟩
  case round =>
    obtain ⟨k, hk, rfl, hb, hrow⟩ := hrel
    have HB := hide hb
    by_cases hltk : k < n
    · have hkm : k / 64 < m := by rw [← HM.out]; unfold nW; omega
      have hcv := (hb.cell (p := ⟨b, k, none⟩) hbl).trans (HC.out k hltk)
      cases hbit : B.testBit k
      · rw [hbit] at hcv
        have HN : Hid (wr.heap[w.heap.size]? = some (.cells (wrow (wds (B % 2 ^ (k + 1)) m)) 62 (0, 0))) := hide (by rw [mod_same hbit]; exact hrow)
        clear hrow hb HZ HC hbit HL
        go_wp2_with fail
        go_roundw
        case rel => exact ⟨k + 1, by omega, by go_num, HB.out, HN.out⟩
        case measure => simp [intOf]; omega
      · rw [hbit] at hcv
        obtain ⟨e1, e2⟩ := wd_pack hbit
        have hc : wr.cell? ⟨w.heap.size, k / 64, none⟩ = some (.int .u64 (wd (B % 2 ^ k) (k / 64) : Nat)) := by rw [cell_of_row _ _ _ _ _ _ hrow, wrow_get (by rw [wds_len]; exact hkm), wds_get hkm]
        have hf : wr.frozen? ⟨w.heap.size, k / 64, none⟩ = false := frozen_of_row _ _ _ _ 62 hrow
        have hl1 := wd_lt (B % 2 ^ (k + 1)) (k / 64)
        have hp : IntKind.u64.wrap (2 ^ (k % 64)) = ((2 ^ (k % 64) : Nat) : Int) := by
          have := wrapN (2 ^ (k % 64)) (Nat.pow_lt_pow_right (a := 2) (by decide) (Nat.mod_lt _ (by decide) : k % 64 < 64))
          rw [Int.natCast_pow] at this ⊢
          exact this
        have hsum : IntKind.u64.wrap (((wd (B % 2 ^ k) (k / 64) : Nat) : Int) + ((2 ^ (k % 64) : Nat) : Int)) = ((wd (B % 2 ^ (k + 1)) (k / 64) : Nat) : Int) := by rw [← Int.natCast_add, e1]; exact wrapN _ hl1
        have hsum2 : ((wd (B % 2 ^ k) (k / 64) : Nat) : Int) + ((2 ^ (k % 64) : Nat) : Int) = ((wd (B % 2 ^ (k + 1)) (k / 64) : Nat) : Int) := by rw [← Int.natCast_add, e1]
        have HN : Hid ((wr.setCell ⟨w.heap.size, k / 64, none⟩ (.int .u64 ((wd (B % 2 ^ (k + 1)) (k / 64) : Nat) : Int))).heap[w.heap.size]? = some (.cells (wrow (wds (B % 2 ^ (k + 1)) m)) 62 (0, 0))) := hide (by
          rw [Go.heap_setCell_same wr w.heap.size (k / 64) _ 62 _ hrow, wds_set hkm rfl (fun j _ hj => e2 j hj)])
        clear hrow hb HZ HC hbit e1 e2 HL
        generalize 2 ^ (k % 64) = pw at *
        generalize wd (B % 2 ^ k) (k / 64) = x at *
        generalize wd (B % 2 ^ (k + 1)) (k / 64) = y at *
        go_wp2_with fail
        go_roundw
        case rel => exact ⟨k + 1, by omega, by go_num, HB.out.setCell (p := ⟨w.heap.size, k / 64, none⟩) (Nat.le_refl _) _, HN.out⟩
        case measure => simp [intOf]; omega
    · have ek : k = n := by omega
      have HR : Hid (wr.heap[w.heap.size]? = some (.cells (wrow (wds B m)) 62 (0, 0))) := hide (by rw [hrow, ek, HEND.out])
      clear hrow ek hb HZ HC HL
      go_wp2_with fail
      go_ret
      exact ⟨_, rfl, rfl, HR.out, HB.out⟩

theorem rWords_any {w : World} {R : RL} {n B : Nat} (h : RRep w R n B) :
    Calls Tryd.prog 47 #[PR R] w fun e w' => ∃ v, e = .returned v ∧ WordsAt w w' v (nW n) B := by
  have c0 := h.c0
  have hn := h.n2
  have HP := hide (pack_any h.n1 h.n2 h.hB h.hb)
  clear h
  unfold PR
  go_enter Tryd.func47, Tryd.ntmps47
  go_wp2_with (go_at_call 72; refine HP.out.mono ?_; rintro e w' ⟨v, rfl, hv⟩; have HV := hide hv; clear hv)
  go_ret
  exact ⟨_, rfl, HV.out⟩
end Go.Proofs.YtglajdmkbckjjabDoor
namespace Go.Proofs.YtglajdmkbckjjabDoor
open Go.RowKit Go.Shelf
set_option linter.unusedVariables false
set_option linter.unusedSimpArgs false
set_option maxRecDepth 20000

theorem bpRow_take (l : List Nat) (n : Nat) (f : Nat → Nat) (hf : ∀ i, i < l.length → f i = l.getD i 0) (hn : l.length ≤ n) : (bpRow n f).toList.take l.length = l.map byV := by
  apply List.ext_getElem?
  intro i
  by_cases h : i < l.length
  · rw [List.getElem?_take_of_lt h, Array.getElem?_toList, bpRow_get f (by omega), hf i h]
    simp [byV, h, List.getD]
  · rw [List.getElem?_eq_none (by simp; omega), List.getElem?_eq_none (by simp; omega)]
theorem Bo.own {N : Nat} {w : World} {v : Value} {l : List Nat} (h : Bo N w v l) (hl : l.length ≤ 140737488351232) : w.ownsRow N 5 1 v l.length (l.map byV) := by
  obtain ⟨g, rfl, hg, hh⟩ := h
  refine ⟨by simp, .inr ⟨g, l.length + 3, _, rfl, hg, hh, by omega, by unfold maxLen; omega, by rw [bpRow_size, Nat.mul_one], ?_⟩⟩
  rw [Nat.mul_one]
  exact bpRow_take l _ _ (fun i hi => if_pos hi) (by omega)
theorem Bo.csl {N : Nat} {w : World} {v : Value} {l : List Nat} (h : Bo N w v l) (hl : l.length ≤ 140737488351232) (hb : ∀ x ∈ l, x < 256) : CSl w v l := own_csl (h.own hl) hb
theorem CSl.part {w : World} {a : Option Addr} {cap n p : Nat} {c : List Nat} (h : CSl w (.slice a n cap) c) (hp : p ≤ c.length) : CSl w (.slice a p cap) (c.take p) := by
  obtain ⟨a', cap', e, h1, h2, h3, h4⟩ := h
  injection e with e1 e2 e3
  subst e1 e3
  have hlen : (c.take p).length = p := by simp; omega
  refine ⟨a, cap, by rw [hlen], by omega, h2, fun x hx => h3 x (List.mem_of_mem_take hx), fun h0 => ?_⟩
  obtain ⟨b, off, rfl, hc⟩ := h4 (by omega)
  refine ⟨b, off, rfl, fun i hi => ?_⟩
  rw [hc i (by omega)]
  simp [List.getD, List.getElem?_take_of_lt (show i < p by omega)]
/-- a byte behind a copy -/
theorem Bo.more {N : Nat} {w w' : World} {v v' : Value} {l : List Nat} {x : Nat} (h : Bo N w v l) (hl : l.length ≤ 140737488351232) (hb : ∀ y ∈ l, y < 256) (hx : x < 256) (hN : N ≤ w.heap.size)
    (ho : w'.ownsRow 0 5 1 v' (l.length + 1) (l.map byV ++ [.int .u8 (x : Int)])) (hu : (v'.ownBlock = some (w.alloc (.cells #[.int .u8 (x : Int)] 5)).heap.size ∧ (w.alloc (.cells #[.int .u8 (x : Int)] 5)).grownBy w' none) ∨ (∃ g, v.ownBlock = some g ∧ v'.ownBlock = some g ∧ (w.alloc (.cells #[.int .u8 (x : Int)] 5)).grownBy w' (some g))) :
    CSl w' v' (l ++ [x]) ∧ Below N w w' := by
  refine ⟨own_csl (b := 0) (by rw [List.length_append, List.map_append]; exact ho) fun y hy => ?_, ?_⟩
  · rcases List.mem_append.1 hy with h1 | h1
    · exact hb y h1
    · rw [List.mem_singleton.1 h1]; exact hx
  · obtain ⟨g, rfl, hg, -⟩ := h
    have h0 : Below N w (w.alloc (.cells #[.int .u8 (x : Int)] 5)) := (Below.refl _ _).alloc hN _
    have hs : N ≤ (w.alloc (.cells #[.int .u8 (x : Int)] 5)).heap.size := by rw [World.size_alloc]; omega
    rcases hu with ⟨_, h1⟩ | ⟨g', e, _, h1⟩
    · exact h0.grown h1 hs (fun k e => by cases e)
    · simp only [Value.ownBlock, Option.some.injEq] at e
      subst e
      exact h0.grown h1 hs (fun k e => by cases e; exact hg)

theorem enc_at {W : World} {wv : Value} {m B : Nat} (hT : TabAt W) (h1 : 1 ≤ m) (h2 : m ≤ 65536) (hB : B < 2 ^ m) (hv : WSl W wv (wds B (nW m))) :
    Calls Tryd.prog 9 #[.int .i64 (m : Int), wv] W fun e w' => ∃ a cap c, e = .returned (.tuple #[.slice a c.length cap, .int .i64 0]) ∧ CSl w' (.slice a c.length cap) c ∧ Wrt c (encD B m) ∧ Below W.heap.size W w' := by
  obtain ⟨e1, e2⟩ := val_wds h1 hB
  have h := encode_main m hT hv h1 h2 e2
  rw [e1] at h
  refine h.mono fun e w' h => ?_
  obtain ⟨cv, c, rfl, ho, hW, hb⟩ := h
  have hc := own_csl ho hW.1
  obtain ⟨a, cap, rfl, h⟩ := hc
  exact ⟨a, cap, c, rfl, ⟨a, cap, rfl, h⟩, hW, hb⟩
theorem dec_some {W : World} {cv : Value} {c : List Nat} {m B : Nat} (h1 : 1 ≤ m) (h2 : m ≤ 65536) (hB : B < 2 ^ m) (hc : CSl W cv c) (hW : Wrt c (encD B m)) :
    Calls Tryd.prog 12 #[.int .i64 (m : Int), cv] W fun e w' => ∃ v', e = .returned (.tuple #[v', .int .i64 0, .int .i64 0]) ∧ WSl w' v' (wds B (nW m)) ∧ Below W.heap.size W w' := by
  have h := decode_any h1 h2 hc (enc_len hW h2)
  rw [dOut_enc h1 h2 hB hW] at h
  refine h.mono fun e w' h => ?_
  obtain ⟨v', e1, -, e3, -, e5⟩ := h
  exact ⟨v', e1, e3, e5⟩
theorem dec_none {W : World} {cv : Value} {c : List Nat} {m a : Nat} (h1 : 1 ≤ m) (h2 : m ≤ 65536) (hc : CSl W cv c) (hl : c.length ≤ 150000000000000) (hd : dOut m c = (none, a)) :
    Calls Tryd.prog 12 #[.int .i64 (m : Int), cv] W fun e w' => e = .returned (.tuple #[.slice none 0 0, .int .i64 (a : Nat), .int .i64 31]) ∧ Below W.heap.size W w' := by
  have h := decode_any h1 h2 hc hl
  rw [hd] at h
  exact h
theorem sameB_eq {w : World} {v1 v2 : Value} {l : List Nat} (h1 : CSl w v1 l) (h2 : CSl w v2 l) :
    Calls Tryd.prog 19 #[v1, v2] w fun e w' => e = .returned (.bool true) ∧ Below w.heap.size w w' := (sameBytes_any h1 h2).mono fun e w' h => ⟨h.1.trans (by simp), h.2.2⟩
theorem enc_short {c : List Nat} {B n : Nat} (h : Wrt c (encD B n)) (h2 : n ≤ 65536) : c.length ≤ 20000 := by
  have h1 := h.len
  have h3 := encP_len (B := B) n 0 (by omega) (Nat.zero_le n)
  rw [h1, encD, List.length_cons]
  omega
end Go.Proofs.YtglajdmkbckjjabDoor
namespace Go.Proofs.YtglajdmkbckjjabDoor
open Go.RowKit Go.Shelf
set_option linter.unusedVariables false
set_option linter.unusedSimpArgs false
set_option maxRecDepth 20000

theorem Good.sameM {α : Type} {F : Rd α} (h : Good F) {ds ds' : List Bool} {m : Nat} (e : ds.take m = ds'.take m) (hm : (F ds).1 ≤ m) (hl : m ≤ ds'.length) : F ds' = F ds := by
  by_cases hc : (F ds').1 ≤ m
  · rw [← h.inn ds' m hc, ← e, h.inn ds m hm]
  · have := h.out ds' m (by omega) hl
    rw [← e, h.inn ds m hm] at this
    rw [this] at hm
    have : m + 1 ≤ m := hm
    omega
theorem digs_pre {a b : List Nat} {p : Nat} (h : a.take p = b.take p) : (digs a).take (8 * p) = (digs b).take (8 * p) := by rw [digs_take, digs_take, h]
/-- what Decode refuses: it met a digit that cannot stand there, or the rest stands behind a whole code -/
theorem dOut_why {n : Nat} {c : List Nat} {p : Nat} (h1 : 1 ≤ n) (h : dOut n c = (none, p)) :
    (∃ k, decR n (digs c) = (k, none) ∧ 8 * p < k ∧ k ≤ 8 * p + 8 ∧ p ≤ c.length) ∨ (∃ B, decR n (digs c) = (8 * p, some B) ∧ p < c.length) := by
  have hle := dOut_le h
  unfold dOut at h
  have h0 := dec_pos n (digs c)
  cases hd : decR n (digs c) with
  | mk k o =>
    rw [hd] at h h0
    cases o with
    | none =>
      simp at h h0
      exact .inl ⟨k, rfl, by omega, by omega, hle⟩
    | some B =>
      dsimp only at h
      split at h
      · rename_i hk
        simp at h
        obtain ⟨-, -, e3⟩ := dec_is h1 hd
        have := (encF_len B n).1
        refine .inr ⟨B, ?_, by omega⟩
        rw [show 8 * p = k by omega]
      · simp at h
theorem place_low {n B i x p : Nat} {c : List Nat} (h1 : 1 ≤ n) (h2 : n ≤ 65536) (hB : B < 2 ^ n) (h : Wrt c (encD B n)) (hi : i < c.length) (hd : dOut n (c.set i x) = (none, p)) : i ≤ p := by
  refine Nat.le_of_not_lt fun hlt => ?_
  have e := dec_of h1 hB h2 []
  rw [List.append_nil, ← wrt_encF h, digs_len] at e
  have ht : (digs (c.set i x)).take (8 * i) = (digs c).take (8 * i) := digs_pre (by
    apply List.ext_getElem?
    intro j
    by_cases hj : j < i
    · rw [List.getElem?_take_of_lt hj, List.getElem?_take_of_lt hj, List.getElem?_set_ne (by omega)]
    · rw [List.getElem?_eq_none (by simp; omega), List.getElem?_eq_none (by simp; omega)])
  rcases dOut_why h1 hd with ⟨k, e1, e2, e3, e4⟩ | ⟨B', e1, e2⟩
  · have := (good_dec n).sameM ht (by rw [e1]; show k ≤ _; omega) (by rw [digs_len]; omega)
    rw [e1, e] at this
    simp at this
  · have := (good_dec n).sameM ht (by rw [e1]; show 8 * p ≤ _; omega) (by rw [digs_len]; omega)
    rw [e1, e] at this
    simp at this
    omega
theorem take_len {α : Type} {l : List α} {p : Nat} (h : p ≤ l.length) : (l.take p).length = p := by simp; omega
theorem place_ahead {n p : Nat} {c : List Nat} (h1 : 1 ≤ n) (hd : dOut n c = (none, p)) : dOut n (c.take p) = (none, p) ∨ (p < c.length ∧ ∃ B, dOut n (c.take p) = (some B, 0)) := by
  rcases dOut_why h1 hd with ⟨k, e1, e2, e3, e4⟩ | ⟨B', e1, e2⟩
  · refine .inl ?_
    have := (good_dec n).out (digs c) (8 * p) (by rw [e1]; exact e2) (by rw [digs_len]; omega)
    unfold dOut
    rw [← digs_take, this]
    show (none, (8 * p + 1 - 1) / 8) = _
    congr 1
    omega
  · refine .inr ⟨e2, B', ?_⟩
    have := (good_dec n).inn (digs c) (8 * p) (by rw [e1]; exact Nat.le_refl _)
    rw [e1] at this
    unfold dOut
    rw [← digs_take, this]
    dsimp only
    rw [if_neg (by rw [take_len (by omega)]; omega)]
theorem place_tail {n p : Nat} {c : List Nat} (h1 : 1 ≤ n) (hd : dOut n c = (none, p)) (hp : p < c.length) (hn : dOut n (c.take p) = (none, p)) (t : List Nat) : dOut n (c.take (p + 1) ++ t) = (none, p) := by
  rcases dOut_why h1 hd with ⟨k, e1, e2, e3, e4⟩ | ⟨B', e1, e2⟩
  · have ht : (digs c).take (8 * (p + 1)) = (digs (c.take (p + 1) ++ t)).take (8 * (p + 1)) := digs_pre (by
      rw [List.take_append_of_le_length (by rw [take_len (by omega)]; exact Nat.le_refl _), List.take_take, Nat.min_self])
    have := (good_dec n).sameM ht (by rw [e1]; show k ≤ _; omega) (by rw [digs_len, List.length_append, take_len (by omega)]; omega)
    unfold dOut
    rw [this, e1]
    show (none, (k - 1) / 8) = _
    congr 1
    omega
  · exfalso
    have := (good_dec n).inn (digs c) (8 * p) (by rw [e1]; exact Nat.le_refl _)
    rw [e1] at this
    unfold dOut at hn
    rw [← digs_take, this] at hn
    dsimp only at hn
    rw [if_neg (by rw [take_len (by omega)]; omega)] at hn
    simp at hn
/-- a code that was turned in a byte is no longer this bitmap's -/
theorem place_other {n B B' i x : Nat} {c : List Nat} (h : Wrt c (encD B n)) (hi : i < c.length) (hx : x ≠ c.getD i 0) (h' : Wrt (c.set i x) (encD B' n)) : B' ≠ B := by
  rintro rfl
  have e := h.unique h'
  have : c.getD i 0 = x := by
    have := congrArg (fun l => l.getD i 0) e
    simp [List.getD, hi] at this
    simpa [List.getD, hi] using this
  exact hx this.symm
theorem wds_inj {n B B' : Nat} (h1 : 1 ≤ n) (hB : B < 2 ^ n) (hB' : B' < 2 ^ n) (h : wds B (nW n) = wds B' (nW n)) : B = B' := by
  rw [← (val_wds h1 hB).1, h, (val_wds h1 hB').1]
/-- what may come of a turned byte -/
theorem place_all {n B i x : Nat} {c l : List Nat} (h1 : 1 ≤ n) (h2 : n ≤ 65536) (hB : B < 2 ^ n) (hl : wds B (nW n) = l) (h : Wrt c (encD B n)) (hi : i < c.length) (hx : x < 256) :
    (x = c.getD i 0 ∧ dOut n (c.set i x) = (some B, 0)) ∨ (x ≠ c.getD i 0 ∧ ∃ B', dOut n (c.set i x) = (some B', 0) ∧ wds B' (nW n) ≠ l) ∨
    (x ≠ c.getD i 0 ∧ ∃ p, dOut n (c.set i x) = (none, p) ∧ i ≤ p ∧ p < c.length ∧ ∃ B', dOut n ((c.set i x).take p) = (some B', 0)) ∨
    (x ≠ c.getD i 0 ∧ ∃ p, dOut n (c.set i x) = (none, p) ∧ i ≤ p ∧ p ≤ c.length ∧ dOut n ((c.set i x).take p) = (none, p) ∧ (p < c.length → ∀ t, dOut n ((c.set i x).take (p + 1) ++ t) = (none, p))) := by
  have hc : ∀ y ∈ c.set i x, y < 256 := fun y hy => (List.mem_or_eq_of_mem_set hy).elim (h.1 y) (fun e => by rw [e]; exact hx)
  by_cases hxy : x = c.getD i 0
  · refine .inl ⟨hxy, ?_⟩
    have : c.set i x = c := by
      apply List.ext_getElem?
      intro j
      by_cases hj : j = i
      · subst hj
        rw [List.getElem?_set_self hi, hxy]
        simp [List.getD, hi]
      · rw [List.getElem?_set_ne (by omega)]
    rw [this]
    exact dOut_enc h1 h2 hB h
  · refine .inr ?_
    cases hd : dOut n (c.set i x) with
    | mk o p =>
      cases o with
      | some B' =>
        obtain ⟨hW, hB', rfl⟩ := dOut_code h1 hc hd
        refine .inl ⟨hxy, B', rfl, fun e => ?_⟩
        exact place_other h hi hxy hW (wds_inj h1 hB' hB (e.trans hl.symm))
      | none =>
        have hlow := place_low h1 h2 hB h hi hd
        have hle := dOut_le hd
        rw [List.length_set] at hle
        rcases place_ahead h1 hd with ha | ⟨hp, B', ha⟩
        · refine .inr (.inr ⟨hxy, p, rfl, hlow, hle, ha, fun hp t => place_tail h1 hd (by rw [List.length_set]; exact hp) ha t⟩)
        · rw [List.length_set] at hp
          exact .inr (.inl ⟨hxy, p, rfl, hlow, hp, B', ha⟩)
/-- the place that is asked for, as a place of the code -/
theorem idx_of (wh : Int) {K : Nat} (hK : 0 < K) (hK2 : K ≤ 20000) : ∃ i : Nat, i < K ∧ (wh.tmod (K : Int) < 0 → wrap64 (wh.tmod (K : Int) + (K : Int)) = (i : Int)) ∧ (0 ≤ wh.tmod (K : Int) → wh.tmod (K : Int) = (i : Int)) := by
  have h1 := Int.tmod_lt_of_pos wh (show (0 : Int) < K by omega)
  have h2 : -(K : Int) < wh.tmod (K : Int) := by
    have := Int.tmod_lt_of_pos (-wh) (show (0 : Int) < K by omega)
    rw [Int.neg_tmod] at this
    omega
  by_cases h : wh.tmod (K : Int) < 0
  · refine ⟨(wh.tmod (K : Int) + (K : Int)).toNat, by omega, fun _ => ?_, fun h' => by omega⟩
    unfold wrap64
    omega
  · exact ⟨(wh.tmod (K : Int)).toNat, by omega, fun h' => absurd h' h, fun _ => by omega⟩
theorem idx_low {wh : Int} {K i p : Nat} (hB : 0 ≤ wh.tmod (K : Int) → wh.tmod (K : Int) = (i : Int)) (h : i ≤ p) : ¬ ((p : Int) < wh.tmod (K : Int)) := by
  by_cases hz : wh.tmod (K : Int) < 0
  · omega
  · rw [hB (by omega)]; omega
theorem idx_low2 {wh : Int} {K i p : Nat} (hA : wh.tmod (K : Int) < 0 → wrap64 (wh.tmod (K : Int) + (K : Int)) = (i : Int)) (h : i ≤ p) : wh.tmod (K : Int) < 0 → ¬ ((p : Int) < wrap64 (wh.tmod (K : Int) + (K : Int))) := fun hz => by
  rw [hA hz]; omega
end Go.Proofs.YtglajdmkbckjjabDoor
namespace Go.Proofs.YtglajdmkbckjjabDoor
open Go.ChangeShapes Go.WideShapes Go.ChangeAt Go.RowKit
set_option linter.unusedVariables false
set_option linter.unusedSimpArgs false
set_option maxRecDepth 20000

theorem own : ownKnob Tryd.prog.godebug = none := by kernel_rfl
theorem laidOut : laidOutB Tryd.prog = true := by kernel_rfl
theorem gTab : Tryd.prog.globalNamed "math/bits.deBruijn64tab" = some 0 := by kernel_rfl
theorem gTabty : (Tryd.prog.globals[0]?).map (·.type) = some 122 := by kernel_rfl
theorem cellsTab : Tryd.prog.cellsOf 122 = 64 := by kernel_rfl
theorem cells8 : Tryd.prog.cellsOf 5 = 1 := by kernel_rfl
theorem cellsInt : Tryd.prog.cellsOf 3 = 1 := by kernel_rfl
theorem cellsBool : Tryd.prog.cellsOf 4 = 1 := by kernel_rfl
theorem cellsWords : Tryd.prog.cellsOf 22 = 1 := by kernel_rfl
theorem cellsU64 : Tryd.prog.cellsOf 62 = 1 := by kernel_rfl
theorem bytesU64 : Tryd.prog.bytesOf 62 = 8 := by kernel_rfl
theorem cellsActs : Tryd.prog.cellsOf 49 = 1 := by kernel_rfl
theorem cellsAct : Tryd.prog.cellsOf 139 = 3 := by kernel_rfl
theorem cellsOp : Tryd.prog.cellsOf 51 = 8 := by kernel_rfl

def listed : List (String × DataW Unit) := [("math/bits.deBruijn64tab", Rows.laid_math_bits_deBruijn64tab)]
theorem tab_of_laid {W : World} (h : laidMetH Tryd.prog listed W) : TabAt W := by
  have h' : laidMet Tryd.prog [("math/bits.deBruijn64tab", Lib.tabData .u8 (Lib.deBruijn64tab.map fun n : Nat => (n : Int)))] W := h
  have h1 := Lib.tabIs_of_head gTab gTabty Tryd.underlying122 Tryd.underlying5 cells8 cellsTab h'
  intro i hi
  have hl : Lib.deBruijn64tab.length = 64 := by decide
  rw [h1.cell gTab i (by simpa [hl] using hi)]
  simp [List.getD, hi, hl]
def relay (cs : List Value) : Obj → Obj
  | .cells _ t frozen => .cells cs.toArray t frozen
  | o => o
/-- a world for the witness: the settled one, with the table in it -/
def laidIn (w : World) : World := { w with heap := w.heap.modify 0 (relay (Lib.deBruijn64tab.map fun n : Nat => .int .u8 (n : Int))) }

def IsRow (k : IntKind) (w : World) (a : Option Addr) (len cap : Nat) (zs : List Int) : Prop :=
  (a = none ∧ len = 0 ∧ cap = 0 ∧ zs = []) ∨
  ∃ x, a = some x ∧ len ≤ cap ∧ cap ≤ maxLen ∧ zs.length = cap ∧ (∀ i, i < zs.length → w.cell? (x.add i) = some (.int k (zs.getD i 0))) ∧ ∀ n ∈ zs, (Lit.int k n).wf = true
theorem wsl_of_isrow {w : World} {a : Option Addr} {len cap : Nat} {zs : List Int} (h : IsRow .u64 w a len cap zs) : ∃ l : List Nat, l.length = len ∧ WSl w (.slice a len cap) l := by
  rcases h with ⟨rfl, rfl, rfl, rfl⟩ | ⟨x, rfl, hl, hm, hz, hcell, hwz⟩
  · exact ⟨[], rfl, none, 0, rfl, Nat.le_refl _, by unfold maxLen; omega, fun _ => rfl, by simp, by simp⟩
  · have hlen : ((zs.take len).map Int.toNat).length = len := by simp; omega
    refine ⟨(zs.take len).map Int.toNat, hlen, _, cap, by rw [hlen], by omega, hm, by simp, ?_, ?_⟩
    · intro b hb
      obtain ⟨n, hn, rfl⟩ := List.mem_map.1 hb
      have := bounds_u64 (hwz n (List.mem_of_mem_take hn))
      omega
    · intro hp
      obtain ⟨b, off, rfl, hc⟩ := ints_at hcell (by omega)
      refine ⟨b, off, rfl, fun i hi => ?_⟩
      rw [hc i (by omega)]
      have hi' : i < zs.length := by omega
      have hb := bounds_u64 (hwz zs[i] (List.getElem_mem hi'))
      have hi2 : i < len := by omega
      have e2 : ((zs.take len).map Int.toNat).getD i 0 = zs[i].toNat := by
        simp [List.getD, hi', hi2]
      have e3 : zs.getD i 0 = zs[i] := by simp [List.getD, hi']
      rw [e2, e3, Int.toNat_of_nonneg hb.1]

/-- a list of words, of which the weights are known -/
theorem open_field {H : Type} {enc : TypeId × Value → H} {W : World} {n : Nat} {v : Value} {y : DataW H × List MemPlace} (h : DataW.trod enc Tryd.prog W 0 (fun _ => true) true n 22 [v] = some y) (hw : ∀ k ∈ y.1.weights Tryd.prog 22, k ≤ reachBytes) : ∃ l : List Nat, WSl W v l ∧ l.length ≤ 17592186044416 := by
  rcases open_ints Tryd.underlying22 Tryd.underlying62 (by kernel_rfl) h with ⟨hcs, hy⟩ | ⟨x, len, cap, zs, hcs, _, hl, hm, hz, hx, hcell, hwz⟩
  · simp at hcs
    subst hcs
    exact ⟨[], ⟨none, 0, rfl, Nat.le_refl _, by unfold maxLen; omega, fun _ => rfl, by simp, by simp⟩, Nat.zero_le _⟩
  · simp at hcs
    subst hcs
    simp only [if_true] at hz
    obtain ⟨l, hll, hb⟩ := wsl_of_isrow (.inr ⟨_, rfl, hl, hm, hz, hcell, hwz⟩)
    subst hx
    refine ⟨l, hb, ?_⟩
    have := hw ((zs.length) * 8) (by
      simp only [DataW.weights]
      rw [Tryd.underlying22]
      simp only [lits, List.length_map, List.length_take, List.length_drop, bytesU64]
      rw [show min len zs.length + (zs.length - len) = zs.length by omega]
      exact List.mem_cons_self)
    unfold reachBytes at this
    omega
theorem open_words {H : Type} {enc : TypeId × Value → H} {W : World} {base : Nat} {v : Value} {d : DataW H} {p : List MemPlace} {ts : List TypeId} {ds : List (DataW H)} (j : Nat) (hts : ts[j]? = some 22) (hds : ds[j]? = some d)
    (hsz : (DataW.weightsEach Tryd.prog ts ds).all (· ≤ reachBytes) = true) (hok : Value.okWide Tryd.prog W .any base 22 v) (h1 : DataW.Trod enc Tryd.prog W 0 (fun _ => true) true 22 v d p) : ∃ l : List Nat, WSl W v l ∧ l.length ≤ 17592186044416 := by
  obtain ⟨a1, len1, cap1, rfl⟩ := okWide_slice Tryd.underlying22 hok
  obtain ⟨fuel, hf⟩ := h1
  refine open_field hf fun k hk => ?_
  have := List.all_eq_true.1 hsz k (DataW.weights_mem_each hts hds k hk)
  simpa using this
theorem trod_place_lt {H : Type} {enc : TypeId × Value → H} {W : World} {t : TypeId} {v : Value} {d : DataW H} {p : List MemPlace} (h1 : DataW.Trod enc Tryd.prog W 0 (fun _ => true) true t v d p) : ∀ x ∈ p, x.block < W.heap.size := by
  obtain ⟨m, hm⟩ := h1; exact DataW.trod_lt m _ _ _ hm
theorem words_again {H : Type} {enc : TypeId × Value → H} {W W' : World} {v : Value} {d : DataW H} {p : List MemPlace} (h1 : DataW.Trod enc Tryd.prog W 0 (fun _ => true) true 22 v d p) (bel : Below W.heap.size W W') :
    DataW.Trod enc Tryd.prog W' 0 (fun b => decide (b < W.heap.size)) true 22 v d p := Below.trod laidOut (by kernel_rfl) (of_decide_eq_true (by kernel_rfl)) h1 bel (trod_place_lt h1)
theorem ops_again {H : Type} {enc : TypeId × Value → H} {W W' : World} {v : Value} {d : DataW H} {p : List MemPlace} (h1 : DataW.Trod enc Tryd.prog W 0 (fun _ => true) true 59 v d p) (bel : Below W.heap.size W W') :
    DataW.Trod enc Tryd.prog W' 0 (fun b => decide (b < W.heap.size)) true 59 v d p := Below.trod laidOut (by kernel_rfl) (of_decide_eq_true (by kernel_rfl)) h1 bel (trod_place_lt h1)

theorem weights_all {H : Type} {P : Program} {e : TypeId} : ∀ {l : List (DataW H)} {d : DataW H}, d ∈ l → ∀ n ∈ d.weights P e, n ∈ DataW.weightsAll P e l
  | [], _, h => by cases h
  | x :: r, d, h => fun n hn => by
    simp only [DataW.weightsAll, List.mem_append]
    rcases List.mem_cons.1 h with rfl | h
    · exact .inl hn
    · exact .inr (weights_all h n hn)

/-- a list of acts -/
theorem open_acts {H : Type} {enc : TypeId × Value → H} {W : World} {fuel : Nat} {v : Value} {y : DataW H × List MemPlace} (h : DataW.trod enc Tryd.prog W 0 (fun _ => true) true fuel 49 [v] = some y) : ∃ l : List ActV, ASl W v l := by
  rcases Go.Deep.open_slice Tryd.underlying49 h with ⟨hcs, _⟩ | ⟨a, len, cap, m, n, D, Pl, hcs, _, hl, hm, hmm, hx, hel⟩
  · simp at hcs
    subst hcs
    exact ⟨[], none, 0, rfl, Nat.le_refl _, by unfold maxLen; omega, by simp, by simp⟩
  · simp at hcs
    subst hcs
    simp only [if_true] at hmm
    subst hmm
    have each : ∀ i, i < len → ∃ s : ActV, (i64ok s.kind ∧ i64ok s.a ∧ i64ok s.b) ∧ W.cell? (a.add (i * 3)) = some (.int .i64 s.kind) ∧ W.cell? (a.add (i * 3 + 1)) = some (.int .i64 s.a) ∧ W.cell? (a.add (i * 3 + 2)) = some (.int .i64 s.b) := by
      intro i hi
      obtain ⟨cs', h1, h2⟩ := hel i (by omega)
      rw [cellsAct] at h1
      obtain ⟨_, hlen, hcell⟩ := World.cells?_some h1
      obtain ⟨xs, k, hk, hxy, _, hxl, hfd⟩ := DataW.trod_struct Tryd.underlying139 h2
      match xs, hxl, cs', hlen with
      | [y0, y1, y2], _, [v0, v1, v2], _ =>
        have g0 := hfd 0 _ rfl
        have g1 := hfd 1 _ rfl
        have g2 := hfd 2 _ rfl
        simp [cellsInt] at g0 g1 g2
        have e0 := hcell 0 (by omega)
        have e1 := hcell 1 (by omega)
        have e2 := hcell 2 (by omega)
        rw [Go.Deep.add_add] at e0 e1 e2
        obtain ⟨z0, hz0, _, wf0⟩ := DataW.trod_int Tryd.underlying3 g0
        obtain ⟨z1, hz1, _, wf1⟩ := DataW.trod_int Tryd.underlying3 g1
        obtain ⟨z2, hz2, _, wf2⟩ := DataW.trod_int Tryd.underlying3 g2
        simp at hz0 hz1 hz2
        subst hz0 hz1 hz2
        exact ⟨⟨z0, z1, z2⟩, ⟨bounds_i64 wf0, bounds_i64 wf1, bounds_i64 wf2⟩, by simpa using e0, by simpa using e1, by simpa using e2⟩
    haveI : Inhabited ActV := ⟨⟨0, 0, 0⟩⟩
    obtain ⟨f, hfa⟩ := Go.Deep.choose_lt each
    refine ⟨(List.range len).map f, some a, m, by simp, by simpa using hl, hm, ?_, ?_⟩
    · intro s hs
      obtain ⟨i, hi, rfl⟩ := List.mem_map.1 hs
      exact (hfa i (List.mem_range.1 hi)).1
    · intro hpos
      simp only [List.length_map, List.length_range] at hpos
      obtain ⟨b, off, spot⟩ := a
      have hspot : spot = none := by simpa [Addr.add] using World.cell?_spot (hfa 0 hpos).2.1
      subst hspot
      refine ⟨b, off, rfl, fun i hi => ?_⟩
      simp only [List.length_map, List.length_range] at hi
      have h := hfa i hi
      simp only [List.getElem_map, List.getElem_range]
      refine ⟨?_, ?_, ?_⟩
      · rw [← Addr.add_lit]; exact h.2.1
      · rw [Nat.add_assoc, ← Addr.add_lit]; exact h.2.2.1
      · rw [Nat.add_assoc, ← Addr.add_lit]; exact h.2.2.2

theorem open_ops {H : Type} {enc : TypeId × Value → H} {W : World} {base : Nat} {v : Value} {d : DataW H} {p : List MemPlace} {ts : List TypeId} {ds : List (DataW H)} (j : Nat) (hts : ts[j]? = some 59) (hds : ds[j]? = some d)
    (hsz : (DataW.weightsEach Tryd.prog ts ds).all (· ≤ reachBytes) = true)
    (hok : Value.okWide Tryd.prog W .any base 59 v) (h1 : DataW.Trod enc Tryd.prog W 0 (fun _ => true) true 59 v d p) : ∃ os : List OpV, OSl W v os := by
  obtain ⟨a1, len1, cap1, rfl⟩ := okWide_slice Tryd.underlying59 hok
  obtain ⟨fuel, hf⟩ := h1
  rcases Go.Deep.open_slice Tryd.underlying59 hf with ⟨hcs, _⟩ | ⟨a, len, cap, m, n, D, Pl, hcs, _, hl, hm, hmm, hx, hel⟩
  · simp [Value.cells] at hcs
    obtain ⟨rfl, rfl, rfl⟩ := hcs
    exact ⟨[], none, 0, rfl, Nat.le_refl _, by unfold maxLen; omega, by simp, by simp⟩
  · simp [Value.cells] at hcs
    obtain ⟨rfl, rfl, rfl⟩ := hcs
    simp only [if_true] at hmm
    subst hmm
    have hwD : ∀ i, i < len1 → ∀ k ∈ (D i).weights Tryd.prog 51, k ≤ reachBytes := fun i hi k hk => by
      have h0 := List.all_eq_true.1 hsz k (DataW.weights_mem_each hts hds k (by
        simp only [Prod.mk.injEq] at hx
        rw [hx.1]
        simp only [DataW.weights]
        rw [Tryd.underlying59]
        refine List.mem_cons_of_mem _ (List.mem_append_left _ (weights_all (d := D i) ?_ k hk))
        exact List.mem_map.2 ⟨i, List.mem_range.2 hi, rfl⟩))
      simpa using h0
    have each : ∀ i, i < len1 → ∃ s : OpV, OpOk W s ∧ W.cell? (a.add (i * 8)) = some (.int .i64 s.kind) ∧ W.cell? (a.add (i * 8 + 1)) = some (.bool s.sec) ∧ W.cell? (a.add (i * 8 + 2)) = some (.int .i64 s.a) ∧ W.cell? (a.add (i * 8 + 3)) = some (.int .i64 s.b) ∧
        W.cell? (a.add (i * 8 + 4)) = some s.wv ∧ W.cell? (a.add (i * 8 + 5)) = some s.bv ∧ W.cell? (a.add (i * 8 + 6)) = some s.av ∧ W.cell? (a.add (i * 8 + 7)) = some (.bool s.again) := by
      intro i hi
      obtain ⟨cs', h1, h2⟩ := hel i (by omega)
      have hwi := hwD i hi
      rw [cellsOp] at h1
      obtain ⟨_, hlen, hcell⟩ := World.cells?_some h1
      obtain ⟨xs, k, hk, hxy, _, hxl, hfd⟩ := DataW.trod_struct Tryd.underlying51 h2
      match xs, hxl, cs', hlen with
      | [y0, y1, y2, y3, y4, y5, y6, y7], _, [v0, v1, v2, v3, v4, v5, v6, v7], _ =>
        have g0 := hfd 0 _ rfl
        have g1 := hfd 1 _ rfl
        have g2 := hfd 2 _ rfl
        have g3 := hfd 3 _ rfl
        have g4 := hfd 4 _ rfl
        have g5 := hfd 5 _ rfl
        have g6 := hfd 6 _ rfl
        have g7 := hfd 7 _ rfl
        simp [cellsInt, cellsBool, cellsWords, cellsActs] at g0 g1 g2 g3 g4 g5 g6 g7
        have e0 := hcell 0 (by omega)
        have e1 := hcell 1 (by omega)
        have e2 := hcell 2 (by omega)
        have e3 := hcell 3 (by omega)
        have e4 := hcell 4 (by omega)
        have e5 := hcell 5 (by omega)
        have e6 := hcell 6 (by omega)
        have e7 := hcell 7 (by omega)
        rw [Go.Deep.add_add] at e0 e1 e2 e3 e4 e5 e6 e7
        obtain ⟨z0, hz0, _, wf0⟩ := DataW.trod_int Tryd.underlying3 g0
        obtain ⟨z1, hz1, _⟩ := DataW.trod_bool Tryd.underlying4 g1
        obtain ⟨z2, hz2, _, wf2⟩ := DataW.trod_int Tryd.underlying3 g2
        obtain ⟨z3, hz3, _, wf3⟩ := DataW.trod_int Tryd.underlying3 g3
        obtain ⟨z7, hz7, _⟩ := DataW.trod_bool Tryd.underlying4 g7
        simp at hz0 hz1 hz2 hz3 hz7
        subst hz0 hz1 hz2 hz3 hz7
        simp only [Prod.mk.injEq] at hxy
        obtain ⟨l, hb, hbl⟩ := open_field g4 (fun k hk => hwi k (by
          rw [hxy.1]
          simp only [DataW.weights]
          rw [Tryd.underlying51]
          exact DataW.weights_mem_each (j := 4) rfl rfl k hk))
        obtain ⟨bl, hbb⟩ := open_acts g5
        obtain ⟨al, hab⟩ := open_acts g6
        exact ⟨⟨z0, z1, z2, z3, v4, l, v5, bl, v6, al, z7⟩, ⟨hb, hbl, hbb, hab, bounds_i64 wf0, bounds_i64 wf2, bounds_i64 wf3⟩, by simpa using e0, by simpa using e1, by simpa using e2, by simpa using e3, by simpa using e4, by simpa using e5, by simpa using e6, by simpa using e7⟩
    haveI : Inhabited OpV := ⟨⟨0, false, 0, 0, .slice none 0 0, [], .slice none 0 0, [], .slice none 0 0, [], false⟩⟩
    obtain ⟨f, hfa⟩ := Go.Deep.choose_lt each
    refine ⟨(List.range len1).map f, some a, m, by simp, by simpa using hl, hm, ?_, ?_⟩
    · intro s hs
      obtain ⟨i, hi, rfl⟩ := List.mem_map.1 hs
      exact (hfa i (List.mem_range.1 hi)).1
    · intro hpos
      simp only [List.length_map, List.length_range] at hpos
      obtain ⟨b, off, spot⟩ := a
      have hspot : spot = none := by simpa [Addr.add] using World.cell?_spot (hfa 0 hpos).2.1
      subst hspot
      refine ⟨b, off, rfl, fun i hi => ?_⟩
      simp only [List.length_map, List.length_range] at hi
      obtain ⟨_, q0, q1, q2, q3, q4, q5, q6, q7⟩ := hfa i hi
      simp only [List.getElem_map, List.getElem_range]
      refine ⟨?_, ?_, ?_, ?_, ?_, ?_, ?_, ?_⟩
      · rw [← Addr.add_lit]; exact q0
      · rw [Nat.add_assoc, ← Addr.add_lit]; exact q1
      · rw [Nat.add_assoc, ← Addr.add_lit]; exact q2
      · rw [Nat.add_assoc, ← Addr.add_lit]; exact q3
      · rw [Nat.add_assoc, ← Addr.add_lit]; exact q4
      · rw [Nat.add_assoc, ← Addr.add_lit]; exact q5
      · rw [Nat.add_assoc, ← Addr.add_lit]; exact q6
      · rw [Nat.add_assoc, ← Addr.add_lit]; exact q7
end Go.Proofs.YtglajdmkbckjjabDoor
namespace Go.Proofs.YtglajdmkbckjjabDoor
open Go.ChangeShapes Go.WideShapes Go.ChangeAt Go.RowKit
set_option linter.unusedVariables false
set_option linter.unusedSimpArgs false
set_option maxRecDepth 20000

theorem bytesU8 : Tryd.prog.bytesOf 5 = 1 := by kernel_rfl
/-- bytes that came in: nil has no room -/
def CTl (w : World) (v : Value) (l : List Nat) : Prop := CSl w v l ∧ ∀ n cap, v = .slice none n cap → cap = 0
theorem csl_of_isrow {w : World} {a : Option Addr} {len cap : Nat} {zs : List Int} (h : IsRow .u8 w a len cap zs) : ∃ l : List Nat, l.length = len ∧ CSl w (.slice a len cap) l := by
  rcases h with ⟨rfl, rfl, rfl, rfl⟩ | ⟨x, rfl, hl, hm, hz, hcell, hwz⟩
  · exact ⟨[], rfl, none, 0, rfl, Nat.le_refl _, by unfold maxLen; omega, by simp, by simp⟩
  · have hlen : ((zs.take len).map Int.toNat).length = len := by simp; omega
    refine ⟨(zs.take len).map Int.toNat, hlen, _, cap, by rw [hlen], by omega, hm, ?_, ?_⟩
    · intro b hb
      obtain ⟨n, hn, rfl⟩ := List.mem_map.1 hb
      have := bounds_u8 (hwz n (List.mem_of_mem_take hn))
      omega
    · intro hp
      obtain ⟨b, off, rfl, hc⟩ := ints_at hcell (by omega)
      refine ⟨b, off, rfl, fun i hi => ?_⟩
      rw [hc i (by omega)]
      have hi' : i < zs.length := by omega
      have hb := bounds_u8 (hwz zs[i] (List.getElem_mem hi'))
      have hi2 : i < len := by omega
      have e2 : ((zs.take len).map Int.toNat).getD i 0 = zs[i].toNat := by
        simp [List.getD, hi', hi2]
      have e3 : zs.getD i 0 = zs[i] := by simp [List.getD, hi']
      rw [e2, e3, Int.toNat_of_nonneg hb.1]
theorem open_fieldB {H : Type} {enc : TypeId × Value → H} {W : World} {n : Nat} {v : Value} {y : DataW H × List MemPlace} (h : DataW.trod enc Tryd.prog W 0 (fun _ => true) true n 23 [v] = some y) (hw : ∀ k ∈ y.1.weights Tryd.prog 23, k ≤ reachBytes) : ∃ l : List Nat, CTl W v l ∧ l.length ≤ 140737488351232 := by
  rcases open_ints Tryd.underlying23 Tryd.underlying5 (by kernel_rfl) h with ⟨hcs, hy⟩ | ⟨x, len, cap, zs, hcs, _, hl, hm, hz, hx, hcell, hwz⟩
  · simp at hcs
    subst hcs
    exact ⟨[], ⟨⟨none, 0, rfl, Nat.le_refl _, by unfold maxLen; omega, by simp, by simp⟩, fun n cap e => by injection e with _ _ e3; exact e3.symm⟩, Nat.zero_le _⟩
  · simp at hcs
    subst hcs
    simp only [if_true] at hz
    obtain ⟨l, hll, hb⟩ := csl_of_isrow (.inr ⟨_, rfl, hl, hm, hz, hcell, hwz⟩)
    subst hx
    refine ⟨l, ⟨hb, fun n cap e => by injection e with e1; cases e1⟩, ?_⟩
    have := hw ((zs.length) * 1) (by
      simp only [DataW.weights]
      rw [Tryd.underlying23]
      simp only [lits, List.length_map, List.length_take, List.length_drop, bytesU8]
      rw [show min len zs.length + (zs.length - len) = zs.length by omega]
      exact List.mem_cons_self)
    unfold reachBytes at this
    omega
theorem open_bytes {H : Type} {enc : TypeId × Value → H} {W : World} {base : Nat} {v : Value} {d : DataW H} {p : List MemPlace} {ts : List TypeId} {ds : List (DataW H)} (j : Nat) (hts : ts[j]? = some 23) (hds : ds[j]? = some d)
    (hsz : (DataW.weightsEach Tryd.prog ts ds).all (· ≤ reachBytes) = true) (hok : Value.okWide Tryd.prog W .any base 23 v) (h1 : DataW.Trod enc Tryd.prog W 0 (fun _ => true) true 23 v d p) : ∃ l : List Nat, CTl W v l ∧ l.length ≤ 140737488351232 := by
  obtain ⟨a1, len1, cap1, rfl⟩ := okWide_slice Tryd.underlying23 hok
  obtain ⟨fuel, hf⟩ := h1
  refine open_fieldB hf fun k hk => ?_
  have := List.all_eq_true.1 hsz k (DataW.weights_mem_each hts hds k hk)
  simpa using this
theorem bytes_again {H : Type} {enc : TypeId × Value → H} {W W' : World} {v : Value} {d : DataW H} {p : List MemPlace} (h1 : DataW.Trod enc Tryd.prog W 0 (fun _ => true) true 23 v d p) (bel : Below W.heap.size W W') :
    DataW.Trod enc Tryd.prog W' 0 (fun b => decide (b < W.heap.size)) true 23 v d p := Below.trod laidOut (by kernel_rfl) (of_decide_eq_true (by kernel_rfl)) h1 bel (trod_place_lt h1)
end Go.Proofs.YtglajdmkbckjjabDoor
namespace Go.Proofs.YtglajdmkbckjjabDoor
open Go.RowKit Go.Shelf
set_option linter.unusedVariables false
set_option linter.unusedSimpArgs false
set_option maxRecDepth 20000

theorem enc_full {W : World} {wv : Value} {l : List Nat} {m : Nat} (hT : TabAt W) (hv : WSl W wv l) (h1 : 1 ≤ m) (h2 : m ≤ 65536) (he : cwErr m l = 0) :
    Calls Tryd.prog 9 #[.int .i64 (m : Int), wv] W fun e w' => ∃ g cap c, e = .returned (.tuple #[.slice (some ⟨g, 0, none⟩) c.length cap, .int .i64 0]) ∧ W.heap.size ≤ g ∧ c.length ≤ cap ∧ cap ≤ 9223372036854775807 ∧ 0 < c.length ∧ c.length ≤ 20000 ∧
      Hid (w'.ownsRow 0 5 1 (.slice (some ⟨g, 0, none⟩) c.length cap) c.length (c.map byV)) ∧ Hid (Wrt c (encD (valW l) m)) ∧ Hid (Below W.heap.size W w') := by
  refine (encode_main m hT hv h1 h2 he).mono fun e w' h => ?_
  obtain ⟨cv, c, rfl, ho, hW, hb⟩ := h
  have h0 := (enc_pos hW).1
  rcases ho.2 with ⟨_, hz⟩ | ⟨g, cap, cur, rfl, hg, _, q1, q2, _⟩
  · omega
  · unfold maxLen at q2
    exact ⟨g, cap, c, rfl, hg, q1, by omega, h0, enc_short hW h2, hide (own_low ho (Nat.zero_le _)), hide hW, hide hb⟩
/-- a byte of a code is turned -/
theorem turned {w : World} {g cap i x : Nat} {c : List Nat} (h : w.ownsRow 0 5 1 (.slice (some ⟨g, 0, none⟩) c.length cap) c.length (c.map byV)) (hi : i < c.length) (hx : x < 256) (hb : ∀ y ∈ c, y < 256) :
    w.cell? ⟨g, i, none⟩ = some (.int .u8 (c.getD i 0 : Nat)) ∧ w.frozen? ⟨g, i, none⟩ = false ∧ c.getD i 0 < 256 ∧ Hid (CSl (w.setCell ⟨g, i, none⟩ (.int .u8 (x : Int))) (.slice (some ⟨g, 0, none⟩) c.length cap) (c.set i x)) := by
  refine ⟨?_, ?_, hb _ (mem_getD hi), hide ?_⟩
  · have := h.cells (g := g) rfl i (byV (c.getD i 0)) (by simp [List.getD, hi])
    rw [Addr.add_lit, Nat.zero_add] at this
    simpa [byV] using this
  · rcases h.2 with ⟨hv, hz⟩ | ⟨g', cap', cur, e, hg0, hgc, -⟩
    · simp at hv
    · simp only [Value.slice.injEq, Option.some.injEq, Addr.mk.injEq] at e
      obtain ⟨⟨rfl, -, -⟩, -, rfl⟩ := e
      exact frozen_of_row _ _ _ _ _ hgc
  · have := own_csl (own_set (y := x) h hi) fun y hy => (List.mem_or_eq_of_mem_set hy).elim (hb y) (fun e => by rw [e]; exact hx)
    rw [List.length_set] at this
    exact this
theorem CSl.news8 {w : World} {ad : Addr} {n cap : Nat} {l : List Nat} (h : CSl w (.slice (some ad) n cap) l) : n = l.length ∧ ∀ j u, (l.map byV)[j]? = some u → w.cell? (ad.add j) = some u := by
  obtain ⟨a, cap', e, _, _, _, h4⟩ := h
  injection e with e1 e2 e3
  subst e1
  refine ⟨e2, fun j u hj => ?_⟩
  have hjl : j < l.length := by
    refine Nat.lt_of_not_le fun h => ?_
    rw [List.getElem?_eq_none (by simpa using h)] at hj
    cases hj
  obtain ⟨b, off, e, hc⟩ := h4 (by omega)
  injection e with e
  subst e
  rw [Addr.add_lit, hc j hjl, ← hj]
  simp [byV, List.getD, hjl]
theorem wpList_appT {w : World} {ops : Array Oper} {rest : List Oper} {o : Oper} {a : Act} {Q : Exit → Act → World → Prop} (hgd : o.guard = none) (s x : Operand)
    (ho : o.op = .call { callee := .builtin .append, args := #[s, x], argTypes := #[23, 23] })
    (N : Nat) (v vx : Value) (l0 l : List Nat) (hs : a.eval s = v) (hx : a.eval x = vx) (hown : w.ownsRow N 5 1 v l0.length (l0.map byV)) (hl0 : ∀ y ∈ l0, y < 256) (ht : CTl w vx l) (hlen : l0.length ≤ 20000) (hlen2 : l.length ≤ 140737488351232) (hN : N ≤ w.heap.size)
    (h : ∀ v' w', CSl w' v' (l0 ++ l) → Below N w w' → wpList Tryd.prog ops Q rest (a.put o.dst v') w') : wpList Tryd.prog ops Q (o :: rest) a w := by
  obtain ⟨i0, hi0, hz0, hz1, hz2⟩ := infoBs
  obtain ⟨hc, hnil⟩ := ht
  have hc' := hc
  obtain ⟨ad, cap, rfl, q1, q2, q3, q4⟩ := hc'
  cases ad with
  | none =>
    have hl : l = [] := by
      cases l with
      | nil => rfl
      | cons y r =>
        obtain ⟨_, _, e, _⟩ := q4 (by simp)
        cases e
    subst hl
    obtain rfl := hnil _ _ rfl
    exact wpList_append_own_none hgd s x 23 ho N 5 i0 1 Tryd.underlying23 hi0 v l0.length _ hs hown hx (h v w (by rw [List.append_nil]; exact own_csl hown hl0) (Below.refl _ _))
  | some ad =>
    refine wpList_plain hgd fun K hK => ?_
    obtain ⟨v', w', hr, h2, h3, -⟩ := run_append_own_wide (P := Tryd.prog) w N 23 o.type 5 i0 (.int .u8 0) 1 1 Tryd.underlying23 hi0 hz0 hz1 hz2 rfl (by decide) v l0.length _ hown ad l.length cap (l.map byV) (by simp) hc.news8.2 (fun u hu => by obtain ⟨y, _, rfl⟩ := List.mem_map.1 hu; rfl) (by unfold maxLen; omega) (by omega) hN
    unfold Oper.wp execOp
    simp only [ho, resolve, invoke, builtin, Sem.run_bind, Sem.run_pure, Result.andThen_ok, List.map_toArray, List.map_cons, List.map_nil, hs, hx, hr]
    refine hK _ _ (h v' w' (own_csl (b := N) (by rw [List.length_append, List.map_append]; exact h2) fun y hy => (List.mem_append.1 hy).elim (hl0 y) (q3 y)) ?_)
    exact (Below.refl _ _).grown h3 hN fun j hj => (hown.lt j hj).1
theorem sameW_eq {w : World} {v1 v2 : Value} {l : List Nat} (h1 : WSl w v1 l) (h2 : WSl w v2 l) :
    Calls Tryd.prog 13 #[v1, v2] w fun e w' => e = .returned (.bool true) ∧ Below w.heap.size w w' := (sameWords_any h1 h2).mono fun e w' h => ⟨h.1.trans (by simp), h.2.2⟩
theorem sameW_ne {w : World} {v1 v2 : Value} {l1 l2 : List Nat} (h1 : WSl w v1 l1) (h2 : WSl w v2 l2) (hne : l1 ≠ l2) :
    Calls Tryd.prog 13 #[v1, v2] w fun e w' => e = .returned (.bool false) ∧ Below w.heap.size w w' := (sameWords_any h1 h2).mono fun e w' h => ⟨h.1.trans (by simp [hne]), h.2.2⟩
theorem dec_val {W : World} {cv : Value} {c : List Nat} {m B a : Nat} (h1 : 1 ≤ m) (h2 : m ≤ 65536) (hc : CSl W cv c) (hl : c.length ≤ 150000000000000) (hd : dOut m c = (some B, a)) :
    Calls Tryd.prog 12 #[.int .i64 (m : Int), cv] W fun e w' => ∃ v', e = .returned (.tuple #[v', .int .i64 0, .int .i64 0]) ∧ Below W.heap.size W w' := by
  have h := decode_any h1 h2 hc hl
  rw [hd] at h
  refine h.mono fun e w' h => ?_
  obtain ⟨v', e1, -, -, -, e5⟩ := h
  exact ⟨v', e1, e5⟩
theorem CTl.below {w w' : World} {v : Value} {l : List Nat} (h : CTl w v l) (hb : Below w.heap.size w w') : CTl w' v l := ⟨h.1.blk hb, h.2⟩
theorem mem_part {c : List Nat} {i x p : Nat} (h : ∀ y ∈ c, y < 256) (hx : x < 256) : ∀ y ∈ (c.set i x).take p, y < 256 := fun y hy => (List.mem_or_eq_of_mem_set (List.mem_of_mem_take hy)).elim (h y) (fun e => by rw [e]; exact hx)
end Go.Proofs.YtglajdmkbckjjabDoor
namespace Go.Proofs.YtglajdmkbckjjabDoor
open Go.RowKit Go.Shelf
set_option linter.unusedVariables false
set_option linter.unusedSimpArgs false
set_option maxRecDepth 20000

set_option maxHeartbeats 2000000 in
theorem codePlace_law {w : World} {v tv : Value} {l t : List Nat} (n wh : Int) (x : Nat) (hT : TabAt w) (hv : WSl w v l) (hr : l.length ≤ 17592186044416) (hx : x < 256) (ht : CTl w tv t) (hrt : t.length ≤ 140737488351232) (hwh : i64ok wh) :
    Calls Tryd.prog 3 #[.int .i64 n, v, .int .i64 wh, .int .u8 (x : Int), tv] w fun e w' => e = .returned (.bool true) ∧ Below w.heap.size w w' := by
  have HL := hide (listed_any n hv)
  cases hcan : canB n l with
  | false =>
    rw [hcan] at HL
    obtain ⟨va, vcap, rfl, -⟩ := hv
    obtain ⟨⟨ta, tcap, rfl, -⟩, -⟩ := ht
    clear hcan
    go_enter Tryd.func3, Tryd.ntmps3
    go_wp2_with (go_at_call 8; refine HL.out.mono ?_; clear HL; rintro e w' ⟨rfl, hw⟩; have hw2 := hw.symm; clear hw; subst hw2)
    go_ret
    exact ⟨rfl, Below.refl _ _⟩
  | true =>
    rw [hcan] at HL
    obtain ⟨m, rfl, h1, h2, he⟩ := can_true hcan
    have hlt := hv.lt
    obtain ⟨hlen, hB⟩ := valW_listed h1 hlt he
    have hwd := wd_val hlt
    rw [hlen] at hwd
    have HV := hide hv
    have HTT := hide ht
    have HRT := hide hrt
    have HCP := hide (copied_any hv hr)
    have HEN := hide fun W v' (hT' : TabAt W) (hv' : WSl W v' l) => enc_full (W := W) (wv := v') hT' hv' h1 h2 he
    have HT := hide hT
    obtain ⟨va, vcap, rfl, -⟩ := hv
    obtain ⟨⟨ta, tcap, rfl, tq1, tq2, -⟩, -⟩ := ht
    have HWD := hide hwd
    have HBB := hide hB
    clear hcan he hlen hwd hT hlt hr hrt hB
    generalize hvw : valW l = B at *
    clear hvw
    go_enter Tryd.func3, Tryd.ntmps3
    go_wp2_with (first
      | (go_at_call 8; refine HL.out.mono ?_; clear HL; rintro e w' ⟨rfl, hw⟩; have hw2 := hw.symm; clear hw; subst hw2)
      | (go_at_call 10; refine HCP.out.mono ?_; clear HCP; rintro e w1 ⟨v', rfl, -, hs1, hb1⟩; have HE1 := hide (HEN.out w1 v' (HT.out.below hb1) hs1); have HB1 := hide hb1; clear HEN HT hs1 hb1)
      | (go_at_call 9; refine HE1.out.mono ?_; clear HE1; rintro e w2 ⟨g, cap, c, rfl, hg, hc1, hc2, hc3, hc4, HO, HW, hb2⟩; have HG := hide (Nat.le_trans HB1.out.size hg); have HB2 := hide (HB1.out.trans (hb2.out.mono HB1.out.size)); obtain ⟨i, hi, hA, hB⟩ := idx_of wh hc3 hc4; have HIA := hide hA; have HIB := hide hB; obtain ⟨k0, kf, ky, HCS⟩ := turned HO.out hi hx HW.out.1; have HPL := hide (place_all h1 h2 HBB.out HWD.out HW.out hi hx); have HWB := hide HW.out.1; clear hb2 HB1 hg HO HW HBB; generalize c.getD i 0 = y at *)
      | (go_at_call 12; refine (decode_any h1 h2 HCS.out (by rw [List.length_set]; omega)).mono ?_; intro e w3 hq; have hbs := HB2.out.setCell (p := ⟨g, i, none⟩) HG.out (.int .u8 (x : Int)); have HCS3 := hide fun hb => HCS.out.blk (w' := w3) hb; clear HB2 HG HCS kf k0; rcases HPL.out with ⟨hxy, hdA⟩ | ⟨hxy, B', hdB, hne⟩ | ⟨hxy, p, hdC, hp1, hp2, B', ha⟩ | ⟨hxy, p, hdD, hp1, hp2, ha, htl⟩; all_goals (clear HPL; first | (rw [hdA] at hq; obtain ⟨v3, rfl, -, hs3, -, hb3⟩ := hq; rw [HWD.out] at hs3; have HB3 := hide (hbs.trans (hb3.mono hbs.size)); subst hxy; have HSWA := hide (sameW_eq hs3 (HV.out.below HB3.out)); obtain ⟨a3, cap3, rfl, -⟩ := hs3; clear hb3 hbs hdA HCS3 HTT HV HWD HIA HIB) | (rw [hdB] at hq; obtain ⟨v3, rfl, -, hs3, -, hb3⟩ := hq; have HB3 := hide (hbs.trans (hb3.mono hbs.size)); have hyx : ((y : Int) == (x : Int)) = false := beq_eq_false_iff_ne.2 (by omega); have HSWB := hide (sameW_ne hs3 (HV.out.below HB3.out) hne); obtain ⟨a3, cap3, rfl, -⟩ := hs3; clear hb3 hbs hdB HCS3 HTT HV HWD HIA HIB hne hxy) | (rw [hdC] at hq; obtain ⟨rfl, hb3⟩ := hq; have HB3 := hide (hbs.trans (hb3.mono hbs.size)); have hyx : ((y : Int) == (x : Int)) = false := beq_eq_false_iff_ne.2 (by omega); have hcs := (HCS3.out hb3).part (p := p) (by rw [List.length_set]; omega); have HBY := hide (bytesOf_any hcs (by rw [take_len (by rw [List.length_set]; omega)]; omega)); have HDXC := hide fun W cv (hc : CSl W cv ((c.set i x).take p)) => dec_val h1 h2 hc (by rw [take_len (by rw [List.length_set]; omega)]; omega) ha; have HLT := hide (mem_part (c := c) (i := i) (x := x) (p := p) HWB.out hx); have HTK : Hid (((c.set i x).take p).length ≤ 140737488351232) := hide (by rw [take_len (by rw [List.length_set]; omega)]; omega); have hpa := idx_low HIB.out hp1; have hpb := idx_low2 HIA.out hp1; clear hb3 hbs hdC ha HCS3 HTT HV HWD HIA HIB hxy hcs HWB) | (rw [hdD] at hq; obtain ⟨rfl, hb3⟩ := hq; have HB3 := hide (hbs.trans (hb3.mono hbs.size)); have hyx : ((y : Int) == (x : Int)) = false := beq_eq_false_iff_ne.2 (by omega); have hcs0 := HCS3.out hb3; have HMC := hide hcs0; have hcs := hcs0.part (p := p) (by rw [List.length_set]; omega); have HBY := hide (bytesOf_any hcs (by rw [take_len (by rw [List.length_set]; omega)]; omega)); have HDXD := hide fun W cv (hc : CSl W cv ((c.set i x).take p)) => dec_none h1 h2 hc (by rw [take_len (by rw [List.length_set]; omega)]; omega) ha; have HLT := hide (mem_part (c := c) (i := i) (x := x) (p := p) HWB.out hx); have HTK : Hid (((c.set i x).take p).length ≤ 140737488351232) := hide (by rw [take_len (by rw [List.length_set]; omega)]; omega); have hpa := idx_low HIB.out hp1; have hpb := idx_low2 HIA.out hp1; have HTL := hide htl; clear hb3 hbs hdD ha HCS3 HV HWD HIA HIB hxy hcs hcs0 htl; rcases Nat.lt_or_ge p c.length with hpe | hpe <;> first | (have hpq : ((p : Int) == (c.length : Int)) = false := beq_eq_false_iff_ne.2 (by omega)) | (have hpq : ((p : Int) == (c.length : Int)) = true := by rw [beq_iff_eq]; omega))))
      | (go_at_call 13; refine HSWA.out.mono ?_; clear HSWA; rintro e w9 ⟨rfl, hb9⟩; have HB9 := hide (HB3.out.trans (hb9.mono HB3.out.size)); clear HB3 hb9)
      | (go_at_call 13; refine HSWB.out.mono ?_; clear HSWB; rintro e w9 ⟨rfl, hb9⟩; have HB9 := hide (HB3.out.trans (hb9.mono HB3.out.size)); clear HB3 hb9)
      | (go_at_call 14; refine HBY.out.mono ?_; clear HBY; rintro e w4 ⟨v4, rfl, ho4, hb4⟩; have HB4 := hide (HB3.out.trans (hb4.mono HB3.out.size)); have hcs := ho4.csl HTK.out HLT.out; first | (have HD2C := hide (HDXC.out _ _ hcs); clear HDXC hcs ho4 hb4 HB3) | (have HD2D := hide (HDXD.out _ _ hcs); have HMC4 := hide (HMC.out.blk hb4); clear HDXD hcs ho4 hb4 HB3 HMC))
      | (go_at_call 12; refine HD2C.out.mono ?_; clear HD2C; rintro e w9 ⟨v9, rfl, hb9⟩; have HB9 := hide (HB4.out.trans (hb9.mono HB4.out.size)); clear HB4 hb9)
      | (go_at_call 12; refine HD2D.out.mono ?_; clear HD2D; rintro e w5 ⟨rfl, hb5⟩; have HB5 := hide (HB4.out.trans (hb5.mono HB4.out.size)); have HMC5 := hide (HMC4.out.blk hb5); clear HB4 hb5 HMC4; first | (have HBY2 := hide (bytesOf_any (HMC5.out.part (p := p + 1) (by rw [List.length_set]; omega)) (by rw [take_len (by rw [List.length_set]; omega)]; omega))) | skip)
      | (go_at_call 14; refine HBY2.out.mono ?_; clear HBY2; rintro e w6 ⟨v6, rfl, ho6, hb6⟩; have HO6 := hide (ho6.own (by rw [take_len (by rw [List.length_set]; omega)]; omega)); have HS6 := hide hb6.size; have HB6 := hide (HB5.out.trans (hb6.mono HB5.out.size)); have HTT6 := hide (HTT.out.below HB6.out); clear ho6 hb6 HTT HMC5)
      | (at_builtin; refine wpList_appT rfl (.tmp 151) (.tmp 152) rfl w5.heap.size _ _ _ _ rfl rfl HO6.out (mem_part (c := c) (i := i) (x := x) HWB.out hx) HTT6.out (by rw [take_len (by rw [List.length_set]; omega)]; omega) HRT.out HS6.out ?_; intro v7 w7 hc7 hb7; have HD3 := hide (dec_none h1 h2 hc7 (by rw [List.length_append, take_len (by rw [List.length_set]; omega)]; have := HRT.out; omega) (HTL.out hpe t)); have HB7 := hide (HB6.out.trans (hb7.mono HB5.out.size)); clear hc7 hb7 HO6 HTT6 HB6 HS6)
      | (go_at_call 12; refine HD3.out.mono ?_; clear HD3; rintro e w9 ⟨rfl, hb9⟩; have HB9 := hide (HB7.out.trans (hb9.mono HB7.out.size)); clear HB7 hb9)
      | (go_at_call 11; refine (num_any _ _).mono ?_; rintro e w' ⟨rfl, hw⟩; have hw2 := hw.symm; clear hw; subst hw2))
    all_goals
      go_ret
      first
        | exact ⟨rfl, HB9.out⟩
        | exact ⟨rfl, HB5.out⟩
        | exact ⟨by simp, HB9.out⟩
end Go.Proofs.YtglajdmkbckjjabDoor
namespace Go.Proofs.YtglajdmkbckjjabDoor
open Go.RowKit Go.Shelf
theorem codePlace_all {w : World} {v tv : Value} {l t : List Nat} (n wh x : Int) (hT : TabAt w) (hv : WSl w v l) (hr : l.length ≤ 17592186044416) (hx : 0 ≤ x ∧ x ≤ 255) (ht : CTl w tv t) (hrt : t.length ≤ 140737488351232) (hwh : i64ok wh) :
    Calls Tryd.prog 3 #[.int .i64 n, v, .int .i64 wh, .int .u8 x, tv] w fun e w' => e = .returned (.bool true) ∧ Below w.heap.size w w' := by
  obtain ⟨y, rfl⟩ : ∃ y : Nat, x = (y : Int) := ⟨x.toNat, by omega⟩
  exact codePlace_law n wh y hT hv hr (by omega) ht hrt hwh
end Go.Proofs.YtglajdmkbckjjabDoor
