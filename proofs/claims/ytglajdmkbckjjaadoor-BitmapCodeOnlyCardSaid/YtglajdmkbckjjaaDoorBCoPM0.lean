import Derived.Test.YtglajdmkbckjjaaDoorBRef1
import Derived.Test.YtglajdmkbckjjaaDoorBCm
import Derived.Test.YtglajdmkbckjjaaDoorBLayL
import Derived.Test.YtglajdmkbckjjaaDoorCards
import Derived.Test.YtglajdmkbckjjaaDoorTie
import Derived.WalkKit
import Derived.ProofKit
import Derived.OpenShut
import Derived.ChangeOld
import Derived.SizedLaws
import Derived.ChangeSlices
import Derived.Deep.Slices
import Derived.ChangeSame
import Derived.Deep.DeepHandedRow
import Derived.Lib.LaidTab
import Derived.Test.YtglajdmkbckjjaaDoorBRd
namespace Go.Proofs.YtglajdmkbckjjaaDoor
open Go.RowKit Go.Shelf
set_option linter.unusedVariables false
set_option linter.unusedSimpArgs false
set_option maxRecDepth 20000

theorem bit_shift {B k : Nat} : (bits BinOp.and IntKind.u64 (((wd B (k / 64) : Nat) : Int) / 2 ^ (k % 64)) 1 == 1) = B.testBit k := by
  have hl : wd B (k / 64) / 2 ^ (k % 64) < 18446744073709551616 := Nat.lt_of_le_of_lt (Nat.div_le_self _ _) (wd_lt _ _)
  have e : ((wd B (k / 64) : Nat) : Int) / 2 ^ (k % 64) = ((wd B (k / 64) / 2 ^ (k % 64) : Nat) : Int) := by rw [Int.natCast_ediv]; simp
  have := u64_and_nat (wd B (k / 64) / 2 ^ (k % 64)) 1 hl (by decide)
  simp only [Int.natCast_one] at this
  rw [e, this, bit_of_wd, Nat.testBit, Nat.and_comm, Nat.shiftRight_eq_div_pow]
  generalize wd B (k / 64) / 2 ^ (k % 64) = y
  rw [Nat.one_and_eq_mod_two]
  rcases Nat.mod_two_eq_zero_or_one y with h | h <;> simp [h]
theorem mod_step (V i : Nat) : ∀ j, (V % 2 ^ (i + 1)).testBit j = if j = i then V.testBit i else (V % 2 ^ i).testBit j := by
  intro j
  rw [Nat.testBit_mod_two_pow, Nat.testBit_mod_two_pow]
  by_cases e : j = i
  · subst e; simp
  · rw [if_neg e]
    have : (j < i + 1) ↔ (j < i) := by omega
    simp only [this]

/-- new memory that holds these bools -/
def BoolsAt (w w' : World) (v : Value) (n B : Nat) : Prop := v = .slice (some ⟨w.heap.size, 0, none⟩) n n ∧ w'.heap[w.heap.size]? = some (.cells (boolRow B n) 4 (0, 0)) ∧ Below w.heap.size w w'
theorem bools_any {w : World} {v : Value} {l : List Nat} {n : Nat} (h : WSl w v l) (h1 : 1 ≤ n) (h2 : n ≤ 65536) (hl : l.length = nW n) (hV : valW l < 2 ^ n) :
    Calls Tryd.prog 64 #[.int .i64 (n : Int), v] w fun e w' => ∃ u, e = .returned u ∧ BoolsAt w w' u n (valW l) := by
  have hlt := h.lt
  have hWV : Hid (∀ k, wd (valW l) k = l.getD k 0) := hide fun k => wd_valW _ _ hlt
  obtain ⟨a, cap, rfl, q1, q2, q3, q4, q5⟩ := h
  unfold maxLen at q2
  obtain ⟨b, off, rfl, hc⟩ := q5 (by rw [hl]; unfold nW; omega)
  have hW : nW n ≤ 1024 := by unfold nW; omega
  have hbl := World.block_lt_of_cell? w _ (hc 0 (by rw [hl]; unfold nW; omega))
  have HC := hide hc
  rw [hl] at q1 HC
  rw [hl]
  clear hc q3 q4 q5 hl
  dsimp only at hbl
  have hmk := run_bools n h2
  have HZ : Hid ((w.alloc (.cells (boolRow 0 n) 4)).heap[w.heap.size]? = some (.cells (boolRow (valW l % 2 ^ 0) n) 4 (0, 0))) := hide (by rw [Go.heap_alloc_new w _, Nat.pow_zero, Nat.mod_one])
  have HEND : Hid (boolRow (valW l % 2 ^ n) n = boolRow (valW l) n) := hide (by rw [Nat.mod_eq_of_lt hV])
  generalize boolRow 0 n = Z at *
  generalize valW l = V at *
  generalize hm : nW n = m at *
  have HM := hide hm
  clear hm hlt
  go_enter Tryd.func64, Tryd.ntmps64
  go_wp2_with fail
  go_loopw [6] (fun i wr => ∃ k : Nat, k ≤ n ∧ i = .int .i64 (k : Int) ∧ Below w.heap.size w wr ∧ wr.heap[w.heap.size]? = some (.cells (boolRow (V % 2 ^ k) n) 4 (0, 0))) (fun i _ => n - (intOf i).toNat)
  case atStart => exact ⟨0, Nat.zero_le _, rfl, (Below.refl _ _).alloc (Nat.le_refl _) _, HZ.out⟩
  case round =>
    obtain ⟨k, hk, rfl, hb, hrow⟩ := hrel
    have HB := hide hb
    by_cases hltk : k < n
    · have hkm : k / 64 < m := by rw [← HM.out]; unfold nW; omega
      have hcv := (hb.cell (p := ⟨b, off + k / 64, none⟩) hbl).trans (HC.out (k / 64) hkm)
      rw [← hWV.out] at hcv
      have hbit := bit_shift (B := V) (k := k)
      have hw := wd_lt V (k / 64)
      have hc : wr.cell? ⟨w.heap.size, k, none⟩ = some (.bool ((V % 2 ^ k).testBit k)) := by rw [cell_of_row _ _ _ _ _ _ hrow, boolRow_get hltk]
      have hf : wr.frozen? ⟨w.heap.size, k, none⟩ = false := frozen_of_row _ _ _ _ 4 hrow
      have HN : Hid ((wr.setCell ⟨w.heap.size, k, none⟩ (.bool (V.testBit k))).heap[w.heap.size]? = some (.cells (boolRow (V % 2 ^ (k + 1)) n) 4 (0, 0))) := hide (by
        rw [Go.heap_setCell_same wr w.heap.size k _ 4 _ hrow, boolRow_set (B' := V % 2 ^ (k + 1)) hltk (by rw [mod_step, if_pos rfl]) (fun i _ hne => by rw [mod_step, if_neg hne])])
      clear hrow hb HZ HC
      generalize V.testBit k = vb at *
      generalize (V % 2 ^ k).testBit k = ob at *
      generalize wd V (k / 64) = x at *
      go_wp2_with fail
      go_roundw
      case rel => exact ⟨k + 1, by omega, by go_num, HB.out.setCell (p := ⟨w.heap.size, k, none⟩) (Nat.le_refl _) _, HN.out⟩
      case measure => simp [intOf]; omega
    · have ek : k = n := by omega
      have HR : Hid (wr.heap[w.heap.size]? = some (.cells (boolRow V n) 4 (0, 0))) := hide (by rw [hrow, ek, HEND.out])
      clear hrow ek hb HZ HC
      go_wp2_with fail
      go_ret
      exact ⟨_, rfl, rfl, HR.out, HB.out⟩

theorem or_add {x s : Nat} (hx : x < 2 ^ s) : x ||| 2 ^ s = x + 2 ^ s := by
  have := Nat.two_pow_add_eq_or_of_lt (i := s) (b := x) hx 1
  rw [Nat.mul_one] at this
  rw [Nat.or_comm, ← this, Nat.add_comm]
theorem wd_pack {B i : Nat} (h : B.testBit i = true) : wd (B % 2 ^ i) (i / 64) + 2 ^ (i % 64) = wd (B % 2 ^ (i + 1)) (i / 64) ∧ ∀ j, j ≠ i / 64 → wd (B % 2 ^ (i + 1)) j = wd (B % 2 ^ i) j := by
  have hs : i % 64 < 64 := Nat.mod_lt _ (by decide)
  have hx : wd (B % 2 ^ i) (i / 64) < 2 ^ (i % 64) := lt_of_bits fun j hj => by
    rw [testBit_wd, Nat.testBit_mod_two_pow]
    by_cases hj2 : j < 64
    · have : ¬ 64 * (i / 64) + j < i := by omega
      simp [this]
    · simp [hj2]
  refine ⟨?_, fun j hj => ?_⟩
  · rw [← or_add hx]
    apply Nat.eq_of_testBit_eq
    intro j
    rw [Nat.testBit_or, testBit_wd, testBit_wd, mod_step, Nat.testBit_two_pow]
    by_cases hj2 : j < 64
    · by_cases e : j = i % 64
      · have e2 : 64 * (i / 64) + j = i := by omega
        rw [e2, if_pos rfl]
        simp [hj2, e, h, hs]
      · have e2 : ¬ 64 * (i / 64) + j = i := by omega
        rw [if_neg e2]
        simp [hj2, Ne.symm e]
    · have : ¬ i % 64 = j := by omega
      simp [hj2, this]
  · apply Nat.eq_of_testBit_eq
    intro t
    rw [testBit_wd, testBit_wd, mod_step]
    by_cases ht : t < 64
    · have : ¬ 64 * j + t = i := by omega
      rw [if_neg this]
    · simp [ht]
theorem mod_same {B i : Nat} (h : B.testBit i = false) : B % 2 ^ (i + 1) = B % 2 ^ i := by
  apply Nat.eq_of_testBit_eq
  intro j
  rw [mod_step]
  by_cases e : j = i
  · rw [if_pos e, h, e, Nat.testBit_mod_two_pow]; simp
  · rw [if_neg e]

/-- new memory that holds these words -/
def WordsAt (w w' : World) (v : Value) (m B : Nat) : Prop := v = .slice (some ⟨w.heap.size, 0, none⟩) m m ∧ w'.heap[w.heap.size]? = some (.cells (wrow (wds B m)) 42 (0, 0)) ∧ Below w.heap.size w w'
theorem WordsAt.wsl {w w' : World} {v : Value} {m B : Nat} (h : WordsAt w w' v m B) (hm : m ≤ 1000000) : WSl w' v (wds B m) := by
  obtain ⟨rfl, hr, hb⟩ := h
  refine ⟨some ⟨w.heap.size, 0, none⟩, m, by rw [wds_len], by rw [wds_len]; exact Nat.le_refl _, by unfold maxLen; omega, by simp, wds_lt _ _, fun _ => ⟨w.heap.size, 0, rfl, fun i hi => ?_⟩⟩
  rw [wds_len] at hi
  rw [Nat.zero_add, cell_of_row _ _ _ _ _ _ hr, wrow_get (by rw [wds_len]; exact hi), wds_get hi]
set_option maxHeartbeats 400000 in
theorem pack_any {w : World} {b n B : Nat} (h1 : 1 ≤ n) (h2 : n ≤ 65536) (hB : B < 2 ^ n) (hr : w.heap[b]? = some (.cells (boolRow B n) 4 (0, 0))) :
    Calls Tryd.prog 65 #[.slice (some ⟨b, 0, none⟩) n n] w fun e w' => ∃ v, e = .returned v ∧ WordsAt w w' v (nW n) B := by
  have hbl : b < w.heap.size := (Array.getElem?_eq_some_iff.1 hr).1
  have hW : nW n ≤ 1024 := by unfold nW; omega
  have HL := hide (Length_any w n (by omega))
  have hmk := run_words (nW n) (by omega)
  have HZ : Hid ((w.alloc (.cells (wrow (wds 0 (nW n))) 42)).heap[w.heap.size]? = some (.cells (wrow (wds (B % 2 ^ 0) (nW n))) 42 (0, 0))) := hide (by rw [Go.heap_alloc_new w _, Nat.pow_zero, Nat.mod_one])
  have HEND : Hid (B % 2 ^ n = B) := hide (Nat.mod_eq_of_lt hB)
  have HC : Hid (∀ k, k < n → w.cell? ⟨b, k, none⟩ = some (.bool (B.testBit k))) := hide fun k hk => by rw [cell_of_row _ _ _ _ _ _ hr, boolRow_get hk]
  clear hr
  generalize wrow (wds 0 (nW n)) = Z at *
  generalize hm : nW n = m at *
  have HM := hide hm
  clear hm
  go_enter Tryd.func65, Tryd.ntmps65
  go_wp2_with (go_at_call 69; refine HL.out.mono ?_; rintro e w ⟨rfl, rfl⟩)
  go_loopw [4] (fun i wr => ∃ k : Nat, k ≤ n ∧ i = .int .i64 (k : Int) ∧ Below w.heap.size w wr ∧ wr.heap[w.heap.size]? = some (.cells (wrow (wds (B % 2 ^ k) m)) 42 (0, 0))) (fun i _ => n - (intOf i).toNat)
  case atStart => exact ⟨0, Nat.zero_le _, rfl, (Below.refl _ _).alloc (Nat.le_refl _) _, HZ.out⟩
  case round =>
    obtain ⟨k, hk, rfl, hb, hrow⟩ := hrel
    have HB := hide hb
    by_cases hltk : k < n
    · have hkm : k / 64 < m := by rw [← HM.out]; unfold nW; omega
      have hcv := (hb.cell (p := ⟨b, k, none⟩) hbl).trans (HC.out k hltk)
      cases hbit : B.testBit k
      · rw [hbit] at hcv
        have HN : Hid (wr.heap[w.heap.size]? = some (.cells (wrow (wds (B % 2 ^ (k + 1)) m)) 42 (0, 0))) := hide (by rw [mod_same hbit]; exact hrow)
        clear hrow hb HZ HC hbit HL
        go_wp2_with fail
        go_roundw
        case rel => exact ⟨k + 1, by omega, by go_num, HB.out, HN.out⟩
        case measure => simp [intOf]; omega
      · rw [hbit] at hcv
        obtain ⟨e1, e2⟩ := wd_pack hbit
        have hc : wr.cell? ⟨w.heap.size, k / 64, none⟩ = some (.int .u64 (wd (B % 2 ^ k) (k / 64) : Nat)) := by rw [cell_of_row _ _ _ _ _ _ hrow, wrow_get (by rw [wds_len]; exact hkm), wds_get hkm]
        have hf : wr.frozen? ⟨w.heap.size, k / 64, none⟩ = false := frozen_of_row _ _ _ _ 42 hrow
        have hl1 := wd_lt (B % 2 ^ (k + 1)) (k / 64)
        have hp : IntKind.u64.wrap (2 ^ (k % 64)) = ((2 ^ (k % 64) : Nat) : Int) := by
          have := wrapN (2 ^ (k % 64)) (Nat.pow_lt_pow_right (a := 2) (by decide) (Nat.mod_lt _ (by decide) : k % 64 < 64))
          rw [Int.natCast_pow] at this ⊢
          exact this
        have hsum : IntKind.u64.wrap (((wd (B % 2 ^ k) (k / 64) : Nat) : Int) + ((2 ^ (k % 64) : Nat) : Int)) = ((wd (B % 2 ^ (k + 1)) (k / 64) : Nat) : Int) := by rw [← Int.natCast_add, e1]; exact wrapN _ hl1
        have hsum2 : ((wd (B % 2 ^ k) (k / 64) : Nat) : Int) + ((2 ^ (k % 64) : Nat) : Int) = ((wd (B % 2 ^ (k + 1)) (k / 64) : Nat) : Int) := by rw [← Int.natCast_add, e1]
        have HN : Hid ((wr.setCell ⟨w.heap.size, k / 64, none⟩ (.int .u64 ((wd (B % 2 ^ (k + 1)) (k / 64) : Nat) : Int))).heap[w.heap.size]? = some (.cells (wrow (wds (B % 2 ^ (k + 1)) m)) 42 (0, 0))) := hide (by
          rw [Go.heap_setCell_same wr w.heap.size (k / 64) _ 42 _ hrow, wds_set hkm rfl (fun j _ hj => e2 j hj)])
        clear hrow hb HZ HC hbit e1 e2 HL
        generalize 2 ^ (k % 64) = pw at *
        generalize wd (B % 2 ^ k) (k / 64) = x at *
        generalize wd (B % 2 ^ (k + 1)) (k / 64) = y at *
        go_wp2_with fail
        go_roundw
        case rel => exact ⟨k + 1, by omega, by go_num, HB.out.setCell (p := ⟨w.heap.size, k / 64, none⟩) (Nat.le_refl _) _, HN.out⟩
        case measure => simp [intOf]; omega
    · have ek : k = n := by omega
      have HR : Hid (wr.heap[w.heap.size]? = some (.cells (wrow (wds B m)) 42 (0, 0))) := hide (by rw [hrow, ek, HEND.out])
      clear hrow ek hb HZ HC HL
      go_wp2_with fail
      go_ret
      exact ⟨_, rfl, rfl, HR.out, HB.out⟩

theorem rWords_any {w : World} {R : RL} {n B : Nat} (h : RRep w R n B) :
    Calls Tryd.prog 49 #[PR R] w fun e w' => ∃ v, e = .returned v ∧ WordsAt w w' v (nW n) B := by
  have c0 := h.c0
  have hn := h.n2
  have HP := hide (pack_any h.n1 h.n2 h.hB h.hb)
  clear h
  unfold PR
  go_enter Tryd.func49, Tryd.ntmps49
  go_wp2_with (go_at_call 65; refine HP.out.mono ?_; rintro e w' ⟨v, rfl, hv⟩; have HV := hide hv; clear hv)
  go_ret
  exact ⟨_, rfl, HV.out⟩
end Go.Proofs.YtglajdmkbckjjaaDoor
namespace Go.Proofs.YtglajdmkbckjjaaDoor
open Go.RowKit Go.Shelf
set_option linter.unusedVariables false
set_option linter.unusedSimpArgs false
set_option maxRecDepth 20000

theorem bpRow_take (l : List Nat) (n : Nat) (f : Nat → Nat) (hf : ∀ i, i < l.length → f i = l.getD i 0) (hn : l.length ≤ n) : (bpRow n f).toList.take l.length = l.map byV := by
  apply List.ext_getElem?
  intro i
  by_cases h : i < l.length
  · rw [List.getElem?_take_of_lt h, Array.getElem?_toList, bpRow_get f (by omega), hf i h]
    simp [byV, h, List.getD]
  · rw [List.getElem?_eq_none (by simp; omega), List.getElem?_eq_none (by simp; omega)]
theorem Bo.own {N : Nat} {w : World} {v : Value} {l : List Nat} (h : Bo N w v l) (hl : l.length ≤ 140737488351232) : w.ownsRow N 5 1 v l.length (l.map byV) := by
  obtain ⟨g, rfl, hg, hh⟩ := h
  refine ⟨by simp, .inr ⟨g, l.length + 3, _, rfl, hg, hh, by omega, by unfold maxLen; omega, by rw [bpRow_size, Nat.mul_one], ?_⟩⟩
  rw [Nat.mul_one]
  exact bpRow_take l _ _ (fun i hi => if_pos hi) (by omega)
theorem Bo.csl {N : Nat} {w : World} {v : Value} {l : List Nat} (h : Bo N w v l) (hl : l.length ≤ 140737488351232) (hb : ∀ x ∈ l, x < 256) : CSl w v l := own_csl (h.own hl) hb
theorem CSl.part {w : World} {a : Option Addr} {cap n p : Nat} {c : List Nat} (h : CSl w (.slice a n cap) c) (hp : p ≤ c.length) : CSl w (.slice a p cap) (c.take p) := by
  obtain ⟨a', cap', e, h1, h2, h3, h4⟩ := h
  injection e with e1 e2 e3
  subst e1 e3
  have hlen : (c.take p).length = p := by simp; omega
  refine ⟨a, cap, by rw [hlen], by omega, h2, fun x hx => h3 x (List.mem_of_mem_take hx), fun h0 => ?_⟩
  obtain ⟨b, off, rfl, hc⟩ := h4 (by omega)
  refine ⟨b, off, rfl, fun i hi => ?_⟩
  rw [hc i (by omega)]
  simp [List.getD, List.getElem?_take_of_lt (show i < p by omega)]
/-- a byte behind a copy -/
theorem Bo.more {N : Nat} {w w' : World} {v v' : Value} {l : List Nat} {x : Nat} (h : Bo N w v l) (hl : l.length ≤ 140737488351232) (hb : ∀ y ∈ l, y < 256) (hx : x < 256) (hN : N ≤ w.heap.size)
    (ho : w'.ownsRow 0 5 1 v' (l.length + 1) (l.map byV ++ [.int .u8 (x : Int)])) (hu : (v'.ownBlock = some (w.alloc (.cells #[.int .u8 (x : Int)] 5)).heap.size ∧ (w.alloc (.cells #[.int .u8 (x : Int)] 5)).grownBy w' none) ∨ (∃ g, v.ownBlock = some g ∧ v'.ownBlock = some g ∧ (w.alloc (.cells #[.int .u8 (x : Int)] 5)).grownBy w' (some g))) :
    CSl w' v' (l ++ [x]) ∧ Below N w w' := by
  refine ⟨own_csl (b := 0) (by rw [List.length_append, List.map_append]; exact ho) fun y hy => ?_, ?_⟩
  · rcases List.mem_append.1 hy with h1 | h1
    · exact hb y h1
    · rw [List.mem_singleton.1 h1]; exact hx
  · obtain ⟨g, rfl, hg, -⟩ := h
    have h0 : Below N w (w.alloc (.cells #[.int .u8 (x : Int)] 5)) := (Below.refl _ _).alloc hN _
    have hs : N ≤ (w.alloc (.cells #[.int .u8 (x : Int)] 5)).heap.size := by rw [World.size_alloc]; omega
    rcases hu with ⟨_, h1⟩ | ⟨g', e, _, h1⟩
    · exact h0.grown h1 hs (fun k e => by cases e)
    · simp only [Value.ownBlock, Option.some.injEq] at e
      subst e
      exact h0.grown h1 hs (fun k e => by cases e; exact hg)

theorem enc_at {W : World} {wv : Value} {m B : Nat} (hT : TabAt W) (h1 : 1 ≤ m) (h2 : m ≤ 65536) (hB : B < 2 ^ m) (hv : WSl W wv (wds B (nW m))) :
    Calls Tryd.prog 26 #[.int .i64 (m : Int), wv] W fun e w' => ∃ a cap c, e = .returned (.tuple #[.slice a c.length cap, .int .i64 0]) ∧ CSl w' (.slice a c.length cap) c ∧ Wrt c (encD B m) ∧ Below W.heap.size W w' := by
  obtain ⟨e1, e2⟩ := val_wds h1 hB
  have h := encode_main m hT hv h1 h2 e2
  rw [e1] at h
  refine h.mono fun e w' h => ?_
  obtain ⟨cv, c, rfl, ho, hW, hb⟩ := h
  have hc := own_csl ho hW.1
  obtain ⟨a, cap, rfl, h⟩ := hc
  exact ⟨a, cap, c, rfl, ⟨a, cap, rfl, h⟩, hW, hb⟩
theorem dec_some {W : World} {cv : Value} {c : List Nat} {m B : Nat} (h1 : 1 ≤ m) (h2 : m ≤ 65536) (hB : B < 2 ^ m) (hc : CSl W cv c) (hW : Wrt c (encD B m)) :
    Calls Tryd.prog 24 #[.int .i64 (m : Int), cv] W fun e w' => ∃ v', e = .returned (.tuple #[v', .int .i64 0, .int .i64 0]) ∧ WSl w' v' (wds B (nW m)) ∧ Below W.heap.size W w' := by
  have h := decode_any h1 h2 hc (enc_len hW h2)
  rw [dOut_enc h1 h2 hB hW] at h
  refine h.mono fun e w' h => ?_
  obtain ⟨v', e1, -, e3, -, e5⟩ := h
  exact ⟨v', e1, e3, e5⟩
theorem dec_none {W : World} {cv : Value} {c : List Nat} {m a : Nat} (h1 : 1 ≤ m) (h2 : m ≤ 65536) (hc : CSl W cv c) (hl : c.length ≤ 140737488355328) (hd : dOut m c = (none, a)) :
    Calls Tryd.prog 24 #[.int .i64 (m : Int), cv] W fun e w' => e = .returned (.tuple #[.slice none 0 0, .int .i64 (a : Nat), .int .i64 31]) ∧ Below W.heap.size W w' := by
  have h := decode_any h1 h2 hc hl
  rw [hd] at h
  exact h
theorem sameB_eq {w : World} {v1 v2 : Value} {l : List Nat} (h1 : CSl w v1 l) (h2 : CSl w v2 l) :
    Calls Tryd.prog 27 #[v1, v2] w fun e w' => e = .returned (.bool true) ∧ Below w.heap.size w w' := (sameBytes_any h1 h2).mono fun e w' h => ⟨h.1.trans (by simp), h.2.2⟩
theorem enc_short {c : List Nat} {B n : Nat} (h : Wrt c (encD B n)) (h2 : n ≤ 65536) : c.length ≤ 20000 := by
  have h1 := h.len
  have h3 := encP_len (B := B) n 0 (by omega) (Nat.zero_le n)
  rw [h1, encD, List.length_cons]
  omega
end Go.Proofs.YtglajdmkbckjjaaDoor
namespace Go.Proofs.YtglajdmkbckjjaaDoor
open Go.RowKit Go.Shelf
set_option linter.unusedVariables false
set_option linter.unusedSimpArgs false
set_option maxRecDepth 20000

set_option maxHeartbeats 2000000 in
theorem codeOnly_some {w : World} {v : Value} {c : List Nat} (m B x : Nat) (hT : TabAt w) (hv : CSl w v c) (hr : c.length ≤ 140737488351232) (h1 : 1 ≤ m) (h2 : m ≤ 65536) (hx : x < 256) (hB : B < 2 ^ m) (hW : Wrt c (encD B m)) :
    Calls Tryd.prog 6 #[.int .i64 (m : Int), v, .int .u8 (x : Int)] w fun e w' => e = .returned (.bool true) ∧ Below w.heap.size w w' := by
    have HT := hide hT
    have HBY := hide (bytesOf_any hv hr)
    have HWr := hide hW
    have HD1 := hide fun W cv (hc : CSl W cv c) => dec_some h1 h2 hB hc hW
    have HLT := hide hv.lt
    obtain ⟨va, vcap, rfl, -⟩ := hv
    clear hT hW
    have HR := hide hr
    have HN3 : Hid (c.length ≤ 20000) := hide (enc_short HWr.out h2)
    clear hr
    go_enter Tryd.func6, Tryd.ntmps6
    go_wp2_with (first
      | (go_at_call 25; refine HBY.out.mono ?_; clear HBY; rintro e w1 ⟨mv, rfl, ho, hb1⟩; have hcs := ho.csl HR.out HLT.out; have HD := hide (HD1.out _ _ hcs); have HMC1 := hide hcs; obtain ⟨g, rfl, -, -⟩ := ho; have HB1 := hide hb1; clear hb1 HD1 hcs)
      | (go_at_call 24; refine HD.out.mono ?_; clear HD; rintro e W ⟨wv, rfl, hs, hb⟩; have HMC := hide (HMC1.out.blk hb); have HWS := hide hs; have HBW := hide (HB1.out.trans (hb.mono HB1.out.size)); clear HMC1 HB1 hs hb)
      | (go_at_call 13; refine (num_any _ _).mono ?_; rintro e w' ⟨rfl, hw⟩; have hw2 := hw.symm; clear hw; subst hw2))
    have HMCAP : Hid (c.length ≤ c.length + 3 ∧ c.length + 3 ≤ 9223372036854775807) := hide (by have := HN3.out; omega)
    clear HN3

    have HE := hide (enc_at (HT.out.below HBW.out) h1 h2 hB HWS.out)
    have hpos := (enc_pos HWr.out).1
    have hsh := enc_short HWr.out h2
    have HM := hide fun W' mv x (hx : x < 256) (hc : CSl W' mv (c ++ [x])) => dec_none h1 h2 hc (by simp; omega) (dOut_more (x := x) h1 h2 hB HWr.out)
    have HL := hide fun W' a cap (hc : CSl W' (.slice a c.length cap) c) => dec_none h1 h2 (hc.part (p := c.length - 1) (by omega)) (by simp; omega) (dOut_less h1 h2 hB HWr.out (c.length - 1) (by omega))
    clear HWS hB
    obtain ⟨K, hK⟩ : ∃ K, c.length = K := ⟨_, rfl⟩
    have HK := hide hK
    rw [hK] at hpos hsh HMC HM HL HMCAP ⊢
    clear hK
    have hmcap := HMCAP.out
    clear HMCAP
    obtain ⟨i0, hi0, hz0, hz1, hz2⟩ := infoBs
    have hK0 : ((K : Int) == 0) = false := beq_eq_false_iff_ne.2 (by omega)
    go_wp2_with (first
      | (go_at_call 26; refine HE.out.mono ?_; clear HE; rintro e w3 ⟨a3, cap3, c3, rfl, hs3, hW3, hb3⟩; obtain rfl := hW3.unique HWr.out; have HSB := hide (sameB_eq hs3 (HMC.out.blk hb3)); have HMC3 := hide (HMC.out.blk hb3); have HB3 := hide (HBW.out.trans (hb3.mono HBW.out.size)); clear hs3 hW3 hb3 HMC HBW)
      | (go_at_call 13; refine (num_any _ _).mono ?_; rintro e w' ⟨rfl, hw⟩; have hw2 := hw.symm; clear hw; subst hw2)
      | (go_at_call 27; refine HSB.out.mono ?_; clear HSB; rintro e w4 ⟨rfl, hq⟩; have HB4 := hide (HB3.out.trans (hq.mono HB3.out.size)); have HMC4 := hide (HMC3.out.blk hq); have HBY := hide (bytesOf_any HMC4.out (by rw [HK.out]; omega)); clear hq HB3 HMC3)
      | (go_at_call 25; refine HBY.out.mono ?_; clear HBY; rintro e w5 ⟨v5, rfl, ho5, hb5⟩; have HBO := hide ho5; have HB5 := hide hb5; have HO5 := hide (World.ownsRow.alloc (own_low (b' := 0) (ho5.own (by rw [HK.out]; omega)) (Nat.zero_le _)) (.cells #[.int .u8 (x : Int)] 5)); clear hb5 ho5)
      | (at_builtin; refine wpList_app8 _ rfl (.tmp 119) (.tmp 121) 51 rfl 5 i0 (.int .u8 0) 1 Tryd.underlying51 hi0 hz0 hz1 hz2 rfl _ _ _ rfl HO5.out ⟨w5.heap.size, 0, none⟩ 1 (.int .u8 (x : Int)) rfl (new_one w5 _) rfl (by rw [HK.out]; unfold maxLen; omega) (by rw [HK.out]; omega) ?_; intro v6 w6 ho6 hu6; obtain ⟨hc6, hb6⟩ := HBO.out.more (by rw [HK.out]; omega) HWr.out.1 hx (HB5.out.size) ho6 hu6; have HD2 := hide (HM.out _ _ _ hx hc6); have HB6 := hide ((HB4.out.trans (HB5.out.mono HB4.out.size)).trans (hb6.mono HB4.out.size)); have HB46 := hide (HB5.out.trans hb6); have HMC6 := hide (HMC4.out.blk (HB5.out.trans hb6)); clear ho6 hu6 hc6 hb6 HO5 HBO HB5 HM HB4 HMC4)
      | (go_at_call 24; refine HD2.out.mono ?_; clear HD2; rintro e w7 ⟨rfl, hb7⟩; have HD3 := hide (HL.out _ _ _ (HMC6.out.blk hb7)); have HB7 := hide (HB6.out.trans (hb7.mono HB6.out.size)); clear HL HMC6 hb7 HB6)
      | (go_at_call 24; refine HD3.out.mono ?_; clear HD3; rintro e w8 ⟨rfl, hb8⟩; have HB8 := hide (HB7.out.trans (hb8.mono HB7.out.size)); clear HB7 hb8))
    have hq : ((((K - 1 : Nat)) : Int) == (K : Int) - 1) = true := by rw [beq_iff_eq]; omega
    rw [hq]
    go_ret
    exact ⟨rfl, HB8.out⟩

set_option maxHeartbeats 2000000 in
theorem codeOnly_none {w : World} {v : Value} {c : List Nat} (m B a x : Nat) (hT : TabAt w) (hv : CSl w v c) (hr : c.length ≤ 140737488351232) (h1 : 1 ≤ m) (h2 : m ≤ 65536) (hx : x < 256) (hd : dOut m c = (none, a)) (hB0 : B = 0) :
    Calls Tryd.prog 6 #[.int .i64 (m : Int), v, .int .u8 (x : Int)] w fun e w' => e = .returned (.bool true) ∧ Below w.heap.size w w' := by
    have HT := hide hT
    have HBY := hide (bytesOf_any hv hr)
    have HD1 := hide fun W cv (hc : CSl W cv c) => dec_none h1 h2 hc (by omega) hd
    have hale := dOut_le hd
    have HLT := hide hv.lt
    obtain ⟨va, vcap, rfl, -⟩ := hv
    have hB : B < 2 ^ m := by rw [hB0]; exact Nat.two_pow_pos _
    have hW : nW m ≤ 1024 := by unfold nW; omega
    have hmi : ((nW m : Nat) : Int) = ((m : Int) + 63) / 64 := by unfold nW; omega
    obtain ⟨M, hM⟩ : ∃ M, M = nW m := ⟨_, rfl⟩
    obtain ⟨Z, hZ⟩ : ∃ Z, Z = wrow (wds B (nW m)) := ⟨_, rfl⟩
    have hmk0 : ∀ W : World, (Instr.makeSlice 22 (.int .i64 (((m : Int) + 63) / 64)) (.int .i64 (((m : Int) + 63) / 64))).run Tryd.prog W = .ok (.slice (some ⟨W.heap.size, 0, none⟩) M M) (W.alloc (.cells Z 42)) := fun W => by
      rw [hZ, hM, hB0, ← hmi]
      exact run_words (nW m) (by omega) W
    have HZ : Hid (∀ W : World, WSl (W.alloc (.cells Z 42)) (.slice (some ⟨W.heap.size, 0, none⟩) M M) (wds B (nW m))) := hide fun W => by
      rw [hZ, hM]
      exact WordsAt.wsl ⟨rfl, Go.heap_alloc_new W _, (Below.refl _ _).alloc (Nat.le_refl _) _⟩ (by omega)
    have HE0 := hide fun W' wv (hT' : TabAt W') (hs : WSl W' wv (wds B (nW m))) => enc_at hT' h1 h2 hB hs
    have HDE := hide fun W' cv c' (hc : CSl W' cv c') (hw : Wrt c' (encD B m)) => dec_some h1 h2 hB hc hw
    clear hT hd hZ hmi hW hM hB0
    have HR := hide hr
    clear hr
    generalize hcl : c.length = CL at hale ⊢
    have HCL := hide hcl
    clear hcl
    have hai : ¬ ((CL : Int) < (a : Int)) := by omega
    go_enter Tryd.func6, Tryd.ntmps6
    rw [HCL.out] at HBY
    go_wp2_with (first
      | (go_at_call 25; refine HBY.out.mono ?_; clear HBY; rintro e w1 ⟨mv, rfl, ho, hb1⟩; have hcs := ho.csl HR.out HLT.out; have HD := hide (HD1.out _ _ hcs); have HB1 := hide hb1; clear hb1 HD1 hcs ho)
      | (go_at_call 24; refine HD.out.mono ?_; clear HD; rintro e w2 ⟨rfl, hb⟩; have HB2 := hide (HB1.out.trans (hb.mono HB1.out.size)); have HE1 := hide (HE0.out _ _ ((HT.out.below HB2.out).below ((Below.refl _ _).alloc (Nat.le_refl _) _)) (HZ.out w2)); clear HB1 hb HE0 HZ)
      | (go_at_call 26; refine HE1.out.mono ?_; clear HE1; rintro e w3 ⟨a1, cap1, c1, rfl, hs, hw, hb⟩; have HDX := hide (HDE.out _ _ _ hs hw); have HMC1 := hide hs; have HWr := hide hw; have HB3 := hide ((HB2.out.alloc HB2.out.size _).trans (hb.mono (by have := HB2.out.size; simp; omega))); clear HB2 hs hw hb HDE)
      | (go_at_call 24; refine HDX.out.mono ?_; clear HDX; rintro e W ⟨wv, rfl, hs, hb⟩; have HMC := hide (HMC1.out.blk hb); have HWS := hide hs; have HBW := hide (HB3.out.trans (hb.mono HB3.out.size)); clear HMC1 HB3 hs hb)
      | (go_at_call 13; refine (num_any _ _).mono ?_; rintro e w' ⟨rfl, hw⟩; have hw2 := hw.symm; clear hw; subst hw2))
    have HMCAP : Hid (c1.length ≤ cap1 ∧ cap1 ≤ 9223372036854775807) := hide (by
      obtain ⟨_, _, e, q1, q2, -⟩ := HMC.out
      injection e with e1 e2 e3
      subst e3
      unfold maxLen at q2
      omega)
    obtain ⟨gb, goff, rfl⟩ : ∃ gb goff, a1 = some ⟨gb, goff, none⟩ := by
      obtain ⟨_, _, e, q1, q2, _, q4⟩ := HMC.out
      injection e with e1 e2 e3
      obtain ⟨b, off, e, -⟩ := q4 (enc_pos HWr.out).1
      exact ⟨b, off, by rw [e1, e]⟩

    have HE := hide (enc_at (HT.out.below HBW.out) h1 h2 hB HWS.out)
    have hpos := (enc_pos HWr.out).1
    have hsh := enc_short HWr.out h2
    have HM := hide fun W' mv x (hx : x < 256) (hc : CSl W' mv (c1 ++ [x])) => dec_none h1 h2 hc (by simp; omega) (dOut_more (x := x) h1 h2 hB HWr.out)
    have HL := hide fun W' a cap (hc : CSl W' (.slice a c1.length cap) c1) => dec_none h1 h2 (hc.part (p := c1.length - 1) (by omega)) (by simp; omega) (dOut_less h1 h2 hB HWr.out (c1.length - 1) (by omega))
    clear HWS hB
    obtain ⟨K, hK⟩ : ∃ K, c1.length = K := ⟨_, rfl⟩
    have HK := hide hK
    rw [hK] at hpos hsh HMC HM HL HMCAP ⊢
    clear hK
    have hmcap := HMCAP.out
    clear HMCAP
    obtain ⟨i0, hi0, hz0, hz1, hz2⟩ := infoBs
    have hK0 : ((K : Int) == 0) = false := beq_eq_false_iff_ne.2 (by omega)
    go_wp2_with (first
      | (go_at_call 26; refine HE.out.mono ?_; clear HE; rintro e w3 ⟨a3, cap3, c3, rfl, hs3, hW3, hb3⟩; obtain rfl := hW3.unique HWr.out; have HSB := hide (sameB_eq hs3 (HMC.out.blk hb3)); have HMC3 := hide (HMC.out.blk hb3); have HB3 := hide (HBW.out.trans (hb3.mono HBW.out.size)); clear hs3 hW3 hb3 HMC HBW)
      | (go_at_call 13; refine (num_any _ _).mono ?_; rintro e w' ⟨rfl, hw⟩; have hw2 := hw.symm; clear hw; subst hw2)
      | (go_at_call 27; refine HSB.out.mono ?_; clear HSB; rintro e w4 ⟨rfl, hq⟩; have HB4 := hide (HB3.out.trans (hq.mono HB3.out.size)); have HMC4 := hide (HMC3.out.blk hq); have HBY := hide (bytesOf_any HMC4.out (by rw [HK.out]; omega)); clear hq HB3 HMC3)
      | (go_at_call 25; refine HBY.out.mono ?_; clear HBY; rintro e w5 ⟨v5, rfl, ho5, hb5⟩; have HBO := hide ho5; have HB5 := hide hb5; have HO5 := hide (World.ownsRow.alloc (own_low (b' := 0) (ho5.own (by rw [HK.out]; omega)) (Nat.zero_le _)) (.cells #[.int .u8 (x : Int)] 5)); clear hb5 ho5)
      | (at_builtin; refine wpList_app8 _ rfl (.tmp 119) (.tmp 121) 51 rfl 5 i0 (.int .u8 0) 1 Tryd.underlying51 hi0 hz0 hz1 hz2 rfl _ _ _ rfl HO5.out ⟨w5.heap.size, 0, none⟩ 1 (.int .u8 (x : Int)) rfl (new_one w5 _) rfl (by rw [HK.out]; unfold maxLen; omega) (by rw [HK.out]; omega) ?_; intro v6 w6 ho6 hu6; obtain ⟨hc6, hb6⟩ := HBO.out.more (by rw [HK.out]; omega) HWr.out.1 hx (HB5.out.size) ho6 hu6; have HD2 := hide (HM.out _ _ _ hx hc6); have HB6 := hide ((HB4.out.trans (HB5.out.mono HB4.out.size)).trans (hb6.mono HB4.out.size)); have HB46 := hide (HB5.out.trans hb6); have HMC6 := hide (HMC4.out.blk (HB5.out.trans hb6)); clear ho6 hu6 hc6 hb6 HO5 HBO HB5 HM HB4 HMC4)
      | (go_at_call 24; refine HD2.out.mono ?_; clear HD2; rintro e w7 ⟨rfl, hb7⟩; have HD3 := hide (HL.out _ _ _ (HMC6.out.blk hb7)); have HB7 := hide (HB6.out.trans (hb7.mono HB6.out.size)); clear HL HMC6 hb7 HB6)
      | (go_at_call 24; refine HD3.out.mono ?_; clear HD3; rintro e w8 ⟨rfl, hb8⟩; have HB8 := hide (HB7.out.trans (hb8.mono HB7.out.size)); clear HB7 hb8))
    have hq : ((((K - 1 : Nat)) : Int) == (K : Int) - 1) = true := by rw [beq_iff_eq]; omega
    rw [hq]
    go_ret
    exact ⟨rfl, HB8.out⟩

end Go.Proofs.YtglajdmkbckjjaaDoor
namespace Go.Proofs.YtglajdmkbckjjaaDoor
open Go.RowKit Go.Shelf
set_option linter.unusedVariables false
set_option linter.unusedSimpArgs false
set_option maxRecDepth 20000

set_option maxHeartbeats 2000000 in
theorem codeOnly_no {w : World} {v : Value} {c : List Nat} (n : Int) (x : Nat) (hv : CSl w v c) (hr : c.length ≤ 140737488351232) (h : ¬ (1 ≤ n ∧ n ≤ 65536)) :
    Calls Tryd.prog 6 #[.int .i64 n, v, .int .u8 (x : Int)] w fun e w' => e = .returned (.bool true) ∧ Below w.heap.size w w' := by
  have HBY := hide (bytesOf_any hv hr)
  have HD1 := hide fun W cv => decode_no (w := W) n cv h
  obtain ⟨va, vcap, rfl, -⟩ := hv
  clear hr
  generalize c.length = CL at *
  by_cases h0 : n < 1
  all_goals
    have h6 : n < 1 ∨ 65536 < n := by omega
    clear h
    go_enter Tryd.func6, Tryd.ntmps6
    go_wp2_with (first
      | (go_at_call 25; refine HBY.out.mono ?_; clear HBY; rintro e w1 ⟨mv, rfl, -, hb1⟩; have HB1 := hide hb1; clear hb1)
      | (go_at_call 24; refine (HD1.out _ _).mono ?_; clear HD1; rintro e w2 ⟨rfl, hb⟩; have HB2 := hide (HB1.out.trans (hb.mono HB1.out.size)); clear HB1 hb)
      | (go_at_call 13; refine (num_any _ _).mono ?_; rintro e w' ⟨rfl, hw⟩; have hw2 := hw.symm; clear hw; subst hw2))
    go_ret
    exact ⟨rfl, HB2.out⟩
theorem codeOnly_law {w : World} {v : Value} {c : List Nat} (n : Int) (x : Int) (hT : TabAt w) (hv : CSl w v c) (hr : c.length ≤ 140737488351232) (hx : 0 ≤ x ∧ x ≤ 255) :
    Calls Tryd.prog 6 #[.int .i64 n, v, .int .u8 x] w fun e w' => e = .returned (.bool true) ∧ Below w.heap.size w w' := by
  obtain ⟨y, rfl⟩ : ∃ y : Nat, x = (y : Int) := ⟨x.toNat, by omega⟩
  by_cases hn : 1 ≤ n ∧ n ≤ 65536
  · obtain ⟨m, rfl⟩ : ∃ m : Nat, n = (m : Int) := ⟨n.toNat, by omega⟩
    have h1 : 1 ≤ m := by omega
    have h2 : m ≤ 65536 := by omega
    cases hd : dOut m c with
    | mk o a =>
      cases o with
      | none => exact codeOnly_none m 0 a y hT hv hr h1 h2 (by omega) hd rfl
      | some B =>
        obtain ⟨hW, hB, -⟩ := dOut_code h1 hv.lt hd
        exact codeOnly_some m B y hT hv hr h1 h2 (by omega) hB hW
  · exact codeOnly_no n y hv hr hn
end Go.Proofs.YtglajdmkbckjjaaDoor
namespace Go.Proofs.YtglajdmkbckjjaaDoor
open Go.ChangeShapes Go.WideShapes Go.ChangeAt Go.RowKit
set_option linter.unusedVariables false
set_option linter.unusedSimpArgs false
set_option maxRecDepth 20000

theorem own : ownKnob Tryd.prog.godebug = none := by kernel_rfl
theorem laidOut : laidOutB Tryd.prog = true := by kernel_rfl
theorem gTab : Tryd.prog.globalNamed "math/bits.deBruijn64tab" = some 0 := by kernel_rfl
theorem gTabty : (Tryd.prog.globals[0]?).map (·.type) = some 104 := by kernel_rfl
theorem cellsTab : Tryd.prog.cellsOf 104 = 64 := by kernel_rfl
theorem cells8 : Tryd.prog.cellsOf 5 = 1 := by kernel_rfl
theorem cellsInt : Tryd.prog.cellsOf 3 = 1 := by kernel_rfl
theorem cellsBool : Tryd.prog.cellsOf 4 = 1 := by kernel_rfl
theorem cellsWords : Tryd.prog.cellsOf 22 = 1 := by kernel_rfl
theorem cellsU64 : Tryd.prog.cellsOf 42 = 1 := by kernel_rfl
theorem bytesU64 : Tryd.prog.bytesOf 42 = 8 := by kernel_rfl
theorem cellsActs : Tryd.prog.cellsOf 68 = 1 := by kernel_rfl
theorem cellsAct : Tryd.prog.cellsOf 122 = 3 := by kernel_rfl
theorem cellsOp : Tryd.prog.cellsOf 70 = 8 := by kernel_rfl

def listed : List (String × DataW Unit) := [("math/bits.deBruijn64tab", Rows.laid_math_bits_deBruijn64tab)]
theorem tab_of_laid {W : World} (h : laidMetH Tryd.prog listed W) : TabAt W := by
  have h' : laidMet Tryd.prog [("math/bits.deBruijn64tab", Lib.tabData .u8 (Lib.deBruijn64tab.map fun n : Nat => (n : Int)))] W := h
  have h1 := Lib.tabIs_of_head gTab gTabty Tryd.underlying104 Tryd.underlying5 cells8 cellsTab h'
  intro i hi
  have hl : Lib.deBruijn64tab.length = 64 := by decide
  rw [h1.cell gTab i (by simpa [hl] using hi)]
  simp [List.getD, hi, hl]
def relay (cs : List Value) : Obj → Obj
  | .cells _ t frozen => .cells cs.toArray t frozen
  | o => o
/-- a world for the witness: the settled one, with the table in it -/
def laidIn (w : World) : World := { w with heap := w.heap.modify 0 (relay (Lib.deBruijn64tab.map fun n : Nat => .int .u8 (n : Int))) }

def IsRow (k : IntKind) (w : World) (a : Option Addr) (len cap : Nat) (zs : List Int) : Prop :=
  (a = none ∧ len = 0 ∧ cap = 0 ∧ zs = []) ∨
  ∃ x, a = some x ∧ len ≤ cap ∧ cap ≤ maxLen ∧ zs.length = cap ∧ (∀ i, i < zs.length → w.cell? (x.add i) = some (.int k (zs.getD i 0))) ∧ ∀ n ∈ zs, (Lit.int k n).wf = true
theorem wsl_of_isrow {w : World} {a : Option Addr} {len cap : Nat} {zs : List Int} (h : IsRow .u64 w a len cap zs) : ∃ l : List Nat, l.length = len ∧ WSl w (.slice a len cap) l := by
  rcases h with ⟨rfl, rfl, rfl, rfl⟩ | ⟨x, rfl, hl, hm, hz, hcell, hwz⟩
  · exact ⟨[], rfl, none, 0, rfl, Nat.le_refl _, by unfold maxLen; omega, fun _ => rfl, by simp, by simp⟩
  · have hlen : ((zs.take len).map Int.toNat).length = len := by simp; omega
    refine ⟨(zs.take len).map Int.toNat, hlen, _, cap, by rw [hlen], by omega, hm, by simp, ?_, ?_⟩
    · intro b hb
      obtain ⟨n, hn, rfl⟩ := List.mem_map.1 hb
      have := bounds_u64 (hwz n (List.mem_of_mem_take hn))
      omega
    · intro hp
      obtain ⟨b, off, rfl, hc⟩ := ints_at hcell (by omega)
      refine ⟨b, off, rfl, fun i hi => ?_⟩
      rw [hc i (by omega)]
      have hi' : i < zs.length := by omega
      have hb := bounds_u64 (hwz zs[i] (List.getElem_mem hi'))
      have hi2 : i < len := by omega
      have e2 : ((zs.take len).map Int.toNat).getD i 0 = zs[i].toNat := by
        simp [List.getD, hi', hi2]
      have e3 : zs.getD i 0 = zs[i] := by simp [List.getD, hi']
      rw [e2, e3, Int.toNat_of_nonneg hb.1]

/-- a list of words, of which the weights are known -/
theorem open_field {H : Type} {enc : TypeId × Value → H} {W : World} {n : Nat} {v : Value} {y : DataW H × List MemPlace} (h : DataW.trod enc Tryd.prog W 0 (fun _ => true) true n 22 [v] = some y) (hw : ∀ k ∈ y.1.weights Tryd.prog 22, k ≤ reachBytes) : ∃ l : List Nat, WSl W v l ∧ l.length ≤ 17592186044416 := by
  rcases open_ints Tryd.underlying22 Tryd.underlying42 (by kernel_rfl) h with ⟨hcs, hy⟩ | ⟨x, len, cap, zs, hcs, _, hl, hm, hz, hx, hcell, hwz⟩
  · simp at hcs
    subst hcs
    exact ⟨[], ⟨none, 0, rfl, Nat.le_refl _, by unfold maxLen; omega, fun _ => rfl, by simp, by simp⟩, Nat.zero_le _⟩
  · simp at hcs
    subst hcs
    simp only [if_true] at hz
    obtain ⟨l, hll, hb⟩ := wsl_of_isrow (.inr ⟨_, rfl, hl, hm, hz, hcell, hwz⟩)
    subst hx
    refine ⟨l, hb, ?_⟩
    have := hw ((zs.length) * 8) (by
      simp only [DataW.weights]
      rw [Tryd.underlying22]
      simp only [lits, List.length_map, List.length_take, List.length_drop, bytesU64]
      rw [show min len zs.length + (zs.length - len) = zs.length by omega]
      exact List.mem_cons_self)
    unfold reachBytes at this
    omega
theorem open_words {H : Type} {enc : TypeId × Value → H} {W : World} {base : Nat} {v : Value} {d : DataW H} {p : List MemPlace} {ts : List TypeId} {ds : List (DataW H)} (j : Nat) (hts : ts[j]? = some 22) (hds : ds[j]? = some d)
    (hsz : (DataW.weightsEach Tryd.prog ts ds).all (· ≤ reachBytes) = true) (hok : Value.okWide Tryd.prog W .any base 22 v) (h1 : DataW.Trod enc Tryd.prog W 0 (fun _ => true) true 22 v d p) : ∃ l : List Nat, WSl W v l ∧ l.length ≤ 17592186044416 := by
  obtain ⟨a1, len1, cap1, rfl⟩ := okWide_slice Tryd.underlying22 hok
  obtain ⟨fuel, hf⟩ := h1
  refine open_field hf fun k hk => ?_
  have := List.all_eq_true.1 hsz k (DataW.weights_mem_each hts hds k hk)
  simpa using this
theorem trod_place_lt {H : Type} {enc : TypeId × Value → H} {W : World} {t : TypeId} {v : Value} {d : DataW H} {p : List MemPlace} (h1 : DataW.Trod enc Tryd.prog W 0 (fun _ => true) true t v d p) : ∀ x ∈ p, x.block < W.heap.size := by
  obtain ⟨m, hm⟩ := h1; exact DataW.trod_lt m _ _ _ hm
theorem words_again {H : Type} {enc : TypeId × Value → H} {W W' : World} {v : Value} {d : DataW H} {p : List MemPlace} (h1 : DataW.Trod enc Tryd.prog W 0 (fun _ => true) true 22 v d p) (bel : Below W.heap.size W W') :
    DataW.Trod enc Tryd.prog W' 0 (fun b => decide (b < W.heap.size)) true 22 v d p := Below.trod laidOut (by kernel_rfl) (of_decide_eq_true (by kernel_rfl)) h1 bel (trod_place_lt h1)
theorem ops_again {H : Type} {enc : TypeId × Value → H} {W W' : World} {v : Value} {d : DataW H} {p : List MemPlace} (h1 : DataW.Trod enc Tryd.prog W 0 (fun _ => true) true 23 v d p) (bel : Below W.heap.size W W') :
    DataW.Trod enc Tryd.prog W' 0 (fun b => decide (b < W.heap.size)) true 23 v d p := Below.trod laidOut (by kernel_rfl) (of_decide_eq_true (by kernel_rfl)) h1 bel (trod_place_lt h1)

theorem weights_all {H : Type} {P : Program} {e : TypeId} : ∀ {l : List (DataW H)} {d : DataW H}, d ∈ l → ∀ n ∈ d.weights P e, n ∈ DataW.weightsAll P e l
  | [], _, h => by cases h
  | x :: r, d, h => fun n hn => by
    simp only [DataW.weightsAll, List.mem_append]
    rcases List.mem_cons.1 h with rfl | h
    · exact .inl hn
    · exact .inr (weights_all h n hn)

/-- a list of acts -/
theorem open_acts {H : Type} {enc : TypeId × Value → H} {W : World} {fuel : Nat} {v : Value} {y : DataW H × List MemPlace} (h : DataW.trod enc Tryd.prog W 0 (fun _ => true) true fuel 68 [v] = some y) : ∃ l : List ActV, ASl W v l := by
  rcases Go.Deep.open_slice Tryd.underlying68 h with ⟨hcs, _⟩ | ⟨a, len, cap, m, n, D, Pl, hcs, _, hl, hm, hmm, hx, hel⟩
  · simp at hcs
    subst hcs
    exact ⟨[], none, 0, rfl, Nat.le_refl _, by unfold maxLen; omega, by simp, by simp⟩
  · simp at hcs
    subst hcs
    simp only [if_true] at hmm
    subst hmm
    have each : ∀ i, i < len → ∃ s : ActV, (i64ok s.kind ∧ i64ok s.a ∧ i64ok s.b) ∧ W.cell? (a.add (i * 3)) = some (.int .i64 s.kind) ∧ W.cell? (a.add (i * 3 + 1)) = some (.int .i64 s.a) ∧ W.cell? (a.add (i * 3 + 2)) = some (.int .i64 s.b) := by
      intro i hi
      obtain ⟨cs', h1, h2⟩ := hel i (by omega)
      rw [cellsAct] at h1
      obtain ⟨_, hlen, hcell⟩ := World.cells?_some h1
      obtain ⟨xs, k, hk, hxy, _, hxl, hfd⟩ := DataW.trod_struct Tryd.underlying122 h2
      match xs, hxl, cs', hlen with
      | [y0, y1, y2], _, [v0, v1, v2], _ =>
        have g0 := hfd 0 _ rfl
        have g1 := hfd 1 _ rfl
        have g2 := hfd 2 _ rfl
        simp [cellsInt] at g0 g1 g2
        have e0 := hcell 0 (by omega)
        have e1 := hcell 1 (by omega)
        have e2 := hcell 2 (by omega)
        rw [Go.Deep.add_add] at e0 e1 e2
        obtain ⟨z0, hz0, _, wf0⟩ := DataW.trod_int Tryd.underlying3 g0
        obtain ⟨z1, hz1, _, wf1⟩ := DataW.trod_int Tryd.underlying3 g1
        obtain ⟨z2, hz2, _, wf2⟩ := DataW.trod_int Tryd.underlying3 g2
        simp at hz0 hz1 hz2
        subst hz0 hz1 hz2
        exact ⟨⟨z0, z1, z2⟩, ⟨bounds_i64 wf0, bounds_i64 wf1, bounds_i64 wf2⟩, by simpa using e0, by simpa using e1, by simpa using e2⟩
    haveI : Inhabited ActV := ⟨⟨0, 0, 0⟩⟩
    obtain ⟨f, hfa⟩ := Go.Deep.choose_lt each
    refine ⟨(List.range len).map f, some a, m, by simp, by simpa using hl, hm, ?_, ?_⟩
    · intro s hs
      obtain ⟨i, hi, rfl⟩ := List.mem_map.1 hs
      exact (hfa i (List.mem_range.1 hi)).1
    · intro hpos
      simp only [List.length_map, List.length_range] at hpos
      obtain ⟨b, off, spot⟩ := a
      have hspot : spot = none := by simpa [Addr.add] using World.cell?_spot (hfa 0 hpos).2.1
      subst hspot
      refine ⟨b, off, rfl, fun i hi => ?_⟩
      simp only [List.length_map, List.length_range] at hi
      have h := hfa i hi
      simp only [List.getElem_map, List.getElem_range]
      refine ⟨?_, ?_, ?_⟩
      · rw [← Addr.add_lit]; exact h.2.1
      · rw [Nat.add_assoc, ← Addr.add_lit]; exact h.2.2.1
      · rw [Nat.add_assoc, ← Addr.add_lit]; exact h.2.2.2

theorem open_ops {H : Type} {enc : TypeId × Value → H} {W : World} {base : Nat} {v : Value} {d : DataW H} {p : List MemPlace} {ts : List TypeId} {ds : List (DataW H)} (j : Nat) (hts : ts[j]? = some 23) (hds : ds[j]? = some d)
    (hsz : (DataW.weightsEach Tryd.prog ts ds).all (· ≤ reachBytes) = true)
    (hok : Value.okWide Tryd.prog W .any base 23 v) (h1 : DataW.Trod enc Tryd.prog W 0 (fun _ => true) true 23 v d p) : ∃ os : List OpV, OSl W v os := by
  obtain ⟨a1, len1, cap1, rfl⟩ := okWide_slice Tryd.underlying23 hok
  obtain ⟨fuel, hf⟩ := h1
  rcases Go.Deep.open_slice Tryd.underlying23 hf with ⟨hcs, _⟩ | ⟨a, len, cap, m, n, D, Pl, hcs, _, hl, hm, hmm, hx, hel⟩
  · simp [Value.cells] at hcs
    obtain ⟨rfl, rfl, rfl⟩ := hcs
    exact ⟨[], none, 0, rfl, Nat.le_refl _, by unfold maxLen; omega, by simp, by simp⟩
  · simp [Value.cells] at hcs
    obtain ⟨rfl, rfl, rfl⟩ := hcs
    simp only [if_true] at hmm
    subst hmm
    have hwD : ∀ i, i < len1 → ∀ k ∈ (D i).weights Tryd.prog 70, k ≤ reachBytes := fun i hi k hk => by
      have h0 := List.all_eq_true.1 hsz k (DataW.weights_mem_each hts hds k (by
        simp only [Prod.mk.injEq] at hx
        rw [hx.1]
        simp only [DataW.weights]
        rw [Tryd.underlying23]
        refine List.mem_cons_of_mem _ (List.mem_append_left _ (weights_all (d := D i) ?_ k hk))
        exact List.mem_map.2 ⟨i, List.mem_range.2 hi, rfl⟩))
      simpa using h0
    have each : ∀ i, i < len1 → ∃ s : OpV, OpOk W s ∧ W.cell? (a.add (i * 8)) = some (.int .i64 s.kind) ∧ W.cell? (a.add (i * 8 + 1)) = some (.bool s.sec) ∧ W.cell? (a.add (i * 8 + 2)) = some (.int .i64 s.a) ∧ W.cell? (a.add (i * 8 + 3)) = some (.int .i64 s.b) ∧
        W.cell? (a.add (i * 8 + 4)) = some s.wv ∧ W.cell? (a.add (i * 8 + 5)) = some s.bv ∧ W.cell? (a.add (i * 8 + 6)) = some s.av ∧ W.cell? (a.add (i * 8 + 7)) = some (.bool s.again) := by
      intro i hi
      obtain ⟨cs', h1, h2⟩ := hel i (by omega)
      have hwi := hwD i hi
      rw [cellsOp] at h1
      obtain ⟨_, hlen, hcell⟩ := World.cells?_some h1
      obtain ⟨xs, k, hk, hxy, _, hxl, hfd⟩ := DataW.trod_struct Tryd.underlying70 h2
      match xs, hxl, cs', hlen with
      | [y0, y1, y2, y3, y4, y5, y6, y7], _, [v0, v1, v2, v3, v4, v5, v6, v7], _ =>
        have g0 := hfd 0 _ rfl
        have g1 := hfd 1 _ rfl
        have g2 := hfd 2 _ rfl
        have g3 := hfd 3 _ rfl
        have g4 := hfd 4 _ rfl
        have g5 := hfd 5 _ rfl
        have g6 := hfd 6 _ rfl
        have g7 := hfd 7 _ rfl
        simp [cellsInt, cellsBool, cellsWords, cellsActs] at g0 g1 g2 g3 g4 g5 g6 g7
        have e0 := hcell 0 (by omega)
        have e1 := hcell 1 (by omega)
        have e2 := hcell 2 (by omega)
        have e3 := hcell 3 (by omega)
        have e4 := hcell 4 (by omega)
        have e5 := hcell 5 (by omega)
        have e6 := hcell 6 (by omega)
        have e7 := hcell 7 (by omega)
        rw [Go.Deep.add_add] at e0 e1 e2 e3 e4 e5 e6 e7
        obtain ⟨z0, hz0, _, wf0⟩ := DataW.trod_int Tryd.underlying3 g0
        obtain ⟨z1, hz1, _⟩ := DataW.trod_bool Tryd.underlying4 g1
        obtain ⟨z2, hz2, _, wf2⟩ := DataW.trod_int Tryd.underlying3 g2
        obtain ⟨z3, hz3, _, wf3⟩ := DataW.trod_int Tryd.underlying3 g3
        obtain ⟨z7, hz7, _⟩ := DataW.trod_bool Tryd.underlying4 g7
        simp at hz0 hz1 hz2 hz3 hz7
        subst hz0 hz1 hz2 hz3 hz7
        simp only [Prod.mk.injEq] at hxy
        obtain ⟨l, hb, hbl⟩ := open_field g4 (fun k hk => hwi k (by
          rw [hxy.1]
          simp only [DataW.weights]
          rw [Tryd.underlying70]
          exact DataW.weights_mem_each (j := 4) rfl rfl k hk))
        obtain ⟨bl, hbb⟩ := open_acts g5
        obtain ⟨al, hab⟩ := open_acts g6
        exact ⟨⟨z0, z1, z2, z3, v4, l, v5, bl, v6, al, z7⟩, ⟨hb, hbl, hbb, hab, bounds_i64 wf0, bounds_i64 wf2, bounds_i64 wf3⟩, by simpa using e0, by simpa using e1, by simpa using e2, by simpa using e3, by simpa using e4, by simpa using e5, by simpa using e6, by simpa using e7⟩
    haveI : Inhabited OpV := ⟨⟨0, false, 0, 0, .slice none 0 0, [], .slice none 0 0, [], .slice none 0 0, [], false⟩⟩
    obtain ⟨f, hfa⟩ := Go.Deep.choose_lt each
    refine ⟨(List.range len1).map f, some a, m, by simp, by simpa using hl, hm, ?_, ?_⟩
    · intro s hs
      obtain ⟨i, hi, rfl⟩ := List.mem_map.1 hs
      exact (hfa i (List.mem_range.1 hi)).1
    · intro hpos
      simp only [List.length_map, List.length_range] at hpos
      obtain ⟨b, off, spot⟩ := a
      have hspot : spot = none := by simpa [Addr.add] using World.cell?_spot (hfa 0 hpos).2.1
      subst hspot
      refine ⟨b, off, rfl, fun i hi => ?_⟩
      simp only [List.length_map, List.length_range] at hi
      obtain ⟨_, q0, q1, q2, q3, q4, q5, q6, q7⟩ := hfa i hi
      simp only [List.getElem_map, List.getElem_range]
      refine ⟨?_, ?_, ?_, ?_, ?_, ?_, ?_, ?_⟩
      · rw [← Addr.add_lit]; exact q0
      · rw [Nat.add_assoc, ← Addr.add_lit]; exact q1
      · rw [Nat.add_assoc, ← Addr.add_lit]; exact q2
      · rw [Nat.add_assoc, ← Addr.add_lit]; exact q3
      · rw [Nat.add_assoc, ← Addr.add_lit]; exact q4
      · rw [Nat.add_assoc, ← Addr.add_lit]; exact q5
      · rw [Nat.add_assoc, ← Addr.add_lit]; exact q6
      · rw [Nat.add_assoc, ← Addr.add_lit]; exact q7
end Go.Proofs.YtglajdmkbckjjaaDoor
namespace Go.Proofs.YtglajdmkbckjjaaDoor
open Go.ChangeShapes Go.WideShapes Go.ChangeAt Go.RowKit
set_option linter.unusedVariables false
set_option linter.unusedSimpArgs false
set_option maxRecDepth 20000

theorem bytesU8 : Tryd.prog.bytesOf 5 = 1 := by kernel_rfl
theorem csl_of_isrow {w : World} {a : Option Addr} {len cap : Nat} {zs : List Int} (h : IsRow .u8 w a len cap zs) : ∃ l : List Nat, l.length = len ∧ CSl w (.slice a len cap) l := by
  rcases h with ⟨rfl, rfl, rfl, rfl⟩ | ⟨x, rfl, hl, hm, hz, hcell, hwz⟩
  · exact ⟨[], rfl, none, 0, rfl, Nat.le_refl _, by unfold maxLen; omega, by simp, by simp⟩
  · have hlen : ((zs.take len).map Int.toNat).length = len := by simp; omega
    refine ⟨(zs.take len).map Int.toNat, hlen, _, cap, by rw [hlen], by omega, hm, ?_, ?_⟩
    · intro b hb
      obtain ⟨n, hn, rfl⟩ := List.mem_map.1 hb
      have := bounds_u8 (hwz n (List.mem_of_mem_take hn))
      omega
    · intro hp
      obtain ⟨b, off, rfl, hc⟩ := ints_at hcell (by omega)
      refine ⟨b, off, rfl, fun i hi => ?_⟩
      rw [hc i (by omega)]
      have hi' : i < zs.length := by omega
      have hb := bounds_u8 (hwz zs[i] (List.getElem_mem hi'))
      have hi2 : i < len := by omega
      have e2 : ((zs.take len).map Int.toNat).getD i 0 = zs[i].toNat := by
        simp [List.getD, hi', hi2]
      have e3 : zs.getD i 0 = zs[i] := by simp [List.getD, hi']
      rw [e2, e3, Int.toNat_of_nonneg hb.1]
theorem open_fieldB {H : Type} {enc : TypeId × Value → H} {W : World} {n : Nat} {v : Value} {y : DataW H × List MemPlace} (h : DataW.trod enc Tryd.prog W 0 (fun _ => true) true n 51 [v] = some y) (hw : ∀ k ∈ y.1.weights Tryd.prog 51, k ≤ reachBytes) : ∃ l : List Nat, CSl W v l ∧ l.length ≤ 140737488351232 := by
  rcases open_ints Tryd.underlying51 Tryd.underlying5 (by kernel_rfl) h with ⟨hcs, hy⟩ | ⟨x, len, cap, zs, hcs, _, hl, hm, hz, hx, hcell, hwz⟩
  · simp at hcs
    subst hcs
    exact ⟨[], ⟨none, 0, rfl, Nat.le_refl _, by unfold maxLen; omega, by simp, by simp⟩, Nat.zero_le _⟩
  · simp at hcs
    subst hcs
    simp only [if_true] at hz
    obtain ⟨l, hll, hb⟩ := csl_of_isrow (.inr ⟨_, rfl, hl, hm, hz, hcell, hwz⟩)
    subst hx
    refine ⟨l, hb, ?_⟩
    have := hw ((zs.length) * 1) (by
      simp only [DataW.weights]
      rw [Tryd.underlying51]
      simp only [lits, List.length_map, List.length_take, List.length_drop, bytesU8]
      rw [show min len zs.length + (zs.length - len) = zs.length by omega]
      exact List.mem_cons_self)
    unfold reachBytes at this
    omega
theorem open_bytes {H : Type} {enc : TypeId × Value → H} {W : World} {base : Nat} {v : Value} {d : DataW H} {p : List MemPlace} {ts : List TypeId} {ds : List (DataW H)} (j : Nat) (hts : ts[j]? = some 51) (hds : ds[j]? = some d)
    (hsz : (DataW.weightsEach Tryd.prog ts ds).all (· ≤ reachBytes) = true) (hok : Value.okWide Tryd.prog W .any base 51 v) (h1 : DataW.Trod enc Tryd.prog W 0 (fun _ => true) true 51 v d p) : ∃ l : List Nat, CSl W v l ∧ l.length ≤ 140737488351232 := by
  obtain ⟨a1, len1, cap1, rfl⟩ := okWide_slice Tryd.underlying51 hok
  obtain ⟨fuel, hf⟩ := h1
  refine open_fieldB hf fun k hk => ?_
  have := List.all_eq_true.1 hsz k (DataW.weights_mem_each hts hds k hk)
  simpa using this
theorem bytes_again {H : Type} {enc : TypeId × Value → H} {W W' : World} {v : Value} {d : DataW H} {p : List MemPlace} (h1 : DataW.Trod enc Tryd.prog W 0 (fun _ => true) true 51 v d p) (bel : Below W.heap.size W W') :
    DataW.Trod enc Tryd.prog W' 0 (fun b => decide (b < W.heap.size)) true 51 v d p := Below.trod laidOut (by kernel_rfl) (of_decide_eq_true (by kernel_rfl)) h1 bel (trod_place_lt h1)
end Go.Proofs.YtglajdmkbckjjaaDoor
