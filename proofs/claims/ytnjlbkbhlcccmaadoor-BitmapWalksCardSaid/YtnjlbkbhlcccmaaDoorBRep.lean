import Derived.Test.YtnjlbkbhlcccmaaDoorBOnes
import Derived.Test.YtnjlbkbhlcccmaaDoorBRound
namespace Go.Proofs.YtnjlbkbhlcccmaaDoor
open Go.RowKit
set_option linter.unusedVariables false
set_option linter.unusedSimpArgs false

def u64V (n : Nat) : Value := .int .u64 (n : Int)
def wrow (l : List Nat) : Array Value := (l.map u64V).toArray
theorem wrow_size (l : List Nat) : (wrow l).size = l.length := by simp [wrow]
theorem wrow_get {l : List Nat} {i : Nat} (h : i < l.length) : (wrow l)[i]? = some (.int .u64 (l.getD i 0 : Nat)) := by
  simp [wrow, List.getD, h, u64V]
def nW (n : Nat) : Nat := (n + 63) / 64
/-- the first m words -/
def wds (B m : Nat) : List Nat := (List.range m).map (wd B)
theorem wds_len (B m : Nat) : (wds B m).length = m := by simp [wds]
theorem wds_get {B m k : Nat} (h : k < m) : (wds B m).getD k 0 = wd B k := by simp [wds, List.getD, h]
theorem wds_lt (B m : Nat) : ∀ x ∈ wds B m, x < 18446744073709551616 := by
  intro x hx
  obtain ⟨k, _, rfl⟩ := List.mem_map.1 hx
  exact wd_lt _ _
theorem wds_set {B B' m k x : Nat} (hk : k < m) (h1 : wd B' k = x) (h2 : ∀ j, j < m → j ≠ k → wd B' j = wd B j) : (wrow (wds B m)).setIfInBounds k (.int .u64 (x : Int)) = wrow (wds B' m) := by
  apply Array.ext_getElem?
  intro i
  by_cases hi : i < m
  · by_cases e : i = k
    · subst e
      rw [Array.getElem?_setIfInBounds_self_of_lt (by rw [wrow_size, wds_len]; exact hi), wrow_get (by rw [wds_len]; exact hi), wds_get hi, h1]
    · rw [Array.getElem?_setIfInBounds_ne (by omega), wrow_get (by rw [wds_len]; exact hi), wrow_get (by rw [wds_len]; exact hi), wds_get hi, wds_get hi, h2 i hi e]
  · rw [Array.getElem?_eq_none (by simp [wrow_size, wds_len]; omega), Array.getElem?_eq_none (by simp [wrow_size, wds_len]; omega)]

/-- where a bitmap lies -/
structure BL where
  p : Nat
  lo : Nat
  hi : Nat
def bmRow (L : BL) (n : Nat) : Array Value := #[.int .i64 (n : Int), .slice (some ⟨L.lo, 0, none⟩) (nW n) (nW n), .slice (some ⟨L.hi, 0, none⟩) (nW (nW n)) (nW (nW n))]
/-- a bitmap of n bits that has the bits B -/
structure BRep (w : World) (L : BL) (n B : Nat) : Prop where
  n1 : 1 ≤ n
  n2 : n ≤ 65536
  hB : B < 2 ^ n
  hp : w.heap[L.p]? = some (.cells (bmRow L n) 74 (0, 0))
  hlo : w.heap[L.lo]? = some (.cells (wrow (wds B (nW n))) 63 (0, 0))
  hhi : w.heap[L.hi]? = some (.cells (wrow (wds (up B (nW n)) (nW (nW n)))) 63 (0, 0))
  ne : L.lo ≠ L.hi
def PB (L : BL) : Value := .pointer (some ⟨L.p, 0, none⟩)
def BL.U (L : BL) (b : Nat) : Prop := b = L.p ∨ b = L.lo ∨ b = L.hi

/-- only blocks of U, and new ones, have turned -/
structure Chg (U : Nat → Prop) (w w' : World) : Prop where
  os : w'.os = w.os
  tape : w'.tape = w.tape
  output : w'.output = w.output
  size : w.heap.size ≤ w'.heap.size
  keep : ∀ b, b < w.heap.size → ¬ U b → w'.heap[b]? = w.heap[b]?
theorem Chg.refl (U : Nat → Prop) (w : World) : Chg U w w := ⟨rfl, rfl, rfl, Nat.le_refl _, fun _ _ _ => rfl⟩
theorem Chg.trans {U : Nat → Prop} {a b c : World} (h : Chg U a b) (k : Chg U b c) : Chg U a c :=
  ⟨k.os.trans h.os, k.tape.trans h.tape, k.output.trans h.output, Nat.le_trans h.size k.size, fun i hi hu => (k.keep i (Nat.lt_of_lt_of_le hi h.size) hu).trans (h.keep i hi hu)⟩
theorem Chg.mono {U V : Nat → Prop} {a b : World} (h : Chg U a b) (hu : ∀ i, i < a.heap.size → U i → V i) : Chg V a b := ⟨h.os, h.tape, h.output, h.size, fun i hi hv => h.keep i hi fun hU => hv (hu i hi hU)⟩
theorem Chg.ofBelow {U : Nat → Prop} {w w' : World} (h : Below w.heap.size w w') : Chg U w w' := ⟨h.os, h.tape, h.output, h.size, fun b hb _ => h.block b hb⟩
theorem Chg.below {U : Nat → Prop} {w w' : World} {N : Nat} (h : Chg U w w') (hN : N ≤ w.heap.size) (hu : ∀ b, U b → N ≤ b) : Below N w w' :=
  ⟨h.os, h.tape, h.output, h.size, fun k hk => h.keep k (by omega) fun hU => by have := hu k hU; omega⟩

theorem BRep.bp {w : World} {L : BL} {n B : Nat} (h : BRep w L n B) : L.p < w.heap.size := (Array.getElem?_eq_some_iff.1 h.hp).1
theorem BRep.blo {w : World} {L : BL} {n B : Nat} (h : BRep w L n B) : L.lo < w.heap.size := (Array.getElem?_eq_some_iff.1 h.hlo).1
theorem BRep.bhi {w : World} {L : BL} {n B : Nat} (h : BRep w L n B) : L.hi < w.heap.size := (Array.getElem?_eq_some_iff.1 h.hhi).1
theorem BRep.p_lo {w : World} {L : BL} {n B : Nat} (h : BRep w L n B) : L.p ≠ L.lo := fun e => by have := h.hp; rw [e, h.hlo] at this; simp at this
theorem BRep.p_hi {w : World} {L : BL} {n B : Nat} (h : BRep w L n B) : L.p ≠ L.hi := fun e => by have := h.hp; rw [e, h.hhi] at this; simp at this
theorem BRep.kept {w w' : World} {L : BL} {n B : Nat} (h : BRep w L n B) (hk : ∀ b, L.U b → w'.heap[b]? = w.heap[b]?) : BRep w' L n B :=
  ⟨h.n1, h.n2, h.hB, (hk _ (.inl rfl)).trans h.hp, (hk _ (.inr (.inl rfl))).trans h.hlo, (hk _ (.inr (.inr rfl))).trans h.hhi, h.ne⟩
theorem BRep.uLt {w : World} {L : BL} {n B : Nat} (h : BRep w L n B) : ∀ b, L.U b → b < w.heap.size := by
  rintro b (rfl | rfl | rfl)
  · exact h.bp
  · exact h.blo
  · exact h.bhi
theorem BRep.below {w w' : World} {L : BL} {n B : Nat} (h : BRep w L n B) (hb : Below w.heap.size w w') : BRep w' L n B := h.kept fun b hu => hb.block b (h.uLt b hu)
theorem BRep.chg {U : Nat → Prop} {w w' : World} {L : BL} {n B : Nat} (h : BRep w L n B) (hc : Chg U w w') (hu : ∀ b, L.U b → ¬ U b) : BRep w' L n B := h.kept fun b hb => hc.keep b (h.uLt b hb) (hu b hb)

theorem BRep.c0 {w : World} {L : BL} {n B : Nat} (h : BRep w L n B) : w.cell? ⟨L.p, 0, none⟩ = some (.int .i64 (n : Int)) := cell_of_row _ _ _ _ _ _ h.hp
theorem BRep.c1 {w : World} {L : BL} {n B : Nat} (h : BRep w L n B) : w.cell? ⟨L.p, 1, none⟩ = some (.slice (some ⟨L.lo, 0, none⟩) (nW n) (nW n)) := cell_of_row _ _ _ _ _ _ h.hp
theorem BRep.c2 {w : World} {L : BL} {n B : Nat} (h : BRep w L n B) : w.cell? ⟨L.p, 2, none⟩ = some (.slice (some ⟨L.hi, 0, none⟩) (nW (nW n)) (nW (nW n))) := cell_of_row _ _ _ _ _ _ h.hp
theorem BRep.cl {w : World} {L : BL} {n B : Nat} (h : BRep w L n B) {k : Nat} (hk : k < nW n) : w.cell? ⟨L.lo, k, none⟩ = some (.int .u64 (wd B k : Nat)) := by
  rw [cell_of_row _ _ _ _ _ _ h.hlo, wrow_get (by rw [wds_len]; exact hk), wds_get hk]
theorem BRep.ch {w : World} {L : BL} {n B : Nat} (h : BRep w L n B) {k : Nat} (hk : k < nW (nW n)) : w.cell? ⟨L.hi, k, none⟩ = some (.int .u64 (wd (up B (nW n)) k : Nat)) := by
  rw [cell_of_row _ _ _ _ _ _ h.hhi, wrow_get (by rw [wds_len]; exact hk), wds_get hk]
theorem BRep.fl {w : World} {L : BL} {n B : Nat} (h : BRep w L n B) (k : Nat) : w.frozen? ⟨L.lo, k, none⟩ = false := frozen_of_row _ _ _ _ 63 h.hlo
theorem BRep.fh {w : World} {L : BL} {n B : Nat} (h : BRep w L n B) (k : Nat) : w.frozen? ⟨L.hi, k, none⟩ = false := frozen_of_row _ _ _ _ 63 h.hhi

/-- the table of math/bits -/
def TabAt (w : World) : Prop := ∀ i, i < 64 → w.cell? ⟨0, i, none⟩ = some (.int .u8 (Lib.deBruijn64tab.getD i 0 : Nat))
theorem TabAt.of {w w' : World} (h : TabAt w) (e : w'.heap[0]? = w.heap[0]?) : TabAt w' := fun i hi => by rw [World.cell?_of_block e]; exact h i hi
theorem TabAt.lt {w : World} (h : TabAt w) : 0 < w.heap.size := World.block_lt_of_cell? w _ (h 0 (by decide))
theorem TabAt.below {w w' : World} (h : TabAt w) (hb : Below w.heap.size w w') : TabAt w' := h.of (hb.block _ h.lt)

theorem tz_fact (x : Nat) (hx : x < 18446744073709551616) (h0 : x ≠ 0) : ∃ i, i < 64 ∧ Lib.deBruijn64tab.getD i 0 = Lib.ctz 64 x ∧ Lib.ctz 64 x < 64 ∧
    IntKind.u64.wrap (bits BinOp.and IntKind.u64 (x : Int) (IntKind.u64.wrap (-(x : Int))) * 285870213051353865) / 288230376151711744 = (i : Int) := by
  obtain ⟨hb, hlt⟩ := Lib.lowest_bit 64 x h0 hx
  obtain ⟨h1, h2⟩ := Lib.deBruijn64_at (Lib.ctz 64 x) hlt
  refine ⟨_, h1, h2, hlt, ?_⟩
  have e1 : IntKind.u64.wrap (-(x : Int)) = ((18446744073709551616 - x : Nat) : Int) := by rw [IntKind.wrap_u64]; omega
  have e2 : x &&& (18446744073709551616 - x) = 2 ^ Lib.ctz 64 x := hb
  rw [e1, bits_and_u64_nat _ _ hx (by omega), e2, IntKind.wrap_u64]
  generalize 2 ^ Lib.ctz 64 x = y
  omega

theorem tz_any (x : Nat) (hx : x < 18446744073709551616) (h0 : x ≠ 0) (w : World) (hT : TabAt w) :
    Calls Tryd.prog 58 #[.int .u64 (x : Int)] w fun e w' => e = .returned (.int .i64 ((Lib.ctz 64 x : Nat) : Int)) ∧ w' = w := by
  obtain ⟨i, hi, ht, hlt, he⟩ := tz_fact x hx h0
  have hc := hT i hi
  rw [ht] at hc
  have hne : ((x : Int) == 0) = false := by simp; exact h0
  clear ht hT hx h0
  generalize Lib.ctz 64 x = c at hc hlt ⊢
  go_enter Tryd.func58, Tryd.ntmps58
  go_wp2
  go_ret
  exact ⟨rfl, rfl⟩
end Go.Proofs.YtnjlbkbhlcccmaaDoor
