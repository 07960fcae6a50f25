import Derived.Test.YtglajdmkbckjjabDoorBCdB
import Derived.Test.YtglajdmkbckjjabDoorBWords
import Derived.Test.YtglajdmkbckjjabDoorBShelf
import Derived.Deep.DeepAppendWide
namespace Go.Proofs.YtglajdmkbckjjabDoor
open Go.RowKit
set_option linter.unusedVariables false
set_option linter.unusedSimpArgs false
set_option maxRecDepth 20000

theorem bitLenAux_log : ∀ (f x : Nat), x < 2 ^ f → x ≠ 0 → Lib.bitLenAux f x = x.log2 + 1
  | 0, x, h, h0 => by simp at h; omega
  | f + 1, x, h, h0 => by
    unfold Lib.bitLenAux
    rw [if_neg h0]
    by_cases h1 : x / 2 = 0
    · have : x = 1 := by omega
      subst this
      cases f with
      | zero => rfl
      | succ f => simp [Lib.bitLenAux, Nat.log2_def]
    · rw [bitLenAux_log f (x / 2) (by rw [Nat.pow_succ] at h; omega) h1]
      rw [Nat.log2_def x, if_pos (by omega)]
      omega
theorem bitLen_log (x : Nat) (h0 : x ≠ 0) (h : x < 2 ^ 64) : Lib.bitLen x = x.log2 + 1 := bitLenAux_log 64 x h h0
theorem len_any (w : World) (x : Nat) (h1 : 1 ≤ x) (h2 : x ≤ 65536) : Calls Tryd.prog 56 #[.int .u64 (x : Int)] w fun e w' => e = .returned (.int .i64 ((x.log2 + 1 : Nat) : Int)) ∧ w' = w := by
  have h := Go.Proofs.Any.bits_Len Tryd.lenA (x : Int) w (by omega) (by omega)
  rw [Int.toNat_natCast] at h
  have e : Lib.bitLen x = x.log2 + 1 := bitLen_log x (by omega) (by omega)
  rw [e] at h
  exact h
theorem rowK8 {w w' : World} {base c : Nat} {e : TypeId} {v : Value} {n : Nat} {xs : List Value} (h : w.ownsRow base e c v n xs) (hk : ∀ g, v.ownBlock = some g → w'.heap[g]? = w.heap[g]?) : w'.ownsRow base e c v n xs := by
  refine ⟨h.1, ?_⟩
  rcases h.2 with h0 | ⟨g, cap, cur, rfl, h1, hg, r⟩
  · exact .inl h0
  · exact .inr ⟨g, cap, cur, rfl, h1, by rw [hk g rfl]; exact hg, r⟩
def byV (x : Nat) : Value := .int .u8 (x : Int)
/-- a writer of digits: its box and its bytes; since w0 nothing else has turned -/
structure WS (w0 w : World) (p : Nat) (cv : Value) (c : List Nat) (D : List Bool) : Prop where
  row : w.heap[p]? = some (.cells #[cv, .int .i64 (D.length : Int)] 68 (0, 0))
  own : w.ownsRow 0 5 1 cv c.length (c.map byV)
  wrt : Wrt c D
  chg : Chg (fun b => b = p) w0 w
  loc : ∀ b, cv.ownBlock = some b → w0.heap.size ≤ b
  pN : p < w0.heap.size
/-- only the box, blocks of bytes and new ones have turned -/
structure TF (p : Nat) (w w' : World) : Prop where
  os : w'.os = w.os
  tape : w'.tape = w.tape
  output : w'.output = w.output
  size : w.heap.size ≤ w'.heap.size
  keep : ∀ b o, w.heap[b]? = some o → b ≠ p → (∀ cs fr, o ≠ .cells cs 5 fr) → w'.heap[b]? = some o
theorem TF.refl (p : Nat) (w : World) : TF p w w := ⟨rfl, rfl, rfl, Nat.le_refl _, fun _ _ h _ _ => h⟩
theorem TF.trans {p : Nat} {a b c : World} (h : TF p a b) (k : TF p b c) : TF p a c := ⟨k.os.trans h.os, k.tape.trans h.tape, k.output.trans h.output, Nat.le_trans h.size k.size, fun x o h1 h2 h3 => k.keep x o (h.keep x o h1 h2 h3) h2 h3⟩
theorem wp_still_tail {P : Program} {id : Nat} {Q : Exit → Act → World → Prop} {a : Act} {w : World} {l : List Oper} (n : Nat) (hm : P.follows .mixedOrders = true) (hB : Region.lexTailB .any l.toArray n = true)
    (h : wpStill P l.toArray w.drew (fun a' => wpList P l.toArray Q (l.drop n) a' w.drew) (l.take n) a) : (Code.region id l.toArray true).wp P Q a w :=
  wp_region_still_tail n hm hB h
theorem own_set {w : World} {g cap K y : Nat} {c : List Nat} (h : w.ownsRow 0 5 1 (.slice (some ⟨g, 0, none⟩) c.length cap) c.length (c.map byV)) (hK : K < c.length) : (w.setCell ⟨g, K, none⟩ (byV y)).ownsRow 0 5 1 (.slice (some ⟨g, 0, none⟩) (c.set K y).length cap) (c.set K y).length ((c.set K y).map byV) := by
  rcases h.2 with ⟨hv, hz⟩ | ⟨g', cap', cur, e, hg0, hgc, hnc, hcm, hcs, htk⟩
  · omega
  · simp only [Value.slice.injEq, Option.some.injEq, Addr.mk.injEq] at e
    obtain ⟨⟨rfl, -, -⟩, -, rfl⟩ := e
    refine ⟨by simp, .inr ⟨g, cap, cur.setIfInBounds K (byV y), rfl, hg0, Go.heap_setCell_same _ _ K _ 5 _ hgc, by simpa using hnc, hcm, by simpa using hcs, ?_⟩⟩
    rw [Nat.mul_one] at htk ⊢
    rw [List.length_set, Array.toList_setIfInBounds, List.take_set, htk, List.map_set]
/-- a writer with room for a digit -/
structure WQ (w0 w : World) (p g cap : Nat) (c : List Nat) (D : List Bool) (m : Nat) : Prop where
  row : w.heap[p]? = some (.cells #[.slice (some ⟨g, 0, none⟩) c.length cap, .int .i64 (D.length : Int)] 68 (0, 0))
  own : w.ownsRow 0 5 1 (.slice (some ⟨g, 0, none⟩) c.length cap) c.length (c.map byV)
  byt : ∀ x ∈ c, x < 256
  dg : digs c = D ++ List.replicate (m + 1) false
  m8 : m < 8
  chg : Chg (fun b => b = p) w0 w
  loc : w0.heap.size ≤ g
  pN : p < w0.heap.size
theorem WQ.blk {w0 w : World} {p g cap m : Nat} {c : List Nat} {D : List Bool} (h : WQ w0 w p g cap c D m) : ∃ cs, w.heap[g]? = some (.cells cs 5 (0, 0)) := by
  rcases h.own.2 with ⟨hv, hz⟩ | ⟨g', cap', cur, e, hg0, hgc, -⟩
  · simp at hv
  · simp only [Value.slice.injEq, Option.some.injEq, Addr.mk.injEq] at e
    obtain ⟨⟨rfl, -, -⟩, -, rfl⟩ := e
    exact ⟨cur, hgc⟩
theorem WQ.cell {w0 w : World} {p g cap m : Nat} {c : List Nat} {D : List Bool} (h : WQ w0 w p g cap c D m) {k : Nat} (hk : k < c.length) : w.cell? ⟨g, k, none⟩ = some (.int .u8 (c.getD k 0 : Nat)) := by
  have := h.own.cells (g := g) rfl k (byV (c.getD k 0)) (by simp [List.getD, hk])
  rw [Addr.add_lit] at this
  simpa [byV] using this
theorem WQ.put {w0 w : World} {p g cap m : Nat} {c : List Nat} {D : List Bool} (h : WQ w0 w p g cap c D m) (d : Bool) (x : Int) (hx : x = (D.length : Int) + 1) :
    WS w0 ((w.drew.setCell ⟨g, D.length / 8, none⟩ (.int .u8 (orD (c.getD (D.length / 8) 0) (D.length % 8) d : Nat))).setCell ⟨p, 1, none⟩ (.int .i64 x)) p (.slice (some ⟨g, 0, none⟩) c.length cap) (c.set (D.length / 8) (orD (c.getD (D.length / 8) 0) (D.length % 8) d)) (D ++ [d]) ∧
    TF p w ((w.drew.setCell ⟨g, D.length / 8, none⟩ (.int .u8 (orD (c.getD (D.length / 8) 0) (D.length % 8) d : Nat))).setCell ⟨p, 1, none⟩ (.int .i64 x)) := by
  subst hx
  obtain ⟨p1, p2, p3⟩ := wrt_put h.byt h.dg h.m8 d
  obtain ⟨cs, hcs⟩ := h.blk
  have hgp : g ≠ p := fun e => by have := h.row; rw [← e, hcs] at this; simp at this
  have hs : ∀ (W : World) (a : Addr) (v : Value), (W.setCell a v).heap.size = W.heap.size := fun W a v => by simp [World.setCell]
  have hot : ∀ b, b ≠ p → b ≠ g → ((w.drew.setCell ⟨g, D.length / 8, none⟩ (.int .u8 (orD (c.getD (D.length / 8) 0) (D.length % 8) d : Nat))).setCell ⟨p, 1, none⟩ (.int .i64 ((D.length : Int) + 1))).heap[b]? = w.heap[b]? := fun b h1 h2 => by
    rw [Go.heap_setCell_other _ _ _ _ h1, Go.heap_setCell_other _ _ _ _ h2]
    rfl
  have hrow1 : (w.drew.setCell ⟨g, D.length / 8, none⟩ (.int .u8 (orD (c.getD (D.length / 8) 0) (D.length % 8) d : Nat))).heap[p]? = some (.cells #[.slice (some ⟨g, 0, none⟩) c.length cap, .int .i64 (D.length : Int)] 68 (0, 0)) := by
    rw [Go.heap_setCell_other _ _ _ _ (Ne.symm hgp)]
    exact h.row
  have how := own_set (y := orD (c.getD (D.length / 8) 0) (D.length % 8) d) h.own p1
  refine ⟨⟨?_, ?_, p3, ⟨h.chg.os, h.chg.tape, h.chg.output, by rw [hs, hs]; exact h.chg.size, fun b hb hne => ?_⟩, fun b e => ?_, h.pN⟩, ⟨rfl, rfl, rfl, by rw [hs, hs]; exact Nat.le_refl _, fun b o h1 h2 h3 => ?_⟩⟩
  · rw [Go.heap_setCell_same _ _ 1 _ 68 _ hrow1]
    simp
  · rw [List.length_set] at how
    rw [List.length_set]
    refine rowK8 (w := w.drew.setCell ⟨g, D.length / 8, none⟩ (byV (orD (c.getD (D.length / 8) 0) (D.length % 8) d))) how fun b e => ?_
    simp only [Value.ownBlock, Option.some.injEq] at e
    subst e
    exact Go.heap_setCell_other _ _ _ _ hgp
  · rw [hot b hne (by have := h.loc; omega)]
    exact h.chg.keep b hb hne
  · simp only [Value.ownBlock, Option.some.injEq] at e
    subst e
    exact h.loc
  · rw [hot b h2 (fun e => by subst e; rw [hcs] at h1; exact h3 cs (0, 0) (Option.some.inj h1).symm)]
    exact h1
end Go.Proofs.YtglajdmkbckjjabDoor
