import Derived.Test.YtdjdcpldofmdjaaCRm
import Derived.Test.YtdjdcpldofmdjaaKApp
namespace Go.Proofs.Ytdjdcpldofmdjaa
open Go.RowKit
set_option linter.unusedVariables false
set_option linter.unusedSimpArgs false
set_option maxRecDepth 20000

/-- a list of words in memory -/
def WdL (w : World) (v : Value) (ns : Nm) : Prop := ∃ g cap, v = .slice (some ⟨g, 0, none⟩) ns.length cap ∧ ns.length ≤ cap ∧ cap ≤ maxLen ∧ ∀ i, i < ns.length → w.cell? ⟨g, i, none⟩ = some (.string (ns.getD i default).1)
theorem WdL.below {w w' : World} {v : Value} {ns : Nm} (h : WdL w v ns) (hb : Below w.heap.size w w') : WdL w' v ns := by
  obtain ⟨g, cap, e, h1, h2, h3⟩ := h
  exact ⟨g, cap, e, h1, h2, fun i hi => cell_bel hb (h3 i hi)⟩
def RwV (w : World) (d : Option Nm) (x : Value) : Prop := match d with
  | some ns => WdL w x ns
  | none => x = .slice none 0 0
theorem RwV.below {w w' : World} {d : Option Nm} {x : Value} (h : RwV w d x) (hb : Below w.heap.size w w') : RwV w' d x := by
  cases d with
  | none => exact h
  | some ns => exact WdL.below h hb
/-- the document's parts in memory -/
def RPs (w : World) (v : Value) : Prop := ∃ g cap, v = .slice (some ⟨g, 0, none⟩) 30 cap ∧ 30 ≤ cap ∧ cap ≤ maxLen ∧ ∀ j, j < 30 → w.cell? ⟨g, j * 3, none⟩ = some (.string (rtx j)) ∧ (∃ x, w.cell? ⟨g, j * 3 + 1, none⟩ = some x ∧ RwV w (rkd j) x) ∧ w.cell? ⟨g, j * 3 + 2, none⟩ = some (.bool (rnb j))
theorem RPs.below {w w' : World} {v : Value} (h : RPs w v) (hb : Below w.heap.size w w') : RPs w' v := by
  obtain ⟨g, cap, e, h1, h2, h3⟩ := h
  refine ⟨g, cap, e, h1, h2, fun j hj => ?_⟩
  obtain ⟨a, ⟨x, b, c⟩, d⟩ := h3 j hj
  exact ⟨cell_bel hb a, ⟨x, cell_bel hb b, c.below hb⟩, cell_bel hb d⟩
theorem blk_at : ∀ (os : List Obj) (w : World) (k : Nat) (o : Obj), os[k]? = some o → (os.foldl World.alloc w).heap[w.heap.size + k]? = some o ∧ (os.foldl World.alloc w).heap.size = w.heap.size + os.length ∧ Below w.heap.size w (os.foldl World.alloc w)
  | [], w, k, o, h => by simp at h
  | [x], w, 0, o, h => by
    have : x = o := by simpa using h
    subst this
    exact ⟨Go.heap_alloc_new w _, by simp, (Below.refl _ _).alloc (Nat.le_refl _) _⟩
  | x :: y :: l, w, 0, o, h => by
    have : x = o := by simpa using h
    subst this
    have ih := blk_at (y :: l) (w.alloc x) 0 y rfl
    obtain ⟨h1, h2, h3⟩ := ih
    refine ⟨?_, ?_, ?_⟩
    · show ((y :: l).foldl World.alloc (w.alloc x)).heap[w.heap.size]? = _
      rw [h3.block _ (by simp)]
      exact Go.heap_alloc_new w _
    · show ((y :: l).foldl World.alloc (w.alloc x)).heap.size = _
      rw [h2]; simp; omega
    · exact ((Below.refl _ _).alloc (Nat.le_refl _) x).trans (h3.mono (by simp))
  | [x], w, k + 1, o, h => by simp at h
  | x :: y :: l, w, k + 1, o, h => by
    obtain ⟨h1, h2, h3⟩ := blk_at (y :: l) (w.alloc x) k o (by simpa using h)
    rw [World.size_alloc] at h1 h2 h3
    refine ⟨?_, ?_, ?_⟩
    · show ((y :: l).foldl World.alloc (w.alloc x)).heap[w.heap.size + (k + 1)]? = _
      rw [show w.heap.size + (k + 1) = w.heap.size + 1 + k by omega]; exact h1
    · show ((y :: l).foldl World.alloc (w.alloc x)).heap.size = _
      rw [h2]; simp; omega
    · exact ((Below.refl _ _).alloc (Nat.le_refl _) x).trans (h3.mono (by simp))
theorem blk_of {os : List Obj} {w w0 : World} (h : os.foldl World.alloc w = w0) (hn : 0 < os.length) : w0.heap.size = w.heap.size + os.length ∧ Below w.heap.size w w0 ∧ ∀ k o, os[k]? = some o → w0.heap[w.heap.size + k]? = some o := by
  subst h
  have h0 := blk_at os w 0 (os[0]) (by simp)
  exact ⟨h0.2.1, h0.2.2, fun k o hk => (blk_at os w k o hk).1⟩
theorem wdl_new {w' : World} {g n : Nat} {cs : Array Value} {ns : Nm} {t : TypeId} (hg : w'.heap[g]? = some (.cells cs t (0, 0))) (hn : ns.length = n) (h63 : n ≤ maxLen) (hc : ∀ i, i < n → cs[i]? = some (.string (ns.getD i default).1)) : WdL w' (.slice (some ⟨g, 0, none⟩) n n) ns := by
  subst hn
  refine ⟨g, ns.length, rfl, Nat.le_refl _, h63, fun i hi => ?_⟩
  rw [cell_of_row _ _ _ _ _ _ hg]
  exact hc i hi
def nmsL : List ByteArray := [⟨#[110, 115]⟩, ⟨#[110, 114]⟩, ⟨#[100, 119]⟩, ⟨#[100, 114]⟩, ⟨#[97, 108]⟩, ⟨#[97, 112]⟩, ⟨#[117, 97]⟩, ⟨#[101, 112]⟩, ⟨#[111, 111, 115]⟩]
theorem nms_lead : ∀ i, i < 9 → (⟨#[32]⟩ : ByteArray) ++ nmsL.getD i ⟨#[]⟩ ++ ⟨#[58]⟩ = leadsL.getD (6 + i) ⟨#[]⟩ ∧ (nmsL.getD i ⟨#[]⟩).size ≤ 3 := by
  intro i hi
  have hc : i = 0 ∨ i = 1 ∨ i = 2 ∨ i = 3 ∨ i = 4 ∨ i = 5 ∨ i = 6 ∨ i = 7 ∨ i = 8 := by omega
  rcases hc with rfl | rfl | rfl | rfl | rfl | rfl | rfl | rfl | rfl <;> exact ⟨by rfl, by decide⟩
def numL : Nat → List Value
  | 0 => []
  | i + 1 => numL i ++ [.string (leadsL.getD (6 + i) ⟨#[]⟩), .slice none 0 0, .bool false] ++ [.string ⟨#[]⟩, .slice none 0 0, .bool true]
def fstL (N : Nat) : List Value := [.string ⟨#[99, 115, 58]⟩, .slice none 0 0, .bool false, .string ⟨#[]⟩, .slice (some ⟨N, 0, none⟩) 8 8, .bool false,
  .string ⟨#[32, 114, 111, 58]⟩, .slice none 0 0, .bool false, .string ⟨#[]⟩, .slice (some ⟨N + 1, 0, none⟩) 2 2, .bool false,
  .string ⟨#[47]⟩, .slice none 0 0, .bool false, .string ⟨#[]⟩, .slice (some ⟨N + 2, 0, none⟩) 3 3, .bool false,
  .string ⟨#[32, 100, 115, 58]⟩, .slice none 0 0, .bool false, .string ⟨#[]⟩, .slice (some ⟨N + 3, 0, none⟩) 3 3, .bool false,
  .string ⟨#[47]⟩, .slice none 0 0, .bool false, .string ⟨#[]⟩, .slice (some ⟨N + 4, 0, none⟩) 4 4, .bool false,
  .string ⟨#[32]⟩, .slice none 0 0, .bool false, .string ⟨#[]⟩, .slice (some ⟨N + 5, 0, none⟩) 3 3, .bool false]
/-- while the parts are laid -/
structure PB (N : Nat) (w0 wr : World) (v : Value) (n : Nat) (xs : List Value) : Prop where
  own : wr.ownsRow 0 56 3 v n xs
  chg : Chg (fun b => b = N + 6) w0 wr
  loc : ∀ b, v.ownBlock = some b → b = N + 6 ∨ N + 8 ≤ b
theorem PB.alloc {N : Nat} {w0 wr : World} {v : Value} {n : Nat} {xs : List Value} (h : PB N w0 wr v n xs) (o : Obj) : PB N w0 (wr.alloc o) v n xs := ⟨h.own.alloc o, h.chg.trans (.ofBelow ((Below.refl _ _).alloc (Nat.le_refl _) _)), h.loc⟩
theorem PB.upon {N : Nat} {w0 wr w4 : World} {v v' : Value} {n m : Nat} {xs ys : List Value} (h : PB N w0 wr v n xs) (h0 : w0.heap.size = N + 8) (hu : Upon wr w4 v v') (ho : w4.ownsRow 0 56 3 v' m ys) : PB N w0 w4 v' m ys := by
  have hs := h.chg.size
  obtain ⟨a1, a2, a3⟩ := hu.same
  refine ⟨ho, ⟨a1.trans h.chg.os, a2.trans h.chg.tape, a3.trans h.chg.output, Nat.le_trans hs hu.size, fun b hb hb' => (hu.block b (by omega) fun e => ?_).trans (h.chg.keep b hb hb')⟩, fun b e => ?_⟩
  · rcases h.loc b e with e | e
    · exact hb' e
    · omega
  · rcases hu.loc b e with e | e
    · exact h.loc b e
    · omega
theorem Try.infoP : (Try.prog.info? 56).map (fun i => (i.zero, i.size, i.bytes)) = some (some (.agg #[.string ⟨#[]⟩, .slice none 0 0, .bool false]), 3, 48) := by kernel_rfl
theorem infoPs : ∃ i, Try.prog.info? 56 = some i ∧ i.zero = some (.agg #[.string ⟨#[]⟩, .slice none 0 0, .bool false]) ∧ i.size = 3 ∧ i.bytes = 48 := by
  have h := Try.infoP
  cases hi : Try.prog.info? 56 with
  | none => rw [hi] at h; simp at h
  | some i => rw [hi] at h; simp at h; exact ⟨i, rfl, h.1, h.2.1, h.2.2⟩
theorem rps_of {N : Nat} {w0 wr : World} {v : Value} (h : PB N w0 wr v 30 (fstL N ++ numL 9)) (h0 : w0.heap.size = N + 8) (c0 : WdL w0 (.slice (some ⟨N, 0, none⟩) 8 8) connsN) (c1 : WdL w0 (.slice (some ⟨N + 1, 0, none⟩) 2 2) rolesN) (c2 : WdL w0 (.slice (some ⟨N + 2, 0, none⟩) 3 3) peersN) (c3 : WdL w0 (.slice (some ⟨N + 3, 0, none⟩) 3 3) disksN) (c4 : WdL w0 (.slice (some ⟨N + 4, 0, none⟩) 4 4) pdsksN) (c5 : WdL w0 (.slice (some ⟨N + 5, 0, none⟩) 3 3) protsN) : RPs wr v := by
  have hk : ∀ g n ns, g < N + 6 → WdL w0 (.slice (some ⟨g, 0, none⟩) n n) ns → WdL wr (.slice (some ⟨g, 0, none⟩) n n) ns := by
    intro g n ns hg hw
    obtain ⟨g', cap, e, h1, h2, h3⟩ := hw
    simp only [Value.slice.injEq, Option.some.injEq, Addr.mk.injEq] at e
    obtain ⟨⟨rfl, -, -⟩, rfl, rfl⟩ := e
    refine ⟨g, _, rfl, h1, h2, fun i hi => ?_⟩
    rw [World.cell?_of_block (h.chg.keep g (by omega) (by omega))]
    exact h3 i hi
  have d0 := hk _ _ _ (by omega) c0
  have d1 := hk _ _ _ (by omega) c1
  have d2 := hk _ _ _ (by omega) c2
  have d3 := hk _ _ _ (by omega) c3
  have d4 := hk _ _ _ (by omega) c4
  have d5 := hk _ _ _ (by omega) c5
  rcases h.own.2 with ⟨-, hf⟩ | ⟨g, cap, cur, rfl, -, -, hn, hm, -⟩
  · cases hf
  · refine ⟨g, cap, rfl, hn, hm, ?_⟩
    have hc : ∀ j u, (fstL N ++ numL 9)[j]? = some u → wr.cell? ⟨g, j, none⟩ = some u := fun j u hu => by
      have := h.own.cells (g := g) rfl j u hu
      rw [Addr.add_lit] at this
      simpa using this
    intro j hj
    have hcs : j = 0 ∨ j = 1 ∨ j = 2 ∨ j = 3 ∨ j = 4 ∨ j = 5 ∨ j = 6 ∨ j = 7 ∨ j = 8 ∨ j = 9 ∨ j = 10 ∨ j = 11 ∨ j = 12 ∨ j = 13 ∨ j = 14 ∨ j = 15 ∨ j = 16 ∨ j = 17 ∨ j = 18 ∨ j = 19 ∨ j = 20 ∨ j = 21 ∨ j = 22 ∨ j = 23 ∨ j = 24 ∨ j = 25 ∨ j = 26 ∨ j = 27 ∨ j = 28 ∨ j = 29 := by omega
    rcases hcs with rfl | rfl | rfl | rfl | rfl | rfl | rfl | rfl | rfl | rfl | rfl | rfl | rfl | rfl | rfl | rfl | rfl | rfl | rfl | rfl | rfl | rfl | rfl | rfl | rfl | rfl | rfl | rfl | rfl | rfl
    all_goals refine ⟨hc _ _ rfl, ⟨_, hc _ _ rfl, ?_⟩, hc _ _ rfl⟩
    all_goals first | exact d0 | exact d1 | exact d2 | exact d3 | exact d4 | exact d5 | exact (rfl : Value.slice none 0 0 = Value.slice none 0 0)
end Go.Proofs.Ytdjdcpldofmdjaa
