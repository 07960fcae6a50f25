import Derived.Test.YtepgiomgkgfioaaDoorShaSum
namespace Go.Proofs.YtepgiomgkgfioaaDoor
open Go.RowKit
open Num
set_option linter.unusedVariables false
set_option linter.unusedSimpArgs false

/-- the two tables of the package -/
structure Tabs (w : World) : Prop where
  h : Tab w 0 H0
  k : Tab w 1 Ks
theorem Tabs.below {w w' : World} (h : Tabs w) (hb : Below w.heap.size w w') : Tabs w' := ⟨h.h.below hb, h.k.below hb⟩
theorem Tab.lt {w : World} {g : Nat} {l : List Nat} (h : Tab w g l) (hl : 0 < l.length) : g < w.heap.size := World.block_lt_of_cell? w ⟨g, 0, none⟩ (h 0 hl)
theorem Tabs.ltK {w : World} (h : Tabs w) : 1 < w.heap.size := h.k.lt (by decide)
theorem Tabs.ltH {w : World} (h : Tabs w) : 0 < w.heap.size := h.h.lt (by decide)
theorem Tabs.but {g : Nat} {w w' : World} (h : Tabs w) (hb : But g w w') (h1 : 0 ≠ g) (h2 : 1 ≠ g) : Tabs w' := ⟨hb.tab h.h h1, hb.tab h.k h2⟩
theorem BSl.short {w : World} {v : Value} {l : List Nat} (h : BSl w v l) : l.length ≤ maxLen := by
  obtain ⟨_, _, _, h1, h2, _⟩ := h; omega
theorem BSl.bytes {w : World} {v : Value} {l : List Nat} (h : BSl w v l) : ∀ b ∈ l, b < 256 := by
  obtain ⟨_, _, _, _, _, _, h3, _⟩ := h; exact h3


/-- the result's row, filled: what the five calls that give a digest end with -/
theorem sum_shape (l : List Nat) : (Tryd.prog.info? 64).map (·.size) = some ((shaL l).map byteV).toArray.size ∧ zero32.size = ((shaL l).map byteV).toArray.size ∧ ((shaL l).map byteV).toArray.all (·.oneCell') = true := by
  have h : ((shaL l).map byteV).toArray.size = 32 := by rw [List.size_toArray, List.length_map, shaL_len]
  refine ⟨by rw [h]; exact Tryd.size32, by rw [h]; rfl, oneCell_map _⟩

set_option maxRecDepth 100000 in
set_option maxHeartbeats 4000000 in
theorem sum256_any (v : Value) (l : List Nat) (w : World) (hs : l.length < 4611686018427387904) (hT : Tabs w) (hv : BSl w v l) :
    Calls Tryd.prog 19 #[v] w fun e w' => e = .returned (.agg ((shaL l).map byteV).toArray) ∧ Below w.heap.size w w' := by
  have HB := hide hv.bytes
  have HV := hide hv
  have HT := hide hT
  have hgk := hT.ltK
  have hgh := hT.ltH
  obtain ⟨h1, h2, h3⟩ := sum_shape l
  have HSZ := hide h1
  have HZS := hide h2
  have HON := hide h3
  clear hv hT h1 h2 h3
  go_enter Tryd.func19, Tryd.ntmps19
  go_wp2_with (refine wpList_alloc_as rfl 64 rfl (.agg zero32) zero32 Tryd.zero32 rfl ?_)
  refine (new_any _ (HT.out.below (below_alloc _ _)).h).mono ?_
  rintro e w1 ⟨rfl, rfl⟩
  have HT1 := hide (HT.out.below (below_alloc2 w (.cells zero32 64) (.cells (hcells st0 (List.replicate 64 0) 0).toArray 91)))
  have HR1 := hide (new_row (w.alloc (.cells zero32 64)))
  have HP : Hid (BNe (w.heap.size + 1) ((w.alloc (.cells zero32 64)).alloc (.cells (hcells st0 (List.replicate 64 0) 0).toArray 91)) v l) := (HV.out.old (g := w.heap.size + 1) (by omega)).but (But.of (below_alloc2 w _ _))
  have HZ := hide (heap_more (.cells (hcells st0 (List.replicate 64 0) 0).toArray 91) (Go.heap_alloc_new w (.cells zero32 64)))
  have HB1 := hide (below_alloc2 w (.cells zero32 64) (.cells (hcells st0 (List.replicate 64 0) 0).toArray 91))
  have hsz : (w.alloc (.cells zero32 64)).heap.size = w.heap.size + 1 := by simp
  rw [hsz] at HR1 ⊢
  generalize (w.alloc (.cells zero32 64)).alloc (.cells (hcells st0 (List.replicate 64 0) 0).toArray 91) = W at *
  clear hsz
  go_wp2_with fail
  refine (write_any (w.heap.size + 1) v [] l W (by simp) (by simp; omega) HP.out HT1.out.k (by omega) HR1.out).mono ?_
  rintro e w2 ⟨rfl, hR, hbu⟩
  rw [List.nil_append, List.length_nil, Nat.zero_add] at hR
  have HR := hide hR
  have HT2 := hide (HT1.out.but hbu (by omega) (by omega))
  have HZ2 : Hid (w2.heap[w.heap.size]? = some (.cells zero32 64 (0, 0))) := by
    show _ = _; rw [hbu.block _ (Array.getElem?_eq_some_iff.1 HZ.out).1 (by omega)]; exact HZ.out
  have HB2 := hide (HB1.out.trans (hbu.below (by omega) HB1.out.size))
  clear hR hbu HZ HB1 HP HT1 HR1
  go_wp2_with fail
  refine (sum_any (w.heap.size + 1) l w2 HB.out hs HT2.out.k HT2.out.ltK HR.out).mono ?_
  rintro e w3 ⟨rfl, hb3⟩
  have HZ3 := hide (heap_kept hb3 HZ2.out)
  have HB3 := hide (HB2.out.trans (hb3.mono HB2.out.size))
  have HRS := hide (setRow_heap w3 w.heap.size zero32 ((shaL l).map byteV).toArray 64 (0, 0) HZ3.out)
  generalize hoa : ((shaL l).map byteV).toArray = oa at *
  have HOA := hide hoa
  clear hb3 HB2 HZ2 hoa
  go_wp2_with (refine wpList_store_row rfl 64 _ _ rfl w.heap.size oa rfl rfl 64 zero32 HZ3.out HSZ.out HZS.out HON.out ?_)
  exact bodyPost_ret (v := .agg oa) (results_cell_row rfl _ _ w.heap.size 64 oa (0, 0) _ rfl HRS.out Tryd.underlying64 rfl HSZ.out) rfl ⟨by rw [HOA.out], below_setRow HB3.out (Nat.le_refl _) _⟩

/-- the key as a whole chunk -/
def keyL (k : List Nat) : List Nat := if 64 < k.length then shaL k ++ List.replicate 32 0 else k ++ List.replicate (64 - k.length) 0
theorem keyL_len (k : List Nat) : (keyL k).length = 64 := by
  unfold keyL; split
  · rw [List.length_append, shaL_len]; simp
  · simp; omega
theorem keyL_lt {k : List Nat} (h : ∀ b ∈ k, b < 256) : ∀ b ∈ keyL k, b < 256 := by
  intro b hb
  unfold keyL at hb
  split at hb
  · rcases List.mem_append.1 hb with h1 | h1
    · exact shaL_lt _ b h1
    · have := List.eq_of_mem_replicate h1; omega
  · rcases List.mem_append.1 hb with h1 | h1
    · exact h b h1
    · have := List.eq_of_mem_replicate h1; omega


theorem splice_key {l : List Nat} (h : l.length ≤ 64) : splice ((List.replicate 64 0).map byteV) 0 (l.map byteV) = (l ++ List.replicate (64 - l.length) 0).map byteV := by
  rw [splice, List.take_zero, List.nil_append, Nat.zero_add, List.length_map, List.map_append, ← List.map_drop, List.drop_replicate]
theorem keyL_shape (l : List Nat) : (Tryd.prog.info? 89).map (·.size) = some ((keyL l).map byteV).toArray.size ∧ zeroC.size = ((keyL l).map byteV).toArray.size ∧ ((keyL l).map byteV).toArray.all (·.oneCell') = true := by
  have h : ((keyL l).map byteV).toArray.size = 64 := by rw [List.size_toArray, List.length_map, keyL_len]
  refine ⟨by rw [h]; exact Tryd.sizeC, by rw [h]; rfl, oneCell_map _⟩
theorem BSl.at {w : World} {a : Option Addr} {n cap : Nat} {l : List Nat} (h : BSl w (.slice a n cap) l) (hp : 0 < l.length) : ∃ ad, a = some ad ∧ ∀ j u, (l.map byteV)[j]? = some u → w.cell? (ad.add j) = some u := by
  have h' := h
  obtain ⟨a', cap', e, _, _, _, _, h5⟩ := h'
  simp only [Value.slice.injEq] at e
  obtain ⟨rfl, rfl, rfl⟩ := e
  obtain ⟨b, off, rfl, _⟩ := h5 hp
  exact ⟨_, rfl, h.news⟩

end Go.Proofs.YtepgiomgkgfioaaDoor
