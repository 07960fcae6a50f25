import Derived.Test.YtbkcenpohcjgnabDoorShaSum
namespace Go.Proofs.YtbkcenpohcjgnabDoor
open Go.RowKit
open Num
set_option linter.unusedVariables false
set_option linter.unusedSimpArgs false

/-- the two tables of the package -/
structure Tabs (w : World) : Prop where
  h : Tab w 0 H0
  k : Tab w 3 Ks
theorem Tabs.below {w w' : World} (h : Tabs w) (hb : Below w.heap.size w w') : Tabs w' := ⟨h.h.below hb, h.k.below hb⟩
theorem Tab.lt {w : World} {g : Nat} {l : List Nat} (h : Tab w g l) (hl : 0 < l.length) : g < w.heap.size := World.block_lt_of_cell? w ⟨g, 0, none⟩ (h 0 hl)
theorem Tabs.ltK {w : World} (h : Tabs w) : 3 < w.heap.size := h.k.lt (by decide)
theorem Tabs.ltH {w : World} (h : Tabs w) : 0 < w.heap.size := h.h.lt (by decide)
theorem Tabs.but {g : Nat} {w w' : World} (h : Tabs w) (hb : But g w w') (h1 : 0 ≠ g) (h2 : 3 ≠ g) : Tabs w' := ⟨hb.tab h.h h1, hb.tab h.k h2⟩
theorem BSl.short {w : World} {v : Value} {l : List Nat} (h : BSl w v l) : l.length ≤ maxLen := by
  obtain ⟨_, _, _, h1, h2, _⟩ := h; omega
theorem BSl.bytes {w : World} {v : Value} {l : List Nat} (h : BSl w v l) : ∀ b ∈ l, b < 256 := by
  obtain ⟨_, _, _, _, _, _, h3, _⟩ := h; exact h3


/-- the result's row, filled: what the five calls that give a digest end with -/
theorem sum_shape (l : List Nat) : (Tryd.prog.info? 29).map (·.size) = some ((shaL l).map byteV).toArray.size ∧ zero32.size = ((shaL l).map byteV).toArray.size ∧ ((shaL l).map byteV).toArray.all (·.oneCell') = true := by
  have h : ((shaL l).map byteV).toArray.size = 32 := by rw [List.size_toArray, List.length_map, shaL_len]
  refine ⟨by rw [h]; exact Tryd.size32, by rw [h]; rfl, oneCell_map _⟩

set_option maxRecDepth 100000 in
set_option maxHeartbeats 4000000 in
theorem sum256_any (v : Value) (l : List Nat) (w : World) (hs : l.length < 4611686018427387904) (hT : Tabs w) (hv : BSl w v l) :
    Calls Tryd.prog 14 #[v] w fun e w' => e = .returned (.agg ((shaL l).map byteV).toArray) ∧ Below w.heap.size w w' := by
  have HB := hide hv.bytes
  have HV := hide hv
  have HT := hide hT
  have hgk := hT.ltK
  have hgh := hT.ltH
  obtain ⟨h1, h2, h3⟩ := sum_shape l
  have HSZ := hide h1
  have HZS := hide h2
  have HON := hide h3
  clear hv hT h1 h2 h3
  go_enter Tryd.func14, Tryd.ntmps14
  go_wp2_with (refine wpList_alloc_as rfl 29 rfl (.agg zero32) zero32 Tryd.zero32 rfl ?_)
  refine (new_any _ (HT.out.below (below_alloc _ _)).h).mono ?_
  rintro e w1 ⟨rfl, rfl⟩
  have HT1 := hide (HT.out.below (below_alloc2 w (.cells zero32 29) (.cells (hcells st0 (List.replicate 64 0) 0).toArray 57)))
  have HR1 := hide (new_row (w.alloc (.cells zero32 29)))
  have HP : Hid (BNe (w.heap.size + 1) ((w.alloc (.cells zero32 29)).alloc (.cells (hcells st0 (List.replicate 64 0) 0).toArray 57)) v l) := (HV.out.old (g := w.heap.size + 1) (by omega)).but (But.of (below_alloc2 w _ _))
  have HZ := hide (heap_more (.cells (hcells st0 (List.replicate 64 0) 0).toArray 57) (Go.heap_alloc_new w (.cells zero32 29)))
  have HB1 := hide (below_alloc2 w (.cells zero32 29) (.cells (hcells st0 (List.replicate 64 0) 0).toArray 57))
  have hsz : (w.alloc (.cells zero32 29)).heap.size = w.heap.size + 1 := by simp
  rw [hsz] at HR1 ⊢
  generalize (w.alloc (.cells zero32 29)).alloc (.cells (hcells st0 (List.replicate 64 0) 0).toArray 57) = W at *
  clear hsz
  go_wp2_with fail
  refine (write_any (w.heap.size + 1) v [] l W (by simp) (by simp; omega) HP.out HT1.out.k (by omega) HR1.out).mono ?_
  rintro e w2 ⟨rfl, hR, hbu⟩
  rw [List.nil_append, List.length_nil, Nat.zero_add] at hR
  have HR := hide hR
  have HT2 := hide (HT1.out.but hbu (by omega) (by omega))
  have HZ2 : Hid (w2.heap[w.heap.size]? = some (.cells zero32 29 (0, 0))) := by
    show _ = _; rw [hbu.block _ (Array.getElem?_eq_some_iff.1 HZ.out).1 (by omega)]; exact HZ.out
  have HB2 := hide (HB1.out.trans (hbu.below (by omega) HB1.out.size))
  clear hR hbu HZ HB1 HP HT1 HR1
  go_wp2_with fail
  refine (sum_any (w.heap.size + 1) l w2 HB.out hs HT2.out.k HT2.out.ltK HR.out).mono ?_
  rintro e w3 ⟨rfl, hb3⟩
  have HZ3 := hide (heap_kept hb3 HZ2.out)
  have HB3 := hide (HB2.out.trans (hb3.mono HB2.out.size))
  have HRS := hide (setRow_heap w3 w.heap.size zero32 ((shaL l).map byteV).toArray 29 (0, 0) HZ3.out)
  generalize hoa : ((shaL l).map byteV).toArray = oa at *
  have HOA := hide hoa
  clear hb3 HB2 HZ2 hoa
  go_wp2_with (refine wpList_store_row rfl 29 _ _ rfl w.heap.size oa rfl rfl 29 zero32 HZ3.out HSZ.out HZS.out HON.out ?_)
  exact bodyPost_ret (v := .agg oa) (results_cell_row rfl _ _ w.heap.size 29 oa (0, 0) _ rfl HRS.out Tryd.underlying29 rfl HSZ.out) rfl ⟨by rw [HOA.out], below_setRow HB3.out (Nat.le_refl _) _⟩

/-- the key as a whole chunk -/
def keyL (k : List Nat) : List Nat := if 64 < k.length then shaL k ++ List.replicate 32 0 else k ++ List.replicate (64 - k.length) 0
theorem keyL_len (k : List Nat) : (keyL k).length = 64 := by
  unfold keyL; split
  · rw [List.length_append, shaL_len]; simp
  · simp; omega
theorem keyL_lt {k : List Nat} (h : ∀ b ∈ k, b < 256) : ∀ b ∈ keyL k, b < 256 := by
  intro b hb
  unfold keyL at hb
  split at hb
  · rcases List.mem_append.1 hb with h1 | h1
    · exact shaL_lt _ b h1
    · have := List.eq_of_mem_replicate h1; omega
  · rcases List.mem_append.1 hb with h1 | h1
    · exact h b h1
    · have := List.eq_of_mem_replicate h1; omega


theorem splice_key {l : List Nat} (h : l.length ≤ 64) : splice ((List.replicate 64 0).map byteV) 0 (l.map byteV) = (l ++ List.replicate (64 - l.length) 0).map byteV := by
  rw [splice, List.take_zero, List.nil_append, Nat.zero_add, List.length_map, List.map_append, ← List.map_drop, List.drop_replicate]
theorem keyL_shape (l : List Nat) : (Tryd.prog.info? 55).map (·.size) = some ((keyL l).map byteV).toArray.size ∧ zeroC.size = ((keyL l).map byteV).toArray.size ∧ ((keyL l).map byteV).toArray.all (·.oneCell') = true := by
  have h : ((keyL l).map byteV).toArray.size = 64 := by rw [List.size_toArray, List.length_map, keyL_len]
  refine ⟨by rw [h]; exact Tryd.sizeC, by rw [h]; rfl, oneCell_map _⟩
theorem BSl.at {w : World} {a : Option Addr} {n cap : Nat} {l : List Nat} (h : BSl w (.slice a n cap) l) (hp : 0 < l.length) : ∃ ad, a = some ad ∧ ∀ j u, (l.map byteV)[j]? = some u → w.cell? (ad.add j) = some u := by
  have h' := h
  obtain ⟨a', cap', e, _, _, _, _, h5⟩ := h'
  simp only [Value.slice.injEq] at e
  obtain ⟨rfl, rfl, rfl⟩ := e
  obtain ⟨b, off, rfl, _⟩ := h5 hp
  exact ⟨_, rfl, h.news⟩

set_option maxRecDepth 100000 in
set_option maxHeartbeats 4000000 in
theorem keyBlock_any (v : Value) (l : List Nat) (w : World) (hs : l.length < 4611686018427387904) (hT : Tabs w) (hv : BSl w v l) :
    Calls Tryd.prog 34 #[v] w fun e w' => e = .returned (.agg ((keyL l).map byteV).toArray) ∧ Below w.heap.size w w' := by
  have HV := hide hv
  have HT := hide hT
  obtain ⟨a, cap, rfl, hl, hmx, hn, hpb, hpc⟩ := hv
  clear hpb hpc hT
  obtain ⟨h1, h2, h3⟩ := keyL_shape l
  have HSZ := hide h1
  have HZS := hide h2
  have HON := hide h3
  clear h1 h2 h3
  have HB2 := hide (below_alloc2 w (.cells zeroC 55) (.cells zeroC 55))
  have HG1 : Hid (((w.alloc (.cells zeroC 55)).alloc (.cells zeroC 55)).heap[w.heap.size + 1]? = some (.cells ((List.replicate 64 0).map byteV).toArray 55 (0, 0))) := heap_alloc2_new w _ _
  have HG0 : Hid (((w.alloc (.cells zeroC 55)).alloc (.cells zeroC 55)).heap[w.heap.size]? = some (.cells zeroC 55 (0, 0))) := heap_more _ (Go.heap_alloc_new w _)
  by_cases hlt : 64 < l.length
  · have hltI : (64 : Int) < (l.length : Int) := by omega
    have HSUM := hide (sum256_any (.slice a l.length cap) l _ hs (HT.out.below HB2.out) (HV.out.below HB2.out))
    have HKE : Hid (splice ((List.replicate 64 0).map byteV) 0 ((shaL l).map byteV) = (keyL l).map byteV) := by show _ = _; rw [splice_key (by rw [shaL_len]; omega), shaL_len, keyL, if_pos hlt]
    obtain ⟨h1, h2, h3⟩ := sum_shape l
    have HSS := hide h1
    have HZ2 := hide h2
    have HOS := hide h3
    have HSL : Hid (((shaL l).map byteV).length = 32) := by show _ = _; rw [List.length_map, shaL_len]
    have HO1 := hide (byteV_oneCell (shaL l))
    clear h1 h2 h3
    generalize hka : (keyL l).map byteV = ka at *
    have HKA := hide hka
    generalize (shaL l).map byteV = sa at *
    clear hka
    go_enter Tryd.func34, Tryd.ntmps34
    go_wp2_with (refine wpList_alloc_as rfl 55 rfl (.agg zeroC) zeroC Tryd.zeroC rfl ?_)
    refine HSUM.out.mono ?_
    rintro e w3 ⟨rfl, hb3⟩
    have HB3 := hide (HB2.out.trans (hb3.mono HB2.out.size))
    have HB4 := hide (HB3.out.alloc HB3.out.size (.cells sa.toArray 29))
    have HC0 := hide (heap_more (.cells sa.toArray 29) (heap_kept hb3 HG0.out))
    have HC1 := hide (heap_more (.cells sa.toArray 29) (heap_kept hb3 HG1.out))
    have HC2 := hide (Go.heap_alloc_new w3 (.cells sa.toArray 29))
    have HSRC : Hid (∀ j u, sa[j]? = some u → (w3.alloc (.cells sa.toArray 29)).cell? ((⟨w3.heap.size, 0, none⟩ : Addr).add j) = some u) := by
      intro j u hu; rw [Addr.add_lit, cell_of_row _ _ _ _ _ _ HC2.out, Nat.zero_add, List.getElem?_toArray]; exact hu
    have HB4D : Hid (Below w.heap.size w (w3.alloc (.cells sa.toArray 29)).drew) := ⟨HB4.out.os, HB4.out.tape, HB4.out.output, HB4.out.size, HB4.out.block⟩
    have hlt3 : w.heap.size + 1 < w3.heap.size := Nat.lt_of_lt_of_le (Array.getElem?_eq_some_iff.1 HG1.out).1 hb3.size
    clear hb3 HSUM HV HT HG0 HG1
    go_wp2_with (first
      | refine wpList_alloc_as rfl 29 rfl (.agg zero32) zero32 Tryd.zero32 rfl ?_
      | (refine wpList_store_row rfl 29 _ _ rfl w3.heap.size sa.toArray (by first | rfl | simp [Act.eval, Act.put]) (by first | rfl | simp [Act.eval, Act.put]) 29 zero32 (Go.heap_alloc_new w3 _) HSS.out HZ2.out HOS.out ?_; rw [World.setRow_alloc_new]))
    go_region_law (refine step_copy_splice rfl (.tmp 10) (.tmp 11) 22 22 rfl 5 Tryd.underlying22 (by kernel_rfl) (some ⟨w.heap.size + 1, 0, none⟩) (some ⟨w3.heap.size, 0, none⟩) 64 64 32 32 rfl rfl (w.heap.size + 1) 0 ((List.replicate 64 0).map byteV) 55 HC1.out sa (by rw [HSL.out]; rfl) (fun _ => ⟨rfl, _, rfl, HSRC.out⟩) (by rw [HSL.out]; decide) HO1.out (w.heap.size + 1) _ (Below.refl _ _) (Nat.le_refl _) ?_; intro w5 HG5 HB5)
    have hg5 := HG5.out
    rw [HKE.out] at hg5
    have HR5 := hide hg5
    have HS5 : Hid (w5.heap[w.heap.size]? = some (.cells zeroC 55 (0, 0))) := by show _ = _; rw [HB5.block _ (by omega)]; exact HC0.out
    have HX5 : Hid (Below w.heap.size w w5) := HB4D.out.trans (HB5.mono (by omega))
    have HRS := hide (setRow_heap w5 w.heap.size zeroC ka.toArray 55 (0, 0) HS5.out)
    clear hg5 HG5 HB5 HC0 HC1 HC2 HSRC HB4 HB4D HB3 HB2
    go_wp2_with (first
      | refine wpList_load_row rfl 55 _ rfl (w.heap.size + 1) rfl 55 ka.toArray (0, 0) _ HR5.out Tryd.underlying55 rfl HSZ.out ?_
      | refine wpList_store_row rfl 55 _ _ rfl w.heap.size ka.toArray rfl rfl 55 zeroC HS5.out HSZ.out HZS.out HON.out ?_)
    exact bodyPost_ret (v := .agg ka.toArray) (results_cell_row rfl _ _ w.heap.size 55 ka.toArray (0, 0) _ rfl HRS.out Tryd.underlying55 rfl HSZ.out) rfl ⟨rfl, below_setRow HX5.out (Nat.le_refl _) _⟩
  · have hltI : ¬ (64 : Int) < (l.length : Int) := by omega
    have hle : l.length ≤ 64 := by omega
    have HKE : Hid (splice ((List.replicate 64 0).map byteV) 0 (l.map byteV) = (keyL l).map byteV) := by show _ = _; rw [splice_key hle, keyL, if_neg hlt]
    have HPOS : Hid (0 < (l.map byteV).length → some (⟨w.heap.size + 1, 0, none⟩ : Addr) = some ⟨w.heap.size + 1, 0, none⟩ ∧ ∃ ad, a = some ad ∧ ∀ j u, (l.map byteV)[j]? = some u → ((w.alloc (.cells zeroC 55)).alloc (.cells zeroC 55)).cell? (ad.add j) = some u) := fun hp => ⟨rfl, (HV.out.below HB2.out).at (by simpa using hp)⟩
    have HN : Hid ((l.map byteV).length = Nat.min l.length 64) := by show _ = _; rw [List.length_map]; exact (Nat.min_eq_left hle).symm
    have HFI : Hid (0 + (l.map byteV).length ≤ ((List.replicate 64 0).map byteV).length) := by show _ ≤ _; simpa using hle
    have HO1 := hide (byteV_oneCell l)
    generalize hka : (keyL l).map byteV = ka at *
    have HKA := hide hka
    generalize l.map byteV = la at *
    clear hka
    go_enter Tryd.func34, Tryd.ntmps34
    go_wp2_with (first
      | refine wpList_alloc_as rfl 55 rfl (.agg zeroC) zeroC Tryd.zeroC rfl ?_
      | (refine wpList_copy_splice rfl (.tmp 13) (.tmp 14) 22 22 rfl 5 Tryd.underlying22 (by kernel_rfl) (some ⟨w.heap.size + 1, 0, none⟩) a 64 64 l.length cap rfl rfl (w.heap.size + 1) 0 ((List.replicate 64 0).map byteV) 55 HG1.out la HN.out HPOS.out HFI.out HO1.out (w.heap.size + 1) _ (Below.refl _ _) (Nat.le_refl _) ?_; intro w5 HG5 HB5
         have HR5 : Hid (w5.heap[w.heap.size + 1]? = some (.cells ka.toArray 55 (0, 0))) := by show _ = _; rw [← HKE.out]; exact HG5.out
         have HS5 : Hid (w5.heap[w.heap.size]? = some (.cells zeroC 55 (0, 0))) := by show _ = _; rw [HB5.block _ (by omega)]; exact HG0.out
         have HX5 : Hid (Below w.heap.size w w5) := HB2.out.trans (HB5.mono (by omega))
         clear HG5 HB5)
      | refine wpList_load_row rfl 55 _ rfl (w.heap.size + 1) rfl 55 ka.toArray (0, 0) _ HR5.out Tryd.underlying55 rfl HSZ.out ?_
      | refine wpList_store_row rfl 55 _ _ rfl w.heap.size ka.toArray rfl rfl 55 zeroC HS5.out HSZ.out HZS.out HON.out ?_)
    exact bodyPost_ret (v := .agg ka.toArray) (results_cell_row rfl _ _ w.heap.size 55 ka.toArray (0, 0) _ rfl (setRow_heap w5 w.heap.size zeroC ka.toArray 55 (0, 0) HS5.out) Tryd.underlying55 rfl HSZ.out) rfl ⟨rfl, below_setRow HX5.out (Nat.le_refl _) _⟩
end Go.Proofs.YtbkcenpohcjgnabDoor
