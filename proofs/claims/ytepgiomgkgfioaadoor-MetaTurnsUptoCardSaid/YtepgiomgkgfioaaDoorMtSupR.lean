import Derived.Test.YtepgiomgkgfioaaDoorMtFld3
import Derived.Test.YtepgiomgkgfioaaDoorMtZer
import Derived.Stop.BytesEq
import Derived.Deep.RegionHeld3
import Derived.Deep.RegionWith
import Derived.Deep.MidRow
import Derived.Laws.Cover3
namespace Go.Proofs.YtepgiomgkgfioaaDoor
open Go.RowKit Go.Lib
set_option linter.unusedVariables false
set_option linter.unusedSimpArgs false
set_option maxRecDepth 20000

theorem zero_super : (Tryd.prog.info? 27).map (·.zero) = some (some (.agg zSup)) := by kernel_rfl
theorem size_u8 : ∀ w, (sizeOf 5).run Tryd.prog w = .ok 1 w := fun w => by
  obtain ⟨i0, hi, hz0, hz1, hz2⟩ := info_parts Tryd.info5
  simp [sizeOf, typeInfo, hi, hz1]
theorem map_cell {l : List Nat} (h : ∀ x ∈ l, x < 256) : l.map byteV = (l.map UInt8.ofNat).map Extern.Stop.cell := by
  rw [List.map_map]
  refine List.map_congr_left fun x hx => ?_
  have := h x hx
  simp only [byteV, Function.comp, Extern.Stop.cell]
  congr 1
  simp [UInt8.toNat_ofNat']
  omega
theorem ofNat_inj {xs ys : List Nat} (hx : ∀ x ∈ xs, x < 256) (hy : ∀ x ∈ ys, x < 256) : (xs.map UInt8.ofNat == ys.map UInt8.ofNat) = decide (xs = ys) := by
  by_cases h : xs = ys
  · subst h; simp
  · rw [decide_eq_false h, beq_eq_false_iff_ne]
    intro e
    apply h
    have e2 : (xs.map UInt8.ofNat).map UInt8.toNat = (ys.map UInt8.ofNat).map UInt8.toNat := by rw [e]
    rw [List.map_map, List.map_map] at e2
    have k : ∀ zs : List Nat, (∀ x ∈ zs, x < 256) → zs.map (UInt8.toNat ∘ UInt8.ofNat) = zs := fun zs hz => by
      conv => rhs; rw [← List.map_id zs]
      exact List.map_congr_left fun x hx => by simp [UInt8.toNat_ofNat']; have := hz x hx; omega
    rwa [k xs hx, k ys hy] at e2
theorem eql_sum {xs ys : List Nat} (hx : ∀ x ∈ xs, x < 256) (hy : ∀ x ∈ ys, x < 256) (h1 : xs.length = 32) (h2 : ys.length = 32) (w : World) :
    (binOp .eql 64 (.agg (xs.map byteV).toArray) (.agg (ys.map byteV).toArray)).run Tryd.prog w = .ok (.bool (decide (xs = ys))) w := by
  rw [map_cell hx, map_cell hy, run_eql_bytes w 64 5 32 Tryd.underlying64 Tryd.underlying5 size_u8 _ _ (by simpa using h1) (by simpa using h2), ofNat_inj hx hy]
def body (l : List Nat) (m : Nat) : Sup := decF ((l.take m).drop 8)
/-- what Unseal says to m + 32 bytes -/
def chk (l : List Nat) (m : Nat) : Int := if l.take 8 ≠ lets then 51 else if shaL (l.take m) ≠ l.drop m then 52 else if (body l m).ok = false then 53 else if (body l m).size ≠ ((m + 32 : Nat) : Int) then 53 else if ¬ (∀ x ∈ (l.take m).drop 68, x = 0) then 53 else 0
def ReadPost (w : World) (l : List Nat) (m : Nat) (e : Ending) (w' : World) : Prop := Below w.heap.size w w' ∧ ((chk l m = 0 ∧ e = .returned (body l m).val) ∨ (chk l m ≠ 0 ∧ e = .panicked (fault (chk l m))))
theorem ReadPost.bad {w w' : World} {l : List Nat} {m : Nat} {n : Int} (hb : Below w.heap.size w w') (h : chk l m = n) (hn : n ≠ 0) : ReadPost w l m (.panicked (fault n)) w' := ⟨hb, .inr ⟨by rw [h]; exact hn, by rw [h]⟩⟩
structure RR (w wr : World) (b off cap : Nat) (l : List Nat) : Prop where
  cur : Cur wr (w.heap.size + 1) b off cap l
  rs : wr.heap[w.heap.size]? = some (.cells zSup 27 (0, 0))
  bel : Below w.heap.size w wr
  lb : b < w.heap.size
theorem RR.size {w wr : World} {b off cap : Nat} {l : List Nat} (h : RR w wr b off cap l) : w.heap.size + 1 < wr.heap.size := h.cur.lt
theorem RR.call {w wr w2 : World} {b off cap off2 cap2 : Nat} {l l2 : List Nat} (h : RR w wr b off cap l) (hb : But (w.heap.size + 1) wr w2) (hc : Cur w2 (w.heap.size + 1) b off2 cap2 l2) : RR w w2 b off2 cap2 l2 := by
  have hs := h.size
  exact ⟨hc, (hb.block _ (by omega) (by omega)).trans h.rs, h.bel.trans (hb.below (by omega) (by omega)), h.lb⟩
theorem RR.below {w wr w2 : World} {b off cap : Nat} {l : List Nat} (h : RR w wr b off cap l) (hb : Below wr.heap.size wr w2) : RR w w2 b off cap l := h.call (But.of hb) (h.cur.below hb)
set_option maxHeartbeats 2000000 in
theorem read_any (w : World) (b off m cap : Nat) (l : List Nat) (hv : BSl w (.slice (some ⟨b, off, none⟩) (m + 32) cap) l) (hl : l.length = m + 32) (hd : ∀ i, i < l.length → w.cell? ⟨b, off + i, none⟩ = some (.int .u8 (l.getD i 0 : Nat))) (hm : 96 ≤ m) (hm2 : m ≤ 992) (hT : Tabs w) :
    Calls Tryd.prog 37 #[.slice (some ⟨b, off, none⟩) (m + 32) cap] w fun e w' => ReadPost w l m e w' := by
  obtain ⟨hc1, hc2, hby⟩ : m + 32 ≤ cap ∧ cap ≤ maxLen ∧ ∀ x ∈ l, x < 256 := by
    obtain ⟨a, c, e, h1, h2, _, h3, _⟩ := hv
    rw [hl] at e h1
    cases e
    exact ⟨by omega, h2, h3⟩
  unfold maxLen at hc2
  have hlb : b < w.heap.size := World.block_lt_of_cell? w _ (hd 0 (by omega))
  have HR0 : Hid (∀ w1, Below w.heap.size w w1 → w1.heap.size = w.heap.size + 1 → w1.heap[w.heap.size]? = some (.cells zSup 27 (0, 0)) → RR w (w1.alloc (.cells #[.slice (some ⟨b, off, none⟩) m cap] 99)) b off cap (l.take m)) := hide fun w1 hb hs hr => by
    have hlm : (l.take m).length = m := by simp; omega
    refine ⟨Cur.mk' ?_ (by omega) (by unfold maxLen; omega) (fun x hx => hby x (List.mem_of_mem_take hx)) (fun i hi => ?_) (by omega), ?_, hb.alloc (by omega) _, hlb⟩
    · rw [← hs, hlm]; exact Go.heap_alloc_new _ _
    · rw [(hb.alloc (by omega) _).cell (p := ⟨b, off + i, none⟩) hlb, hd i (by omega)]
      rw [hlm] at hi
      simp [List.getD, hi]
    · rw [Below.heap_alloc _ _ _ (by omega)]; exact hr
  have HBY := hide hby
  have HD := hide hd
  have HV := hide hv
  have HT := hide hT
  clear hd hv hT hby
  have h1 : m ≤ cap := by omega
  have h2 : ¬ cap = m := by omega
  have h3 : m ≤ m + 32 := by omega
  go_enter Tryd.func37, Tryd.ntmps37
  go_wp2_with fail
  go_region
  have HR1 := hide (HR0.out (w.alloc (.cells zSup 27)).drew (below_alloc w _).drew (by show (w.alloc _).heap.size = _; simp) (Go.heap_alloc_new _ _))
  unfold zSup at HR1
  go_wp2_with fail
  have hlm : (l.take m).length = m := by simp; omega
  have hT8 : (l.take m).take 8 = l.take 8 := by rw [List.take_take, Nat.min_eq_left (by omega)]
  have hws : (w.alloc (.cells zSup 27)).heap.size = w.heap.size + 1 := by simp
  unfold zSup at hws
  by_cases hmag : l.take 8 = lets
  case neg =>
    refine (letters_no _ (w.heap.size + 1) b off cap (l.take m) HR1.out.cur (by omega) (by rw [hT8]; exact hmag)).mono ?_
    rintro e w2 ⟨rfl, hc, hb⟩
    have HR2 := hide (HR1.out.call hb hc)
    clear hc hb
    unfold fault
    go_wp2_with fail
    exact ⟨rfl, ReadPost.bad HR2.out.bel (by rw [chk, if_pos hmag]) (by decide)⟩
  refine (letters_yes _ (w.heap.size + 1) b off cap (l.take m) HR1.out.cur (by omega) (by rw [hT8]; exact hmag)).mono ?_
  rintro e w2 ⟨rfl, hc, hb⟩
  have HR2 := hide (HR1.out.call hb hc)
  clear hc hb HR1 HR0
  go_wp2_with fail
  have HBl : Hid (∀ wx, Below w.heap.size w wx → BSl wx (.slice (some ⟨b, off, none⟩) m cap) (l.take m)) := hide fun wx hb => by
    refine ⟨_, cap, by rw [hlm], by rw [hlm]; exact h1, by unfold maxLen; omega, by simp, fun x hx => HBY.out x (List.mem_of_mem_take hx), fun _ => ⟨b, off, rfl, fun i hi => ?_⟩⟩
    rw [hlm] at hi
    rw [hb.cell (p := ⟨b, off + i, none⟩) hlb, HD.out i (by omega)]
    simp [List.getD, hi]
  have HRG : Hid (∀ wx, Below w.heap.size w wx → wx.rangeAt b (off + m) ((l.drop m).map byteV)) := hide fun wx hb => by
    intro j v hv
    have hj : j < (l.drop m).length := by simpa using (List.getElem?_eq_some_iff.1 hv).1
    rw [hb.cell (p := ⟨b, off + m + j, none⟩) hlb, show off + m + j = off + (m + j) by omega, HD.out (m + j) (by simp at hj; omega)]
    rw [← hv, map_byteV_getD hj]
    simp [List.getD]
  have HS1 := hide (fun wx (hb : Below w2.heap.size w2 wx) => HR2.out.bel.trans (hb.mono HR2.out.bel.size))
  have HSUM : Hid (∀ wx, Below w2.heap.size w2 wx → Calls Tryd.prog 19 #[.slice (some ⟨b, off, none⟩) m cap] wx fun e w' => e = .returned (.agg ((shaL (l.take m)).map byteV).toArray) ∧ w'.rangeAt b (off + m) ((l.drop m).map byteV) ∧ Below w2.heap.size w2 w') := hide fun wx hb =>
    (sum256_any _ (l.take m) wx (by omega) (HT.out.below (HS1.out _ hb)) (HBl.out _ (HS1.out _ hb))).mono (by
      rintro e w' ⟨rfl, hb'⟩
      have hbb := hb.trans (hb'.mono hb.size)
      exact ⟨rfl, HRG.out _ (HS1.out _ hbb), hbb⟩)
  have hu := Tryd.underlying64
  have hld : (l.drop m).length = 32 := by simp; omega
  have hi : (Tryd.prog.info? 64).map (·.size) = some ((l.drop m).map byteV).length := by rw [List.length_map, hld]; exact Tryd.size32
  have hb0 : Below w2.heap.size w2 w2.drew := (Below.refl _ _).drew
  have hr0' := HRG.out _ (HS1.out _ hb0)
  have HEQ := hide (fun w => eql_sum (shaL_lt (l.take m)) (fun x hx => HBY.out x (List.mem_of_mem_drop hx)) (shaL_len (l.take m)) hld w)
  have har : ∀ w, (Instr.arrayAt 64 (.slice (some ⟨b, off + m, none⟩) 32 (cap - m))).run Tryd.prog w = .ok (.pointer (some ⟨b, off + m, none⟩)) w := fun w => run_arrayAt w 64 5 32 _ 32 _ Tryd.underlying64 (Nat.le_refl _)
  by_cases hseal : shaL (l.take m) = l.drop m
  case neg =>
    rw [decide_eq_false hseal] at HEQ
    have heq := HEQ.out
    have HBAD : Hid (∀ w3, Below w2.heap.size w2 w3 → ReadPost w l m (.panicked (fault 52)) w3) := hide fun w3 hb => ReadPost.bad (HS1.out _ hb) (by rw [chk, if_neg (by simpa using hmag), if_pos hseal]) (by decide)
    generalize ((shaL (l.take m)).map byteV).toArray = A at *
    generalize (l.drop m).map byteV = C at *
    refine wp_region_held_drew (S := fun w' => w'.rangeAt b (off + m) C ∧ Below w2.heap.size w2 w') (by kernel_rfl) ⟨hr0', hb0⟩ (fun hHeld => ?_)
    refine wpAnyH_take (i := 0) (v := ?v1) rfl (by kernel_rfl) (by kernel_rfl) (by kernel_rfl) (fun _ _ _ h => h) (Or.inl ⟨by rfl, ?h1⟩) hHeld ?r1
    case h1 => intro w' hSw; go_simp; (try with_reducible rfl)
    (try simp only [Act.put, List.setIfInBounds_toArray, List.set_cons_zero, List.set_cons_succ])
    refine wpAnyH_take (i := 2) (v := ?v2) rfl (by kernel_rfl) (by kernel_rfl) (by kernel_rfl) (fun _ _ _ h => h) (Or.inl ⟨by rfl, ?h2⟩) hHeld ?r2
    case h2 => intro w' hSw; go_simp; (try with_reducible rfl)
    (try simp only [Act.put, List.setIfInBounds_toArray, List.set_cons_zero, List.set_cons_succ])
    refine wpAnyH_take (i := 3) (v := ?v3) rfl (by kernel_rfl) (by kernel_rfl) (by kernel_rfl) (fun _ _ _ h => h) (Or.inl ⟨by rfl, ?h3⟩) hHeld ?r3
    case h3 => intro w' hSw; go_simp; (try with_reducible rfl)
    (try simp only [Act.put, List.setIfInBounds_toArray, List.set_cons_zero, List.set_cons_succ])
    refine wpAnyH_take (i := 4) (v := .agg C.toArray) rfl (by kernel_rfl) (by kernel_rfl) (by kernel_rfl) (fun _ _ _ h => h) (yieldsIf_load_mid (by rfl) 64 (.tmp 24) rfl b (off + m) rfl C _ (fun w' h => h.1) hu rfl hi) hHeld ?_
    (try simp only [Act.put, List.setIfInBounds_toArray, List.set_cons_zero, List.set_cons_succ])
    refine wpAnyH_ready (rs := [1]) (by kernel_rfl) (by simp) ?_
    refine AllReadyH.cons rfl (fun K hK => ?_) AllReadyH.nil
    go_simp
    refine (HSUM.out _ hHeld.2).mono ?_
    rintro e w3 ⟨rfl, hr1, hb1⟩
    refine hK.out _ _ ⟨hr1, hb1⟩ (fun hHeld => ?_)
    clear hK K
    (try simp only [Act.put, List.setIfInBounds_toArray, List.set_cons_zero, List.set_cons_succ])
    refine wpAnyH_take (i := 5) (v := ?v4) rfl (by kernel_rfl) (by kernel_rfl) (by kernel_rfl) (fun _ _ _ h => h) (Or.inl ⟨by rfl, ?h4⟩) hHeld ?r4
    case h4 => intro w' hSw; go_simp; (try with_reducible rfl)
    (try simp only [Act.put, List.setIfInBounds_toArray, List.set_cons_zero, List.set_cons_succ])
    refine wpAnyH_ready (rs := [6]) (by kernel_rfl) (by simp) ?_
    refine AllReadyH.cons rfl (fun K hK => ?_) AllReadyH.nil
    go_simp
    refine (demand_no _ _).mono ?_
    rintro e w4 ⟨rfl, rfl⟩
    exact ⟨rfl, HBAD.out _ hHeld.2⟩
  rw [decide_eq_true hseal] at HEQ
  have heq := HEQ.out
  have HW : Hid (∀ w', Below w2.heap.size w2 w' → RR w w' b (off + 8) (cap - 8) ((l.take m).drop 8)) := hide fun w' hb => HR2.out.below hb
  generalize ((shaL (l.take m)).map byteV).toArray = A at *
  generalize (l.drop m).map byteV = C at *
  refine wp_region_held_drew (S := fun w' => w'.rangeAt b (off + m) C ∧ Below w2.heap.size w2 w') (by kernel_rfl) ⟨hr0', hb0⟩ (fun hHeld => ?_)
  refine wpAnyH_take (i := 0) (v := ?v5) rfl (by kernel_rfl) (by kernel_rfl) (by kernel_rfl) (fun _ _ _ h => h) (Or.inl ⟨by rfl, ?h5⟩) hHeld ?r5
  case h5 => intro w' hSw; go_simp; (try with_reducible rfl)
  (try simp only [Act.put, List.setIfInBounds_toArray, List.set_cons_zero, List.set_cons_succ])
  refine wpAnyH_take (i := 2) (v := ?v6) rfl (by kernel_rfl) (by kernel_rfl) (by kernel_rfl) (fun _ _ _ h => h) (Or.inl ⟨by rfl, ?h6⟩) hHeld ?r6
  case h6 => intro w' hSw; go_simp; (try with_reducible rfl)
  (try simp only [Act.put, List.setIfInBounds_toArray, List.set_cons_zero, List.set_cons_succ])
  refine wpAnyH_take (i := 3) (v := ?v7) rfl (by kernel_rfl) (by kernel_rfl) (by kernel_rfl) (fun _ _ _ h => h) (Or.inl ⟨by rfl, ?h7⟩) hHeld ?r7
  case h7 => intro w' hSw; go_simp; (try with_reducible rfl)
  (try simp only [Act.put, List.setIfInBounds_toArray, List.set_cons_zero, List.set_cons_succ])
  refine wpAnyH_take (i := 4) (v := .agg C.toArray) rfl (by kernel_rfl) (by kernel_rfl) (by kernel_rfl) (fun _ _ _ h => h) (yieldsIf_load_mid (by rfl) 64 (.tmp 24) rfl b (off + m) rfl C _ (fun w' h => h.1) hu rfl hi) hHeld ?_
  (try simp only [Act.put, List.setIfInBounds_toArray, List.set_cons_zero, List.set_cons_succ])
  refine wpAnyH_ready (rs := [1]) (by kernel_rfl) (by simp) ?_
  refine AllReadyH.cons rfl (fun K hK => ?_) AllReadyH.nil
  go_simp
  refine (HSUM.out _ hHeld.2).mono ?_
  rintro e w3 ⟨rfl, hr1, hb1⟩
  refine hK.out _ _ ⟨hr1, hb1⟩ (fun hHeld => ?_)
  clear hK K
  (try simp only [Act.put, List.setIfInBounds_toArray, List.set_cons_zero, List.set_cons_succ])
  refine wpAnyH_take (i := 5) (v := ?v8) rfl (by kernel_rfl) (by kernel_rfl) (by kernel_rfl) (fun _ _ _ h => h) (Or.inl ⟨by rfl, ?h8⟩) hHeld ?r8
  case h8 => intro w' hSw; go_simp; (try with_reducible rfl)
  (try simp only [Act.put, List.setIfInBounds_toArray, List.set_cons_zero, List.set_cons_succ])
  refine wpAnyH_ready (rs := [6]) (by kernel_rfl) (by simp) ?_
  refine AllReadyH.cons rfl (fun K hK => ?_) AllReadyH.nil
  go_simp
  refine (demand_yes _ _).mono ?_
  rintro e w4 ⟨rfl, rfl⟩
  refine hK.out _ _ hHeld (fun hHeld => ?_)
  clear hK K
  (try simp only [Act.put, List.setIfInBounds_toArray, List.set_cons_zero, List.set_cons_succ])
  refine wpAnyH_done (by kernel_rfl) ?_ _
  have HR3 := hide (HW.out _ hHeld.2)
  clear hHeld hr1 hb1
  go_wp2_with fail
  have hl8 : ((l.take m).drop 8).length = m - 8 := by simp; omega
  have hCH : chk l m = if (body l m).ok = false then 53 else if (body l m).size ≠ ((m + 32 : Nat) : Int) then 53 else if ¬ (∀ x ∈ (l.take m).drop 68, x = 0) then 53 else 0 := by
    rw [chk, if_neg (by simpa using hmag), if_neg (by simpa using hseal)]
  have HCH := hide hCH
  clear hCH
  cases hok : (body l m).ok with
  | false =>
    refine (fields_no _ (w.heap.size + 1) b _ _ ((l.take m).drop 8) HR3.out.cur (by omega) hok).mono ?_
    rintro e w5 ⟨rfl, hc, hb⟩
    have HR5 := hide (HR3.out.call hb hc)
    clear hc hb
    unfold fault
    go_wp2_with fail
    exact ⟨rfl, ReadPost.bad HR5.out.bel (by rw [HCH.out, if_pos hok]) (by decide)⟩
  | true =>
    refine (fields_yes _ (w.heap.size + 1) b _ _ ((l.take m).drop 8) HR3.out.cur (by omega) hok).mono ?_
    rintro e w5 ⟨rfl, hc, hb⟩
    rw [List.drop_drop, show 8 + 60 = 68 from rfl] at hc
    have HR5 := hide (HR3.out.call hb hc)
    have hs5 := HR5.out.size
    have HB6 := hide ((Below.refl w5.heap.size w5).alloc (Nat.le_refl _) (.cells (body l m).row 27))
    have HR6 := hide (HR5.out.below HB6.out)
    have c2 : (w5.alloc (.cells (body l m).row 27)).cell? ⟨w5.heap.size, 2, none⟩ = some (.int .i64 (body l m).size) := cell_of_row _ _ _ _ _ _ (Go.heap_alloc_new _ _)
    have HN6 := hide (Go.heap_alloc_new w5 (.cells (body l m).row 27))
    have HSZ : Hid ((Tryd.prog.info? 27).map (·.size) = some (body l m).row.size) := hide (by kernel_rfl)
    have HON : Hid ((body l m).row.all (·.oneCell') = true) := hide (by simp [body, decF, Sup.row, Value.oneCell'])
    clear hc hb
    have e5 : (decF ((l.take m).drop 8)).val = .agg (body l m).row := rfl
    rw [e5]
    generalize hrow : (body l m).row = RW at *
    by_cases hsz : (body l m).size = ((m + 32 : Nat) : Int)
    case neg =>
      have hne : ((body l m).size == (m : Int) + 32) = false := by rw [beq_eq_false_iff_ne]; omega
      generalize (body l m).size = z at *
      go_wp2_with (first
        | refine wpList_alloc_as rfl 27 rfl (.agg zSup) zSup zero_super rfl ?_
        | (refine wpList_store_row rfl 27 _ _ rfl w5.heap.size RW (by first | rfl | simp [Act.eval, Act.put]) (by first | rfl | simp [Act.eval, Act.put]) 27 zSup (Go.heap_alloc_new w5 _) HSZ.out (by rw [← hrow]; rfl) HON.out ?_; rw [World.setRow_alloc_new])
        | (go_at_call 43; (try rw [hne]); refine (demand_no _ _).mono ?_; unfold fault; rintro e w7 ⟨rfl, rfl⟩))
      exact ⟨rfl, ReadPost.bad HR6.out.bel (by rw [HCH.out, if_neg (by simp [hok]), if_pos hsz]) (by decide)⟩
    have heq2 : ((body l m).size == (m : Int) + 32) = true := by rw [beq_iff_eq, hsz]; push_cast; rfl
    generalize hzz : (body l m).size = z at *
    by_cases hz : ∀ x ∈ (l.take m).drop 68, x = 0
    case neg =>
      go_wp2_with (first
        | refine wpList_alloc_as rfl 27 rfl (.agg zSup) zSup zero_super rfl ?_
        | (refine wpList_store_row rfl 27 _ _ rfl w5.heap.size RW (by first | rfl | simp [Act.eval, Act.put]) (by first | rfl | simp [Act.eval, Act.put]) 27 zSup (Go.heap_alloc_new w5 _) HSZ.out (by rw [← hrow]; rfl) HON.out ?_; rw [World.setRow_alloc_new])
        | (go_at_call 43; (try rw [heq2]); refine (demand_yes _ _).mono ?_; rintro e w7 ⟨rfl, rfl⟩)
        | (go_at_call 45; refine (zeroes_no _ (w.heap.size + 1) b _ _ _ HR6.out.cur hz).mono ?_; unfold fault; rintro e w8 ⟨rfl, rfl⟩))
      exact ⟨rfl, ReadPost.bad HR6.out.bel (by rw [HCH.out, if_neg (by simp [hok]), if_neg (by simpa using hsz), if_pos hz]) (by decide)⟩
    go_wp2_with (first
      | refine wpList_alloc_as rfl 27 rfl (.agg zSup) zSup zero_super rfl ?_
      | (refine wpList_store_row rfl 27 _ _ rfl w5.heap.size RW (by first | rfl | simp [Act.eval, Act.put]) (by first | rfl | simp [Act.eval, Act.put]) 27 zSup (Go.heap_alloc_new w5 _) HSZ.out (by rw [← hrow]; rfl) HON.out ?_; rw [World.setRow_alloc_new])
      | (go_at_call 43; (try rw [heq2]); refine (demand_yes _ _).mono ?_; rintro e w7 ⟨rfl, rfl⟩)
      | (go_at_call 45; refine (zeroes_yes _ (w.heap.size + 1) b _ _ _ HR6.out.cur hz).mono ?_; rintro e w8 ⟨rfl, rfl⟩)
      | (refine wpList_load_row rfl 27 (.tmp 6) rfl w5.heap.size rfl 27 RW (0, 0) _ HN6.out Tryd.underlying27 rfl HSZ.out ?_)
      | (refine wpList_store_row rfl 27 _ _ rfl w.heap.size RW (by first | rfl | simp [Act.eval, Act.put]) (by first | rfl | simp [Act.eval, Act.put]) 27 zSup HR6.out.rs HSZ.out (by rw [← hrow]; rfl) HON.out ?_))
    refine bodyPost_ret (results_cell_row rfl _ _ w.heap.size 27 RW (0, 0) _ rfl (setRow_heap _ w.heap.size zSup RW 27 (0, 0) HR6.out.rs) Tryd.underlying27 rfl HSZ.out) rfl ⟨?_, .inl ⟨by rw [HCH.out, if_neg (by simp [hok]), if_neg (by simpa using hsz), if_neg (by simpa using hz)], by rw [Sup.val, hrow]⟩⟩
    exact HR6.out.bel.trans ⟨rfl, rfl, rfl, by simp, fun k hk => setRow_other _ _ _ _ (by omega)⟩
end Go.Proofs.YtepgiomgkgfioaaDoor
