import Derived.Test.YtedhohamdbplhaaDoorWFld
import Derived.Deep.WholeRow
namespace Go.Proofs.YtedhohamdbplhaaDoor
open Go.RowKit
set_option linter.unusedVariables false
set_option linter.unusedSimpArgs false
set_option maxRecDepth 20000

/-- while fields are blanked -/
structure FI (w x : World) (pb rb : Nat) (p q : PV) (v v' : Value) : Prop where
  pm : PM x pb p v
  pr : PM x rb q v'
  tab : BTab x
  bel : Below w.heap.size w x
  vv : v' = v ∨ v' = .slice none 0 0
theorem FI.below {w x y : World} {pb rb : Nat} {p q : PV} {v v' : Value} (h : FI w x pb rb p q v v') (hb : Below x.heap.size x y) : FI w y pb rb p q v v' :=
  ⟨h.pm.below hb, h.pr.below hb, h.tab.below hb, h.bel.trans (hb.mono h.bel.size), h.vv⟩
theorem FI.next {w x y : World} {pb rb : Nat} {p q q' : PV} {v v' v2 : Value} (h : FI w x pb rb p q v v') (hr : w.heap.size ≤ rb) (hp : pb ≠ rb) (hv : v.ownBlock ≠ some rb) (hg : 0 ≠ rb) (h2 : PM y rb q' v2) (ho : Oth rb x y) (hvv : v2 = v' ∨ v2 = .slice none 0 0) : FI w y pb rb p q' v v2 :=
  ⟨h.pm.oth ho hp hv, h2, h.tab.oth ho hg, ⟨ho.os.trans h.bel.os, ho.tape.trans h.bel.tape, ho.output.trans h.bel.output, Nat.le_trans h.bel.size ho.size, fun j hj => (ho.block j (Nat.lt_of_lt_of_le hj h.bel.size) (by omega)).trans (h.bel.block j hj)⟩, by rcases hvv with rfl | rfl; exact h.vv; exact .inr rfl⟩
theorem meth_number_fits (x : Value) (w : World) : (method 267 92 x "replica/wire.fits").run Tryd.prog w = .ok (98, x) w := by kernel_rfl
theorem meth_number_blank (x : Value) (w : World) : (method 267 92 x "replica/wire.blank").run Tryd.prog w = .ok (97, x) w := by kernel_rfl
theorem meth_idents_fits (x : Value) (w : World) : (method 267 98 x "replica/wire.fits").run Tryd.prog w = .ok (104, x) w := by kernel_rfl
theorem meth_idents_blank (x : Value) (w : World) : (method 267 98 x "replica/wire.blank").run Tryd.prog w = .ok (103, x) w := by kernel_rfl
theorem meth_sumt_fits (x : Value) (w : World) : (method 267 96 x "replica/wire.fits").run Tryd.prog w = .ok (102, x) w := by kernel_rfl
theorem meth_sumt_blank (x : Value) (w : World) : (method 267 96 x "replica/wire.blank").run Tryd.prog w = .ok (101, x) w := by kernel_rfl
theorem meth_data_fits (x : Value) (w : World) : (method 267 94 x "replica/wire.fits").run Tryd.prog w = .ok (100, x) w := by kernel_rfl
theorem meth_data_blank (x : Value) (w : World) : (method 267 94 x "replica/wire.blank").run Tryd.prog w = .ok (99, x) w := by kernel_rfl
theorem ids_fits (w : World) (pb : Nat) (p : PV) : Calls Tryd.prog 104 #[.agg #[], .pointer (some ⟨pb, 0, none⟩)] w fun e' w' => e' = .returned (.bool (fitF p .ids)) ∧ Below w.heap.size w w' := ifits_any w _
def zParts : Array Value := #[.int .u32 0, .int .u32 0, .int .u32 0, .int .u32 0, .int .u32 0, .int .u64 0, .int .u64 0, .int .u64 0, .int .u64 0, .int .u8 0, .int .u8 0, .int .u8 0, .int .u8 0, .int .u8 0, .int .u8 0, .int .u8 0, .int .u8 0, .int .u8 0, .int .u8 0, .int .u8 0, .int .u8 0, .int .u8 0, .int .u8 0, .int .u8 0, .int .u8 0, .int .u8 0, .int .u8 0, .int .u8 0, .int .u8 0, .int .u8 0, .int .u8 0, .int .u8 0, .int .u8 0, .int .u8 0, .int .u8 0, .int .u8 0, .int .u8 0, .int .u8 0, .int .u8 0, .int .u8 0, .int .u8 0, .slice none 0 0]
def fitS (p : PV) (fs : List Fd) (k : Nat) : Prop := (fs.take k).all (fitF p) = true
theorem fitS_zero (p : PV) (fs : List Fd) : fitS p fs 0 := by simp [fitS]
theorem fitS_succ {p : PV} {fs : List Fd} {k : Nat} {f : Fd} (h : fitS p fs k) (hk : fs[k]? = some f) (hf : fitF p f = true) : fitS p fs (k + 1) := by
  unfold fitS at *
  rw [List.take_add_one, List.all_append, h, hk]
  simp [hf]
theorem fitAll_no {p : PV} {fs : List Fd} {k : Nat} {f : Fd} (hk : fs[k]? = some f) (hf : fitF p f = false) : fitAll p fs = false := by
  unfold fitAll
  have : fs.all (fitF p) = false := by
    rw [List.all_eq_false]
    exact ⟨f, List.mem_of_getElem? hk, by simp [hf]⟩
  rw [this]; rfl
theorem fitAll_end {p : PV} {fs : List Fd} (h : fitS p fs fs.length) : fitAll p fs = (fs.foldl blankF p).empty := by
  unfold fitAll
  unfold fitS at h
  rw [List.take_length] at h
  rw [h]; rfl
def blanked (p : PV) (fs : List Fd) (k : Nat) : PV := (fs.take k).foldl blankF p
theorem blanked_succ {p : PV} {fs : List Fd} {k : Nat} {f : Fd} (hk : fs[k]? = some f) : blanked p fs (k + 1) = blankF (blanked p fs k) f := by
  unfold blanked
  rw [List.take_add_one, hk]
  simp
theorem row_all (p : PV) (v : Value) (hv : v.oneCell' = true) : (p.row v).toArray.all (·.oneCell') = true := by
  rw [Array.all_eq_true_iff_forall_mem]
  intro x hx
  rw [List.mem_toArray, row_eq] at hx
  simp only [List.mem_append, List.mem_cons, List.not_mem_nil, or_false, u8L, List.mem_map] at hx
  rcases hx with (h | ⟨y, _, rfl⟩) | rfl
  · rcases h with rfl | rfl | rfl | rfl | rfl | rfl | rfl | rfl | rfl <;> rfl
  · rfl
  · exact hv

set_option maxHeartbeats 2000000 in
theorem fit_some (w : World) (pb : Nat) (p : PV) (v : Value) (b : Nat) (fs : List Fd) (h : PM w pb p v) (hT : BTab w) (hlt : ∀ g, v.ownBlock = some g → g < w.heap.size) (hc : ∀ k f, fs[k]? = some f → w.cell? ⟨b, k, none⟩ = some f.val) (hok : ∀ f ∈ fs, f.Ok) (hlen : fs.length ≤ 4) :
    Calls Tryd.prog 23 #[.pointer (some ⟨pb, 0, none⟩), .slice (some ⟨b, 0, none⟩) fs.length fs.length] w fun e' w' => e' = .returned (.bool (fitAll p fs)) ∧ Below w.heap.size w w' := by
  have hT0 : 0 ≠ w.heap.size := by
    have := World.block_lt_of_cell? w _ (hT 0 (by decide)).1
    simp at this
    omega
  have HPB : Hid (pb ≠ w.heap.size) := hide (by have := h.lt; omega)
  have HVB : Hid (v.ownBlock ≠ some w.heap.size) := hide (fun e => by have := hlt _ e; omega)
  have HT0 := hide hT0
  obtain ⟨da, dc, hv, _, _, _, _, _⟩ := id h.dat
  generalize hdn : p.dl.length = dn at hv
  subst hv
  have HFI : Hid (FI w (w.alloc (.cells (p.row (.slice da dn dc)).toArray 79)) pb w.heap.size p p (.slice da dn dc) (.slice da dn dc)) := hide (by
    have hb := (Below.refl w.heap.size w).alloc (Nat.le_refl _) (.cells (p.row (.slice da dn dc)).toArray 79)
    exact ⟨h.below hb, ⟨Go.heap_alloc_new w _, h.ok, h.dat.below hb, HVB.out⟩, hT.below hb, hb, .inl rfl⟩)
  have HCC : Hid (∀ x, Below w.heap.size w x → ∀ k f, fs[k]? = some f → x.cell? ⟨b, k, none⟩ = some f.val) := hide fun x hb k f hk => by
    have := hc k f hk
    exact (World.cell?_of_block (hb.block b (World.block_lt_of_cell? w _ this))).trans this
  have HROW := hide h.row
  have HK1 : Hid ((Tryd.prog.info? 79).map (·.size) = some (p.row (.slice da dn dc)).toArray.size) := hide (by rw [List.size_toArray, row_len h.ok.n]; exact infoP)
  have HK2 : Hid (zParts.size = (p.row (.slice da dn dc)).toArray.size) := hide (by show 42 = _; rw [List.size_toArray, row_len h.ok.n])
  have HK3 := hide (row_all p (.slice da dn dc) rfl)
  have HOK := hide hok
  generalize hrs : (p.row (.slice da dn dc)).toArray = RS at *
  clear h hT hlt hc hok hT0 hrs hdn
  go_enter Tryd.func23, Tryd.ntmps23
  refine wp_seq_k fun K0 hK0 => ?_
  have HK0 := hide hK0
  clear hK0
  refine wp_region_lit ?_
  go_wp2_with fail
  refine HK0.out _ _ ?_
  clear HK0
  refine wp_seq_k fun K1 hK1 => ?_
  have HKK := hide hK1
  clear hK1
  refine wp_region_lit ?_
  refine Great.wpList_runTo rfl (some 8) rfl (.pointer (some ⟨pb, 0, none⟩)) w (by kernel_rfl) ?_
  refine Great.wpList_runTo rfl (some 9) rfl (.pointer (some ⟨pb, 0, none⟩)) w (by kernel_rfl) ?_
  refine wpList_load_row rfl 79 (.tmp 9) rfl pb (by kernel_rfl) 79 RS (0, 0) _ HROW.out Tryd.underlying79 rfl HK1.out ?_
  refine Great.wpList_runTo rfl (some 5) rfl (.pointer (some ⟨w.heap.size, 0, none⟩)) (w.alloc (.cells zParts 79)) (by kernel_rfl) ?_
  refine wpList_store_row rfl 79 (.tmp 5) (.tmp 10) rfl w.heap.size RS (by kernel_rfl) (by kernel_rfl) 79 zParts (Go.heap_alloc_new w _) HK1.out HK2.out HK3.out ?_
  rw [World.setRow_alloc_new]
  refine wpList_nil ?_
  refine HKK.out _ _ ?_
  clear HKK
  refine act_eq (B := { tmps := #[.pointer (some ⟨pb, 0, none⟩), .slice (some ⟨b, 0, none⟩) fs.length fs.length, undef, undef, .bool false, .pointer (some ⟨w.heap.size, 0, none⟩), undef, undef, .pointer (some ⟨pb, 0, none⟩), .pointer (some ⟨pb, 0, none⟩), .agg RS, undef, undef, undef, undef, undef, undef, undef, undef, undef, undef, undef, undef, undef, undef], defers := [] }) (by kernel_rfl) ?_
  clear HROW HK1 HK2 HK3
  generalize w.alloc (.cells RS 79) = y0 at *
  go_wp2_with fail
  go_loopw [13] (fun i wr => ∃ (k : Nat) (v' : Value), k ≤ fs.length ∧ i = .int .i64 k ∧ Hid (fitS p fs k) ∧ FI w wr pb w.heap.size p (blanked p fs k) (.slice da dn dc) v') (fun i _ => fs.length - (intOf i).toNat)
  case atStart => exact ⟨0, _, Nat.zero_le _, rfl, hide (fitS_zero p fs), HFI.out⟩
  case round =>
    clear HFI
    obtain ⟨k, v', hk, rfl, hft, hfi⟩ := hrel
    have HI := hide hfi
    clear hfi
    by_cases hlt : k < fs.length
    · obtain ⟨f, hf⟩ : ∃ f, fs[k]? = some f := ⟨_, List.getElem?_eq_getElem hlt⟩
      have hcell := HCC.out _ HI.out.bel k f hf
      have HO := hide (HOK.out f (List.mem_of_getElem? hf))
      have HBK := hide (blanked_succ (p := p) hf)
      have HNO := hide (fitAll_no (p := p) hf)
      have HYES := hide (fitS_succ hft.out hf)
      clear hf hft
      cases f with
      | num n =>
        unfold Fd.val at hcell
        have m1 := meth_number_fits
        have m2 := meth_number_blank
        have HFT := hide (num_fits _ n pb p _ HI.out.tab HI.out.pm HO.out)
        have HBL := hide fun y (hy : FI w y pb w.heap.size p (blanked p fs k) (.slice da dn dc) v') => num_blank _ n w.heap.size (blanked p fs k) v' hy.tab hy.pr HO.out
        cases hb : fitF p (Fd.num n) with
        | true =>
          rw [hb] at HFT
          have HY2 := hide (HYES.out hb)
          clear hb HNO HYES
          go_wp2_with (first
            | (go_at_call 98; refine HFT.out.mono ?_; rintro e' z ⟨rfl, hz⟩; have HI2 := hide (HI.out.below hz); clear hz HFT)
            | (go_at_call 97; refine (HBL.out _ HI2.out).mono ?_; rintro e' z2 ⟨rfl, v2, hp2, ho2, hv2⟩; have HI3 := hide (HI2.out.next (Nat.le_refl _) HPB.out HVB.out HT0.out hp2 ho2 hv2); clear hp2 ho2 hv2 HBL))
          go_roundw
          case rel => exact ⟨k + 1, v2, by omega, by go_num, HY2, by rw [HBK.out]; exact HI3.out⟩
          case measure => simp [intOf]; omega
        | false =>
          rw [hb] at HFT
          have HN2 := hide (HNO.out hb)
          clear hb HNO HYES HBL
          go_wp2_with (go_at_call 98; refine HFT.out.mono ?_; rintro e' z ⟨rfl, hz⟩; have HI2 := hide (HI.out.below hz); clear hz HFT)
          go_ret
          exact ⟨by rw [HN2.out]; rfl, HI2.out.bel⟩
      | ids =>
        unfold Fd.val at hcell
        have m1 := meth_idents_fits
        have m2 := meth_idents_blank
        have HFT := hide (ids_fits wr pb p)
        have HBL := hide fun y (hy : FI w y pb w.heap.size p (blanked p fs k) (.slice da dn dc) v') => ids_blank _ w.heap.size (blanked p fs k) v' hy.pr
        cases hb : fitF p (Fd.ids) with
        | true =>
          rw [hb] at HFT
          have HY2 := hide (HYES.out hb)
          clear hb HNO HYES
          go_wp2_with (first
            | (go_at_call 104; refine HFT.out.mono ?_; rintro e' z ⟨rfl, hz⟩; have HI2 := hide (HI.out.below hz); clear hz HFT)
            | (go_at_call 103; refine (HBL.out _ HI2.out).mono ?_; rintro e' z2 ⟨rfl, v2, hp2, ho2, hv2⟩; have HI3 := hide (HI2.out.next (Nat.le_refl _) HPB.out HVB.out HT0.out hp2 ho2 hv2); clear hp2 ho2 hv2 HBL))
          go_roundw
          case rel => exact ⟨k + 1, v2, by omega, by go_num, HY2, by rw [HBK.out]; exact HI3.out⟩
          case measure => simp [intOf]; omega
        | false =>
          rw [hb] at HFT
          have HN2 := hide (HNO.out hb)
          clear hb HNO HYES HBL
          go_wp2_with (go_at_call 104; refine HFT.out.mono ?_; rintro e' z ⟨rfl, hz⟩; have HI2 := hide (HI.out.below hz); clear hz HFT)
          go_ret
          exact ⟨by rw [HN2.out]; rfl, HI2.out.bel⟩
      | sum t =>
        unfold Fd.val at hcell
        have m1 := meth_sumt_fits
        have m2 := meth_sumt_blank
        have HFT := hide (sfits_any _ t pb p _ HI.out.pm)
        have HBL := hide fun y (hy : FI w y pb w.heap.size p (blanked p fs k) (.slice da dn dc) v') => sum_blank _ t w.heap.size (blanked p fs k) v' hy.pr
        cases hb : fitF p (Fd.sum t) with
        | true =>
          rw [hb] at HFT
          have HY2 := hide (HYES.out hb)
          clear hb HNO HYES
          go_wp2_with (first
            | (go_at_call 102; refine HFT.out.mono ?_; rintro e' z ⟨rfl, hz⟩; have HI2 := hide (HI.out.below hz); clear hz HFT)
            | (go_at_call 101; refine (HBL.out _ HI2.out).mono ?_; rintro e' z2 ⟨rfl, v2, hp2, ho2, hv2⟩; have HI3 := hide (HI2.out.next (Nat.le_refl _) HPB.out HVB.out HT0.out hp2 ho2 hv2); clear hp2 ho2 hv2 HBL))
          go_roundw
          case rel => exact ⟨k + 1, v2, by omega, by go_num, HY2, by rw [HBK.out]; exact HI3.out⟩
          case measure => simp [intOf]; omega
        | false =>
          rw [hb] at HFT
          have HN2 := hide (HNO.out hb)
          clear hb HNO HYES HBL
          go_wp2_with (go_at_call 102; refine HFT.out.mono ?_; rintro e' z ⟨rfl, hz⟩; have HI2 := hide (HI.out.below hz); clear hz HFT)
          go_ret
          exact ⟨by rw [HN2.out]; rfl, HI2.out.bel⟩
      | dat lo hi t =>
        unfold Fd.val at hcell
        have m1 := meth_data_fits
        have m2 := meth_data_blank
        have HFT := hide (dat_fits _ lo hi t pb p _ HI.out.pm HO.out.1 HO.out.2)
        have HBL := hide fun y (hy : FI w y pb w.heap.size p (blanked p fs k) (.slice da dn dc) v') => dat_blank _ lo hi t w.heap.size (blanked p fs k) v' hy.pr
        cases hb : fitF p (Fd.dat lo hi t) with
        | true =>
          rw [hb] at HFT
          have HY2 := hide (HYES.out hb)
          clear hb HNO HYES
          go_wp2_with (first
            | (go_at_call 100; refine HFT.out.mono ?_; rintro e' z ⟨rfl, hz⟩; have HI2 := hide (HI.out.below hz); clear hz HFT)
            | (go_at_call 99; refine (HBL.out _ HI2.out).mono ?_; rintro e' z2 ⟨rfl, v2, hp2, ho2, hv2⟩; have HI3 := hide (HI2.out.next (Nat.le_refl _) HPB.out HVB.out HT0.out hp2 ho2 hv2); clear hp2 ho2 hv2 HBL))
          go_roundw
          case rel => exact ⟨k + 1, v2, by omega, by go_num, HY2, by rw [HBK.out]; exact HI3.out⟩
          case measure => simp [intOf]; omega
        | false =>
          rw [hb] at HFT
          have HN2 := hide (HNO.out hb)
          clear hb HNO HYES HBL
          go_wp2_with (go_at_call 100; refine HFT.out.mono ?_; rintro e' z ⟨rfl, hz⟩; have HI2 := hide (HI.out.below hz); clear hz HFT)
          go_ret
          exact ⟨by rw [HN2.out]; rfl, HI2.out.bel⟩
    · obtain rfl : k = fs.length := by omega
      have HE := hide (fitAll_end hft.out)
      have HEM : Hid (∀ z, FI w z pb w.heap.size p (blanked p fs fs.length) (.slice da dn dc) v' → Calls Tryd.prog 38 #[.pointer (some ⟨w.heap.size, 0, none⟩)] z fun e' w' => e' = .returned (.bool (fitAll p fs)) ∧ w' = z) := hide fun z hz => by
        rw [HE.out]
        have hb : blanked p fs fs.length = fs.foldl blankF p := by unfold blanked; rw [List.take_length]
        rw [← hb]
        rcases hz.vv with e | e
        · have := hz.pr; rw [e] at this; exact empty_any z _ _ _ _ _ this
        · have := hz.pr; rw [e] at this; exact empty_any z _ _ _ _ _ this
      clear hft HE
      go_wp2_with (go_at_call 38; refine (HEM.out _ HI.out).mono ?_; rintro e' z ⟨rfl, hz⟩; subst hz; clear HEM)
      go_ret
      exact ⟨rfl, HI.out.bel⟩
set_option maxHeartbeats 1000000 in
theorem fit_none (w : World) (pb : Nat) (p : PV) (v : Value) (h : PM w pb p v) (hlt : ∀ g, v.ownBlock = some g → g < w.heap.size) :
    Calls Tryd.prog 23 #[.pointer (some ⟨pb, 0, none⟩), .slice none 0 0] w fun e' w' => e' = .returned (.bool (fitAll p [])) ∧ Below w.heap.size w w' := by
  obtain ⟨da, dc, hv, _, _, _, _, _⟩ := id h.dat
  generalize hdn : p.dl.length = dn at hv
  subst hv
  have HFI : Hid (PM (w.alloc (.cells (p.row (.slice da dn dc)).toArray 79)) w.heap.size p (.slice da dn dc) ∧ Below w.heap.size w (w.alloc (.cells (p.row (.slice da dn dc)).toArray 79))) := hide (by
    have hb := (Below.refl w.heap.size w).alloc (Nat.le_refl _) (.cells (p.row (.slice da dn dc)).toArray 79)
    exact ⟨⟨Go.heap_alloc_new w _, h.ok, h.dat.below hb, fun e => by have := hlt _ e; omega⟩, hb⟩)
  have HROW := hide h.row
  have HK1 : Hid ((Tryd.prog.info? 79).map (·.size) = some (p.row (.slice da dn dc)).toArray.size) := hide (by rw [List.size_toArray, row_len h.ok.n]; exact infoP)
  have HK2 : Hid (zParts.size = (p.row (.slice da dn dc)).toArray.size) := hide (by show 42 = _; rw [List.size_toArray, row_len h.ok.n])
  have HK3 := hide (row_all p (.slice da dn dc) rfl)
  generalize hrs : (p.row (.slice da dn dc)).toArray = RS at *
  clear h hlt hrs hdn
  go_enter Tryd.func23, Tryd.ntmps23
  refine wp_seq_k fun K0 hK0 => ?_
  have HK0 := hide hK0
  clear hK0
  refine wp_region_lit ?_
  go_wp2_with fail
  refine HK0.out _ _ ?_
  clear HK0
  refine wp_seq_k fun K1 hK1 => ?_
  have HKK := hide hK1
  clear hK1
  refine wp_region_lit ?_
  refine Great.wpList_runTo rfl (some 8) rfl (.pointer (some ⟨pb, 0, none⟩)) w (by kernel_rfl) ?_
  refine Great.wpList_runTo rfl (some 9) rfl (.pointer (some ⟨pb, 0, none⟩)) w (by kernel_rfl) ?_
  refine wpList_load_row rfl 79 (.tmp 9) rfl pb (by kernel_rfl) 79 RS (0, 0) _ HROW.out Tryd.underlying79 rfl HK1.out ?_
  refine Great.wpList_runTo rfl (some 5) rfl (.pointer (some ⟨w.heap.size, 0, none⟩)) (w.alloc (.cells zParts 79)) (by kernel_rfl) ?_
  refine wpList_store_row rfl 79 (.tmp 5) (.tmp 10) rfl w.heap.size RS (by kernel_rfl) (by kernel_rfl) 79 zParts (Go.heap_alloc_new w _) HK1.out HK2.out HK3.out ?_
  rw [World.setRow_alloc_new]
  refine wpList_nil ?_
  refine HKK.out _ _ ?_
  clear HKK
  refine act_eq (B := { tmps := #[.pointer (some ⟨pb, 0, none⟩), .slice none 0 0, undef, undef, .bool false, .pointer (some ⟨w.heap.size, 0, none⟩), undef, undef, .pointer (some ⟨pb, 0, none⟩), .pointer (some ⟨pb, 0, none⟩), .agg RS, undef, undef, undef, undef, undef, undef, undef, undef, undef, undef, undef, undef, undef, undef], defers := [] }) (by kernel_rfl) ?_
  clear HROW HK1 HK2 HK3
  generalize w.alloc (.cells RS 79) = y0 at *
  go_wp2_with fail
  have HEM : Hid (Calls Tryd.prog 38 #[.pointer (some ⟨w.heap.size, 0, none⟩)] y0 fun e' w' => e' = .returned (.bool (fitAll p [])) ∧ w' = y0) := hide (empty_any y0 _ _ _ _ _ HFI.out.1)
  go_loopw [13] (fun i wr => i = .int .i64 0 ∧ wr = y0) (fun i _ => 0)
  case atStart => exact ⟨rfl, rfl⟩
  case round =>
    obtain ⟨rfl, hwr⟩ := hrel
    subst hwr
    go_wp2_with (go_at_call 38; refine HEM.out.mono ?_; rintro e' z ⟨rfl, hz⟩; subst hz; clear HEM)
    go_ret
    exact ⟨rfl, HFI.out.2⟩
theorem fit_any (w : World) (pb : Nat) (p : PV) (v : Value) (fv : Value) (fs : List Fd) (h : PM w pb p v) (hT : BTab w) (hlt : ∀ g, v.ownBlock = some g → g < w.heap.size) (hc : FL w fv (fs.map Fd.val)) (hok : ∀ f ∈ fs, f.Ok) (hlen : fs.length ≤ 4) :
    Calls Tryd.prog 23 #[.pointer (some ⟨pb, 0, none⟩), fv] w fun e' w' => e' = .returned (.bool (fitAll p fs)) ∧ Below w.heap.size w w' := by
  rcases FL.at hc with ⟨rfl, rfl⟩ | ⟨b, rfl, hcc⟩
  · exact fit_none w pb p v h hlt
  · exact fit_some w pb p v b fs h hT hlt hcc hok hlen
end Go.Proofs.YtedhohamdbplhaaDoor
