import Derived.Test.YtedhohamdbplhaaDoorWFrm
import Derived.Lib.SmallJoins
namespace Go.Proofs.YtedhohamdbplhaaDoor
open Go.RowKit
open Num
set_option linter.unusedVariables false
set_option linter.unusedSimpArgs false

theorem Own.low {w : World} {b b' : Nat} {v : Value} {l : List Nat} (h : Own w b v l) (hb : b' ≤ b) : Own w b' v l := by
  refine ⟨⟨h.1.1, ?_⟩, h.2⟩
  rcases h.1.2 with h0 | ⟨g, cap, cur, rfl, h1, hg, r⟩
  · exact .inl h0
  · exact .inr ⟨g, cap, cur, rfl, Nat.le_trans hb h1, hg, r⟩
theorem BSl.twoF {w : World} (x y : Nat) (hx : x < 256) (hy : y < 256) (t : TypeId) (fz : Nat × Nat) : BSl (w.alloc (.cells #[.int .u8 (x : Int), .int .u8 (y : Int)] t fz)) (.slice (some ⟨w.heap.size, 0, none⟩) 2 2) [x, y] := by
  refine ⟨_, 2, rfl, Nat.le_refl _, by decide, by simp, by simpa using ⟨hx, hy⟩, fun _ => ⟨_, 0, rfl, fun i hi => ?_⟩⟩
  have hi : i < 2 := hi
  rw [cell_of_row _ _ _ _ _ _ (Go.heap_alloc_new w _)]
  obtain rfl | rfl : i = 0 ∨ i = 1 := by omega
  all_goals rfl
theorem conv_const (w : World) (C : Array Value) (n c g : Nat) (hg : g = w.heap.size) : (convert 34 34 (.slice (some ⟨g, 0, none⟩) n c)).run Tryd.prog (w.alloc (.cells C 5)) = .ok (.slice (some ⟨g, 0, none⟩) n c) (w.alloc (.cells C 5 (C.size, C.size + 1))) :=
  Joins.run_convert_bytes_const_at w 34 5 C n c g hg Tryd.underlying34 (by kernel_rfl)
/-- 'append(s, x...)', s full: it is copied -/
theorem wpList_full {ops : Array Oper} {rest : List Oper} {o : Oper} {a : Act} {w : World} {Q : Exit → Act → World → Prop} (hgd : o.guard = none) (s x : Operand)
    (ho : o.op = .call { callee := .builtin .append, args := #[s, x], argTypes := #[34, 34] })
    (b ad : Addr) (c : Nat) (l0 l : List Nat) (hs : a.eval s = .slice (some b) l0.length l0.length) (hx : a.eval x = .slice (some ad) l.length c) (hb0 : BSl w (.slice (some b) l0.length l0.length) l0) (hb : BSl w (.slice (some ad) l.length c) l) (hne : 0 < l.length) (hlen : l0.length + l.length ≤ 140737488355328)
    (h : ∀ v' w', Own w' w.heap.size v' (l0 ++ l) → Below w.heap.size w w' → w.heap.size ≤ w'.heap.size → wpList Tryd.prog ops Q rest (a.put o.dst v') w') : wpList Tryd.prog ops Q (o :: rest) a w := by
  obtain ⟨i0, hi, hz0, hz1, hz2⟩ := info_parts Tryd.info5
  have h63 : l0.length + l.length ≤ maxLen := by unfold maxLen; omega
  have hr := run_append_grow (P := Tryd.prog) w 34 o.type 5 i0 (.int .u8 0) Tryd.underlying34 hi hz0 b l0.length l0.length (l0.map byteV) (by rw [hz1]; simp) hb0.news ad l.length c (l.map byteV) (by rw [hz1]; simp) hb.news (by omega) (by omega) (by rw [hz2]; exact growslice_fits (by omega) (by omega))
  have hge := grownCap_ge w (l0.length + l.length) l0.length 5
  have hcm := grownCap_le_maxLen w (l0.length + l.length) l0.length 5 h63
  refine wpList_plain hgd fun K hK => ?_
  unfold Oper.wp execOp
  simp only [ho, resolve, invoke, builtin, Sem.run_bind, Sem.run_pure, Result.andThen_ok, List.map_toArray, List.map_cons, List.map_nil, hs, hx, hr]
  refine hK _ _ (h _ _ ⟨⟨by simp, .inr ⟨w.heap.size, _, _, by rw [List.length_append], Nat.le_refl _, heap_alloc_new w.drew _, by rw [List.length_append]; exact hge, hcm, ?_, ?_⟩⟩, fun y hy => (List.mem_append.1 hy).elim (hb0.bytes y) (hb.bytes y)⟩ ?_ (by simp))
  · simp only [Array.size_append, List.size_toArray, size_zeroCells, List.length_map, show (Value.int IntKind.u8 0).cells.size = 1 from rfl]
    omega
  · simp only [Array.toList_append, List.append_assoc]
    rw [← List.append_assoc, ← List.map_append, show (l0 ++ l).length * 1 = ((l0 ++ l).map byteV).length by simp]
    exact List.take_left
  · exact (Below.refl w.heap.size w).drew.alloc (Nat.le_refl _) _
/-- the box of a frame, kept -/
theorem box6 {w x : World} {v0 v1 v2 v3 v4 v5 : Value} {t : TypeId} (h : Below (w.heap.size + 1) (w.alloc (.cells #[v0, v1, v2, v3, v4, v5] t)) x) :
    x.cell? ⟨w.heap.size, 0, none⟩ = some v0 ∧ x.cell? ⟨w.heap.size, 1, none⟩ = some v1 ∧ x.cell? ⟨w.heap.size, 2, none⟩ = some v2 ∧ x.cell? ⟨w.heap.size, 3, none⟩ = some v3 ∧ x.cell? ⟨w.heap.size, 4, none⟩ = some v4 ∧ x.cell? ⟨w.heap.size, 5, none⟩ = some v5 := by
  have hr : x.heap[w.heap.size]? = some (.cells #[v0, v1, v2, v3, v4, v5] t (0, 0)) := by rw [h.block _ (by omega)]; exact Go.heap_alloc_new w _
  exact ⟨by rw [cell_of_row _ _ _ _ _ _ hr]; rfl, by rw [cell_of_row _ _ _ _ _ _ hr]; rfl, by rw [cell_of_row _ _ _ _ _ _ hr]; rfl, by rw [cell_of_row _ _ _ _ _ _ hr]; rfl, by rw [cell_of_row _ _ _ _ _ _ hr]; rfl, by rw [cell_of_row _ _ _ _ _ _ hr]; rfl⟩

theorem Tryd.info22 : (Tryd.prog.info? 29).map (fun i => (i.zero, i.size, i.bytes)) = some (some (.int .u32 0), 1, 4) := by kernel_rfl
theorem idx4u (a b c d : Int) (j : Nat) (hj : j < 4) (w : World) : (Instr.index 84 (.agg #[.int .u32 a, .int .u32 b, .int .u32 c, .int .u32 d]) (.int .i64 (j : Int))).run Tryd.prog w = .ok (.int .u32 ([a, b, c, d].getD j 0)) w := by
  obtain ⟨i, hi, _, hz, _⟩ := info_parts Tryd.info22
  obtain rfl | rfl | rfl | rfl : j = 0 ∨ j = 1 ∨ j = 2 ∨ j = 3 := by omega
  all_goals simp [Instr.index, run_underlying Tryd.underlying84, asIntOf, go_sem, sizeOf, typeInfo, hi, hz]
set_option maxHeartbeats 2000000 in
theorem enc_yes (w : World) (k a b c d : Nat) (vp : Value) (p : List Nat) (hp : BSl w vp p) (ha : a < 4294967296) (hb : b < 4294967296) (hc : c < 4294967296) (hd' : d < 4294967296) (hE : ferr k p.length = 0) :
    Calls Tryd.prog 13 #[frV k a b c d vp] w fun e w' => ∃ v', e = .returned (.tuple #[v', .int .i64 0]) ∧ Own w' w.heap.size v' (frm k a b c d (fsum k a b c d p) p) ∧ Below w.heap.size w w' := by
  obtain ⟨hk1, hk2, hpl⟩ := ferr_zero hE
  have hpb := hp.bytes
  obtain ⟨pa, pcap, rfl, hl1, hl2, hl3, _, _⟩ := id hp
  unfold maxLen at hl2
  unfold frV
  have HCH : Hid (∀ x, Calls Tryd.prog 30 #[.int .i64 (k : Int), .int .i64 (p.length : Int)] x fun e w' => e = .returned (.int .i64 0) ∧ w' = x) := hide fun x => (by have := checkHead_any x k p.length (by omega) (by omega); rw [hE] at this; exact this)
  have HW := hide ((Below.refl w.heap.size w).alloc (Nat.le_refl _) (.cells #[.int .i64 (k : Int), .int .u32 (a : Int), .int .u32 (b : Int), .int .u32 (c : Int), .int .u32 (d : Int), .slice pa p.length pcap] 48))
  have HBX : Hid (∀ x, Below (w.heap.size + 1) (w.alloc (.cells #[.int .i64 (k : Int), .int .u32 (a : Int), .int .u32 (b : Int), .int .u32 (c : Int), .int .u32 (d : Int), .slice pa p.length pcap] 48)) x → _) := hide fun x hx => box6 hx
  have HPX : Hid (∀ x, Below (w.heap.size + 1) (w.alloc (.cells #[.int .i64 (k : Int), .int .u32 (a : Int), .int .u32 (b : Int), .int .u32 (c : Int), .int .u32 (d : Int), .slice pa p.length pcap] 48)) x → BSl x (.slice pa p.length pcap) p) := hide fun x hx => (hp.below HW.out).below (by simpa using hx)
  have HPB := hide hpb
  clear hp hl3 hpb hE
  rename_i dead1 dead2
  clear dead1 dead2
  have hcv : (convert 34 34 (.slice (some ⟨w.heap.size + 1, 0, none⟩) 2 2)).run Tryd.prog ((w.alloc (.cells #[.int .i64 (k : Int), .int .u32 (a : Int), .int .u32 (b : Int), .int .u32 (c : Int), .int .u32 (d : Int), .slice pa p.length pcap] 48)).alloc (.cells #[.int .u8 82, .int .u8 70] 5)) = .ok (.slice (some ⟨w.heap.size + 1, 0, none⟩) 2 2) ((w.alloc (.cells #[.int .i64 (k : Int), .int .u32 (a : Int), .int .u32 (b : Int), .int .u32 (c : Int), .int .u32 (d : Int), .slice pa p.length pcap] 48)).alloc (.cells #[.int .u8 82, .int .u8 70] 5 (2, 3))) := conv_const _ _ 2 2 _ (by simp)
  have hs1 : (w.alloc (.cells #[.int .i64 (k : Int), .int .u32 (a : Int), .int .u32 (b : Int), .int .u32 (c : Int), .int .u32 (d : Int), .slice pa p.length pcap] 48)).heap.size = w.heap.size + 1 := by simp
  have hs2 : ((w.alloc (.cells #[.int .i64 (k : Int), .int .u32 (a : Int), .int .u32 (b : Int), .int .u32 (c : Int), .int .u32 (d : Int), .slice pa p.length pcap] 48)).alloc (.cells #[.int .u8 82, .int .u8 70] 5 (2, 3))).heap.size = w.heap.size + 1 + 1 := by simp
  have HB0 : Hid (BSl (((w.alloc (.cells #[.int .i64 (k : Int), .int .u32 (a : Int), .int .u32 (b : Int), .int .u32 (c : Int), .int .u32 (d : Int), .slice pa p.length pcap] 48)).alloc (.cells #[.int .u8 82, .int .u8 70] 5 (2, 3))).alloc (.cells #[.int .u8 (k : Int), .int .u8 1] 5)) (.slice (some ⟨w.heap.size + 1, 0, none⟩) 2 2) [82, 70]) := hide (by have := (BSl.twoF (w := (w.alloc (.cells #[.int .i64 (k : Int), .int .u32 (a : Int), .int .u32 (b : Int), .int .u32 (c : Int), .int .u32 (d : Int), .slice pa p.length pcap] 48))) 82 70 (by decide) (by decide) 5 (2, 3)).below ((Below.refl _ _).alloc (Nat.le_refl _) (.cells #[.int .u8 (k : Int), .int .u8 1] 5)); rw [hs1] at this; exact this)
  have HB1 : Hid (BSl (((w.alloc (.cells #[.int .i64 (k : Int), .int .u32 (a : Int), .int .u32 (b : Int), .int .u32 (c : Int), .int .u32 (d : Int), .slice pa p.length pcap] 48)).alloc (.cells #[.int .u8 82, .int .u8 70] 5 (2, 3))).alloc (.cells #[.int .u8 (k : Int), .int .u8 1] 5)) (.slice (some ⟨w.heap.size + 1 + 1, 0, none⟩) 2 2) [k, 1]) := hide (by have := BSl.two (w := ((w.alloc (.cells #[.int .i64 (k : Int), .int .u32 (a : Int), .int .u32 (b : Int), .int .u32 (c : Int), .int .u32 (d : Int), .slice pa p.length pcap] 48)).alloc (.cells #[.int .u8 82, .int .u8 70] 5 (2, 3)))) k 1 (by omega) (by decide) 5; rw [hs2] at this; exact this)
  clear hs1 hs2
  go_enter Tryd.func13, Tryd.ntmps13
  go_wp2_with (first
    | (go_at_call 30; refine (HCH.out _).mono ?_; rintro e w' ⟨rfl, rfl⟩)
    | (at_builtin; refine wpList_full rfl (.tmp 18) (.tmp 22) rfl _ _ 2 [82, 70] [k, 1] rfl rfl HB0.out HB1.out (by simp) (by simp) ?_))
  intro v1 w1 ho1 hbl1 hsz1
  have RB1 : Below (w.heap.size + 1) (w.alloc (.cells #[.int .i64 (k : Int), .int .u32 (a : Int), .int .u32 (b : Int), .int .u32 (c : Int), .int .u32 (d : Int), .slice pa p.length pcap] 48)) w1 := ((((Below.refl (w.heap.size + 1) (w.alloc (.cells #[.int .i64 (k : Int), .int .u32 (a : Int), .int .u32 (b : Int), .int .u32 (c : Int), .int .u32 (d : Int), .slice pa p.length pcap] 48))).alloc (by simp) _).alloc (by simp) _).trans (hbl1.mono (by omega)))
  have R1 := hide (ho1.low (show w.heap.size + 1 ≤ w.heap.size + 1 + 1 + 1 by omega))
  have HSZ1 := hide (show w.heap.size + 1 ≤ w1.heap.size by omega)
  have HRB1 := hide RB1
  obtain ⟨c0, c1, c2, c3, c4, c5⟩ := HBX.out w1 RB1
  clear ho1 hbl1 hsz1 RB1 HB0 HB1 hcv
  go_wp2_with fail
  clear c0 c1 c2 c3 c4 c5
  go_loopw [5, 33] (fun u i wr => ∃ j : Nat, j ≤ 4 ∧ i = .int .i64 j ∧ Own wr (w.heap.size + 1) u ([82, 70, k, 1] ++ ([a, b, c, d].take j).flatMap (fun x => be x 4)) ∧ Below (w.heap.size + 1) (w.alloc (.cells #[.int .i64 (k : Int), .int .u32 (a : Int), .int .u32 (b : Int), .int .u32 (c : Int), .int .u32 (d : Int), .slice pa p.length pcap] 48)) wr ∧ w.heap.size + 1 ≤ wr.heap.size) (fun _ i _ => 4 - (intOf i).toNat)
  case atStart => exact ⟨0, Nat.zero_le _, rfl, by simpa using R1.out, HRB1.out, HSZ1.out⟩
  case round =>
    clear R1 HRB1 HSZ1
    obtain ⟨j, hj, rfl, hown, hbel, hsz⟩ := hrel
    have HO := hide hown
    have HBE := hide hbel
    clear hown hbel
    by_cases hlt : j < 4
    · obtain rfl | rfl | rfl | rfl : j = 0 ∨ j = 1 ∨ j = 2 ∨ j = 3 := by omega
      · have hix : ∀ wx : World, (Instr.index 84 (.agg #[.int .u32 (a : Int), .int .u32 (b : Int), .int .u32 (c : Int), .int .u32 (d : Int)]) (.int .i64 0)).run Tryd.prog wx = .ok (.int .u32 (a : Int)) wx := idx4u a b c d 0 (by decide)
        go_wp2_with (go_at_call 31; refine (appendNumber_any _ (w.heap.size + 1) _ _ _ 4 (by omega) (by omega) HO.out hsz (by simp [be_len])).mono ?_; rintro e w' ⟨v', rfl, hown', hbl, hs'⟩)
        have R := hide hown'
        have RB := hide (HBE.out.trans hbl)
        clear hown' hbl
        go_wp2
        go_roundw
        case rel => exact ⟨1, by decide, by first | rfl | go_num, by have := R.out; simpa using this, RB.out, hs'⟩
        case measure => simp [intOf]
      · have hix : ∀ wx : World, (Instr.index 84 (.agg #[.int .u32 (a : Int), .int .u32 (b : Int), .int .u32 (c : Int), .int .u32 (d : Int)]) (.int .i64 1)).run Tryd.prog wx = .ok (.int .u32 (b : Int)) wx := idx4u a b c d 1 (by decide)
        go_wp2_with (go_at_call 31; refine (appendNumber_any _ (w.heap.size + 1) _ _ _ 4 (by omega) (by omega) HO.out hsz (by simp [be_len])).mono ?_; rintro e w' ⟨v', rfl, hown', hbl, hs'⟩)
        have R := hide hown'
        have RB := hide (HBE.out.trans hbl)
        clear hown' hbl
        go_wp2
        go_roundw
        case rel => exact ⟨2, by decide, by first | rfl | go_num, by have := R.out; simpa using this, RB.out, hs'⟩
        case measure => simp [intOf]
      · have hix : ∀ wx : World, (Instr.index 84 (.agg #[.int .u32 (a : Int), .int .u32 (b : Int), .int .u32 (c : Int), .int .u32 (d : Int)]) (.int .i64 2)).run Tryd.prog wx = .ok (.int .u32 (c : Int)) wx := idx4u a b c d 2 (by decide)
        go_wp2_with (go_at_call 31; refine (appendNumber_any _ (w.heap.size + 1) _ _ _ 4 (by omega) (by omega) HO.out hsz (by simp [be_len])).mono ?_; rintro e w' ⟨v', rfl, hown', hbl, hs'⟩)
        have R := hide hown'
        have RB := hide (HBE.out.trans hbl)
        clear hown' hbl
        go_wp2
        go_roundw
        case rel => exact ⟨3, by decide, by first | rfl | go_num, by have := R.out; simpa using this, RB.out, hs'⟩
        case measure => simp [intOf]
      · have hix : ∀ wx : World, (Instr.index 84 (.agg #[.int .u32 (a : Int), .int .u32 (b : Int), .int .u32 (c : Int), .int .u32 (d : Int)]) (.int .i64 3)).run Tryd.prog wx = .ok (.int .u32 (d : Int)) wx := idx4u a b c d 3 (by decide)
        go_wp2_with (go_at_call 31; refine (appendNumber_any _ (w.heap.size + 1) _ _ _ 4 (by omega) (by omega) HO.out hsz (by simp [be_len])).mono ?_; rintro e w' ⟨v', rfl, hown', hbl, hs'⟩)
        have R := hide hown'
        have RB := hide (HBE.out.trans hbl)
        clear hown' hbl
        go_wp2
        go_roundw
        case rel => exact ⟨4, by decide, by first | rfl | go_num, by have := R.out; simpa using this, RB.out, hs'⟩
        case measure => simp [intOf]
    · obtain rfl : j = 4 := by omega
      obtain ⟨c0, c1, c2, c3, c4, c5⟩ := HBX.out wr HBE.out
      clear HCH
      have hfl : fsum k a b c d p < 4294967296 := fsum_lt (by omega) HPB.out
      have HSM : Hid (∀ x v, Own x (w.heap.size + 1) v (hd k a b c d p.length) → BSl x (.slice pa p.length pcap) p → Calls Tryd.prog 32 #[v, .slice pa p.length pcap] x fun e w' => e = .returned (.int .u32 (fsum k a b c d p : Nat)) ∧ Below x.heap.size x w') := hide fun x v h1 h2 => by rw [fsum_eq]; exact frameSum_any x v _ _ p h1.bsl h2
      have HFIN : Hid (∀ x v, Own x (w.heap.size + 1) v ((hd k a b c d p.length ++ be (fsum k a b c d p) 4) ++ p) → Below (w.heap.size + 1) (w.alloc (.cells #[.int .i64 (k : Int), .int .u32 (a : Int), .int .u32 (b : Int), .int .u32 (c : Int), .int .u32 (d : Int), .slice pa p.length pcap] 48)) x → Own x w.heap.size v (frm k a b c d (fsum k a b c d p) p) ∧ Below w.heap.size w x) := hide fun x v h1 h2 => ⟨h1.low (by omega), HW.out.trans (h2.mono (by omega))⟩
      have HLEN := hide (hd_len k a b c d p.length)
      go_wp2_with (first
        | (go_at_call 31; refine (appendNumber_any _ (w.heap.size + 1) _ _ _ 2 (by omega) (by omega) HO.out hsz (by simp [be_len])).mono ?_; rintro e w2 ⟨v2, rfl, hown2, hbl2, hs2⟩; have R2 : Hid (Own w2 (w.heap.size + 1) v2 (hd k a b c d p.length)) := hide (by have := hown2; simpa [hd] using this); have RB2 := hide (HBE.out.trans hbl2); clear hown2 hbl2 HO; obtain ⟨d0, d1, d2, d3, d4, d5⟩ := HBX.out w2 RB2.out; have HFS := hide (HSM.out w2 v2 R2.out (HPX.out w2 RB2.out)))
        | (go_at_call 32; refine HFS.out.mono ?_; rintro e w3 ⟨rfl, hbl3⟩; clear HFS; have R3 := hide (R2.out.kept hbl3); have RB3 := hide (RB2.out.trans (hbl3.mono hs2)); have HS3 := hide (Nat.le_trans hs2 hbl3.size); clear hbl3; obtain ⟨e0, e1, e2, e3, e4, e5⟩ := HBX.out w3 RB3.out)
        | (go_at_call 31; refine (appendNumber_any _ (w.heap.size + 1) _ _ _ 4 (by omega) (by omega) R3.out HS3.out (by rw [HLEN.out]; omega)).mono ?_; rintro e w4 ⟨v4, rfl, hown4, hbl4, hs4⟩; have R4 := hide hown4; have RB4 := hide (RB3.out.trans hbl4); clear hown4 hbl4 R3; obtain ⟨f0, f1, f2, f3, f4, f5⟩ := HBX.out w4 RB4.out; have HPF := hide (HPX.out w4 RB4.out))
        | (at_builtin; refine wpList_app rfl (.tmp 54) (.tmp 56) rfl (w.heap.size + 1) _ _ _ p rfl rfl R4.out HPF.out (by rw [List.length_append, HLEN.out, be_len]; omega) hs4 ?_))
      intro v5 w5 hown5 hbl5 hs5 _
      have HR := hide (HFIN.out w5 v5 hown5 (RB4.out.trans hbl5))
      clear hown5 hbl5 d0 d1 d2 d3 d4 d5 e0 e1 e2 e3 e4 e5 f0 f1 f2 f3 f4 f5 c0 c1 c2 c3 c4 c5
      go_wp2
      go_ret2
      exact ⟨_, rfl, HR.out.1, HR.out.2⟩

set_option maxHeartbeats 1000000 in
theorem enc_no (w : World) (k : Int) (a b c d : Nat) (vp : Value) (p : List Nat) (hp : BSl w vp p) (hk : -9223372036854775808 ≤ k ∧ k ≤ 9223372036854775807) (hpl : p.length ≤ 140737488351232) (hE : ferr k p.length ≠ 0) :
    Calls Tryd.prog 13 #[.agg #[.int .i64 k, .int .u32 (a : Int), .int .u32 (b : Int), .int .u32 (c : Int), .int .u32 (d : Int), vp]] w fun e w' => e = .returned (.tuple #[.slice none 0 0, .int .i64 (ferr k p.length : Nat)]) ∧ Below w.heap.size w w' := by
  obtain ⟨pa, pcap, rfl, hl1, hl2, hl3, _, _⟩ := id hp
  unfold maxLen at hl2
  have HCH := hide fun x => checkHead_any x k p.length hk (by omega)
  have HW := hide ((Below.refl w.heap.size w).alloc (Nat.le_refl _) (.cells #[.int .i64 k, .int .u32 (a : Int), .int .u32 (b : Int), .int .u32 (c : Int), .int .u32 (d : Int), .slice pa p.length pcap] 48))
  have hEb : ((ferr k p.length : Int) == 0) = false := by simp only [beq_eq_false_iff_ne]; omega
  generalize ferr k p.length = q at *
  clear hp hl3
  rename_i dead1 dead2
  clear dead1 dead2
  go_enter Tryd.func13, Tryd.ntmps13
  go_wp2_with (go_at_call 30; refine (HCH.out _).mono ?_; rintro e w' ⟨rfl, rfl⟩)
  go_ret2
  exact ⟨rfl, HW.out⟩

/-- EncodeFrame, of any frame -/
theorem encodeFrame_any (w : World) (k : Int) (a b c d : Nat) (vp : Value) (p : List Nat) (hp : BSl w vp p) (hk : -9223372036854775808 ≤ k ∧ k ≤ 9223372036854775807) (hpl : p.length ≤ 140737488351232) (ha : a < 4294967296) (hb : b < 4294967296) (hc : c < 4294967296) (hd' : d < 4294967296) :
    Calls Tryd.prog 13 #[frV k a b c d vp] w fun e w' => ∃ v', e = .returned (.tuple #[v', .int .i64 (ferr k p.length : Nat)]) ∧ Own w' w.heap.size v' (fbytes k a b c d p) ∧ Below w.heap.size w w' := by
  by_cases hE : ferr k p.length = 0
  · obtain ⟨hk1, hk2, _⟩ := ferr_zero hE
    obtain ⟨kk, rfl⟩ : ∃ kk : Nat, k = (kk : Int) := ⟨k.toNat, by omega⟩
    refine (enc_yes w kk a b c d vp p hp ha hb hc hd' hE).mono ?_
    rintro e w' ⟨v', rfl, h1, h2⟩
    refine ⟨v', by rw [hE]; rfl, ?_, h2⟩
    unfold fbytes
    rw [if_pos hE]
    exact h1
  · refine (enc_no w k a b c d vp p hp hk hpl hE).mono ?_
    rintro e w' ⟨rfl, h2⟩
    refine ⟨_, rfl, ?_, h2⟩
    unfold fbytes
    rw [if_neg hE]
    exact ⟨World.ownsRow_nil _ _ _ _, by simp⟩
end Go.Proofs.YtedhohamdbplhaaDoor
