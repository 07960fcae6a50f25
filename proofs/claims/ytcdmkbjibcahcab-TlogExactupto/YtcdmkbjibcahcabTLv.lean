import Derived.Test.YtcdmkbjibcahcabTAck
namespace Go.Proofs.Ytcdmkbjibcahcab
open Go.RowKit
set_option linter.unusedVariables false
set_option linter.unusedSimpArgs false
set_option maxRecDepth 20000

def leaveS (S : LS) (k : Nat) : LS := { S with gone := S.gone + k, ls := S.ls.drop k }
theorem leaveS_es (S : LS) (k : Nat) : (leaveS S k).es = S.es.drop k := by simp [leaveS, LS.es]
/-- in the midst of leave: j writes are out of the map -/
structure LvI (w wr : World) (p bm : Nat) (v nv : Value) (S : LS) (k j : Nat) : Prop where
  row : wr.heap[p]? = some (.cells ((leaveS S k).row nv bm) 69 (0, 0))
  blk : ∀ g, v.ownBlock = some g → wr.heap[g]? = w.heap[g]?
  mp : MS wr bm (S.gone + j) (S.ls.drop j)
  chg : Chg (LU p bm v) w wr
theorem LvI.start {w : World} {p bm : Nat} {v nv : Value} {S : LS} {k : Nat} (h : LRep w p bm v S) : LvI w ((w.setCell ⟨p, 3, none⟩ nv).setCell ⟨p, 5, none⟩ (.int .i64 ((S.gone : Int) + (k : Int)))) p bm v nv S k 0 := by
  have h1 := Go.heap_setCell_same w p 3 _ 69 nv h.row
  have h2 := Go.heap_setCell_same _ p 5 _ 69 (.int .i64 ((S.gone : Int) + (k : Int))) h1
  refine ⟨h2, fun g e => ?_, ?_, chg_set (chg_set (Chg.refl _ w) _ _ _ (.inl (.inl rfl))) _ _ _ (.inl (.inl rfl))⟩
  · rw [Go.heap_setCell_other _ _ _ _ (by exact (h.ap.2 g e).1), Go.heap_setCell_other _ _ _ _ (by exact (h.ap.2 g e).1)]
  · exact (h.mp.kept (Go.heap_setCell_other _ _ _ _ (by exact h.ap.1.symm))).kept (Go.heap_setCell_other _ _ _ _ (by exact h.ap.1.symm))
theorem LvI.fin {w wr : World} {p bm : Nat} {v nv : Value} {S : LS} {k : Nat} (h : LvI w wr p bm v nv S k k) (he : ∀ x, (∀ g, v.ownBlock = some g → x.heap[g]? = w.heap[g]?) → ERow x nv (S.es.drop k)) (hl : ∀ g, nv.ownBlock = some g → v.ownBlock = some g) (hf : ∀ g o n c o' n' c', v = .slice (some ⟨g, o, none⟩) n c → nv = .slice (some ⟨g, o', none⟩) n' c' → o ≤ o' ∧ o' + c' * 3 ≤ o + c * 3 ∧ (c = 0 → c' = 0)) : Tn w wr p bm v nv (leaveS S k) :=
  ⟨⟨h.row, by rw [leaveS_es]; exact he wr h.blk, h.mp⟩, h.chg, fun g e => .inl (hl g e), Fr.same (fun g e _ => h.blk g e) hf⟩
/-- a write more out of the map; y: the world with the copy of the write -/
theorem LvI.next {w wr y z : World} {p bm : Nat} {v nv : Value} {S : LS} {k j : Nat} {D : DataW Unit} {x : En × Bool} (h : LvI w wr p bm v nv S k j) (h0 : ∀ g, LU p bm v g → g < w.heap.size) (ap : p ≠ bm ∧ ∀ g, v.ownBlock = some g → g ≠ p ∧ g ≠ bm) (hx : S.ls[j]? = some x) (hd : (ids S.ls).Nodup) (hy : Below wr.heap.size wr y) {n : Nat}
    (hs : Maps.size D = (S.ls.drop j).length) (h1 : ∀ (i : Nat) (x : En × Bool), (S.ls.drop j)[i]? = some x → Maps.has D (kL x.1.1) = true ∧ ∀ z, D.atKey (kL x.1.1) z = stD ((S.gone + j + i : Nat) : Int) x.2) (h2 : ∀ key, key ∉ (S.ls.drop j).map (fun x => x.1.1) → Maps.has D (kL key) = false) (hT : Maps.Tidy D)
    (ho : z.ownsMap Try.prog 3 stR bm n (D.del (kL x.1.1))) (ht : y.grownBy z (some bm)) : LvI w z p bm v nv S k (j + 1) := by
  have hsz := h.chg.size
  have hyz := hy.size
  have kp : ∀ g, g < w.heap.size → g ≠ bm → z.heap[g]? = wr.heap[g]? := fun g hg hn => (ht.block g (by omega) fun e => hn (Option.some.inj e)).trans (hy.block g (by omega))
  have hdr : S.ls.drop j = x :: S.ls.drop (j + 1) := by
    obtain ⟨hl, e⟩ := List.getElem?_eq_some_iff.1 hx
    rw [← e]
    exact List.drop_eq_getElem_cons hl
  refine ⟨(kp p (h0 p (.inl rfl)) ap.1).trans h.row, fun g e => (kp g (h0 g (.inr (.inr e))) (ap.2 g e).2).trans (h.blk g e), ?_, ⟨ht.os.trans (hy.os.trans h.chg.os), ht.tape.trans (hy.tape.trans h.chg.tape), ht.output.trans (hy.output.trans h.chg.output), Nat.le_trans hsz (Nat.le_trans hyz ht.size), fun g hg hn => (kp g hg fun e => hn (.inr (.inl e))).trans (h.chg.keep g hg hn)⟩⟩
  rw [hdr] at hs h1 h2
  have hd' : (ids (x :: S.ls.drop (j + 1))).Nodup := by
    rw [← hdr]
    exact hd.sublist ((List.drop_sublist j S.ls).map _)
  exact MS.del hs h1 h2 hT hd' ho
theorem ERow.frontAt {x : World} {g off c n k : Nat} {es : List En} (hn : es.length = n) (h : ERow x (.slice (some ⟨g, off, none⟩) n c) es) (hk : k ≤ n) : ERow x (.slice (some ⟨g, off, none⟩) k k) (es.take k) := by
  subst hn
  have hc : es.length ≤ c := by
    obtain ⟨a, c', e, h1, -⟩ := h.form
    simp only [Value.slice.injEq] at e
    omega
  exact h.front hk (Nat.le_refl _) (by omega)
set_option maxHeartbeats 1000000 in
theorem leave_room (w : World) (p bm g off c : Nat) (S : LS) (k : Nat) (n : Nat) (HN : Hid (S.es.length = n)) (h : LRep w p bm (.slice (some ⟨g, off, none⟩) n c) S) (hb : S.Bd) (hk : k ≤ n) (hkc : k < c) (hg : S.gone ≤ 16000000000000) : Calls Try.prog 43 #[.pointer (some ⟨p, 0, none⟩), .int .i64 (k : Int)] w fun e w' =>
    e = .returned (.slice (some ⟨g, off, none⟩) k k) ∧ ERow w' (.slice (some ⟨g, off, none⟩) k k) (S.es.take k) ∧ Tn w w' p bm (.slice (some ⟨g, off, none⟩) n c) (.slice (some ⟨g, off + k * 3, none⟩) (n - k) (c - k)) (leaveS S k) := by
  obtain ⟨a, c', ev, b1, b2, hc⟩ := h.lst.form
  rw [HN.out] at ev b1
  simp only [Value.slice.injEq] at ev
  obtain ⟨rfl, -, rfl⟩ := ev
  unfold maxLen at b2
  have HE : Hid (∀ x : World, (∀ b, (Value.slice (some ⟨g, off, none⟩) n c).ownBlock = some b → x.heap[b]? = w.heap[b]?) → ERow x (.slice (some ⟨g, off, none⟩) n c) S.es) := hide fun x q => h.lst.kept q
  have HF : Hid (∀ x : World, (∀ b, (Value.slice (some ⟨g, off, none⟩) n c).ownBlock = some b → x.heap[b]? = w.heap[b]?) → ERow x (.slice (some ⟨g, off, none⟩) k k) (S.es.take k)) := hide fun x q => (HE.out x q).frontAt HN.out hk
  have HV : Hid (∀ x : World, (∀ b, (Value.slice (some ⟨g, off, none⟩) n c).ownBlock = some b → x.heap[b]? = w.heap[b]?) → ERow x (.slice (some ⟨g, off + k * 3, none⟩) (n - k) (c - k)) (S.es.drop k)) := hide fun x q => by
    have q1 := HE.out x q
    have hn := HN.out
    subst hn
    exact q1.tail hk
  have HC : Hid (∀ x : World, (∀ b, (Value.slice (some ⟨g, off, none⟩) n c).ownBlock = some b → x.heap[b]? = w.heap[b]?) → ∀ j, j < n → x.cell? ⟨g, off + j * 3, none⟩ = some (.int .i64 (S.es.getD j e0).1) ∧ x.cell? ⟨g, off + j * 3 + 1, none⟩ = some (.int .i64 (S.es.getD j e0).2.1) ∧ x.cell? ⟨g, off + j * 3 + 2, none⟩ = some (.int .i64 (S.es.getD j e0).2.2)) := hide fun x q j hj => by
    obtain ⟨a9, c9, e9, -, -, hc9⟩ := (HE.out x q).form
    simp only [Value.slice.injEq] at e9
    obtain ⟨g9, o9, e8, -, r⟩ := hc9 j (by rw [HN.out]; exact hj)
    rw [e8] at e9
    simp only [Option.some.injEq, Addr.mk.injEq] at e9
    obtain ⟨⟨rfl, rfl, -⟩, -, -⟩ := e9
    exact r
  have HST := hide (LvI.start (k := k) (nv := (.slice (some ⟨g, off + k * 3, none⟩) (n - k) (c - k))) h)
  have HLT := hide h.lt
  have HAP := hide h.ap
  have HBD := hide hb
  have c3 := h.c3
  have c5 := h.c5
  have f3 := h.f 3
  have f5 := h.f 5
  have hel : n ≤ 2000 := by rw [← HN.out]; exact hb.es
  clear h hb hc
  go_enter Try.func43, Try.ntmps43
  go_wp2_with fail
  go_loopw [34] (fun x wr => ∃ j : Nat, j ≤ k ∧ x = .int .i64 (j : Int) ∧ LvI w wr p bm (.slice (some ⟨g, off, none⟩) n c) (.slice (some ⟨g, off + k * 3, none⟩) (n - k) (c - k)) S k j) (fun x _ => k - (intOf x).toNat)
  case atStart => exact ⟨0, Nat.zero_le _, rfl, HST.out⟩
  case round =>
    clear HST
    obtain ⟨j, hj, rfl, hI⟩ := hrel
    by_cases hlt : j < k
    · obtain ⟨d0, d1, d2⟩ := HC.out _ hI.blk j (by omega)
      have hjl : j < S.ls.length := by rw [← LS.es_len, HN.out]; omega
      have hx : S.ls[j]? = some S.ls[j] := List.getElem?_eq_getElem hjl
      have hxe : S.es.getD j e0 = S.ls[j].1 := by simp [LS.es, List.getD, hjl]
      have hid : i64ok (S.es.getD j e0).1 := by rw [hxe]; exact HBD.out.ok _ (List.getElem_mem hjl)
      obtain ⟨D, hown, hDs, hD1, hD2⟩ := hI.mp
      have HD := hide (And.intro hDs (And.intro hD1 (And.intro hD2 (hown.tidy kInt))))
      have e4 : wr.cell? ⟨p, 4, none⟩ = some (.map (some bm)) := by rw [cell_of_row _ _ _ _ _ _ hI.row]; rfl
      have HNX : Hid (∀ z, z.ownsMap Try.prog 3 stR bm (S.ls.drop j).length (D.del (kL (S.es.getD j e0).1)) → (wr.alloc (.cells #[.int .i64 (S.es.getD j e0).1, .int .i64 (S.es.getD j e0).2.1, .int .i64 (S.es.getD j e0).2.2] 56)).drew.grownBy z (some bm) → LvI w z p bm (.slice (some ⟨g, off, none⟩) n c) (.slice (some ⟨g, off + k * 3, none⟩) (n - k) (c - k)) S k (j + 1)) := hide fun z q1 q2 => by
        obtain ⟨m1, m2, m3, m4⟩ := HD.out
        rw [hxe] at q1
        exact hI.next HLT.out HAP.out hx HBD.out.nd (below_alloc wr _).drew m1 m2 m3 m4 q1 q2
      have HO : Hid ((wr.alloc (.cells #[.int .i64 (S.es.getD j e0).1, .int .i64 (S.es.getD j e0).2.1, .int .i64 (S.es.getD j e0).2.2] 56)).drew.ownsMap Try.prog 3 stR bm (S.ls.drop j).length D) := hide (by
        obtain ⟨es, clock, hb, r⟩ := hown
        exact ⟨es, clock, (RowKit.Below.heap_alloc _ _ _ (Array.getElem?_eq_some_iff.1 hb).1).trans hb, r⟩)
      have e4a := cell_alloc (.cells #[.int .i64 (S.es.getD j e0).1, .int .i64 (S.es.getD j e0).2.1, .int .i64 (S.es.getD j e0).2.2] 56) e4
      have n0 : (wr.alloc (.cells #[.int .i64 (S.es.getD j e0).1, .int .i64 (S.es.getD j e0).2.1, .int .i64 (S.es.getD j e0).2.2] 56)).cell? ⟨wr.heap.size, 0, none⟩ = some (.int .i64 (S.es.getD j e0).1) := by rw [cell_of_row _ _ _ _ _ _ (Go.heap_alloc_new wr _)]; rfl
      clear hI hown hDs hD1 hD2 hx hxe HD e4
      generalize (S.es.getD j e0).1 = i0 at *
      generalize (S.es.getD j e0).2.1 = i1 at *
      generalize (S.es.getD j e0).2.2 = i2 at *
      go_wp2_with fail
      refine wp_still_tail 6 (by kernel_rfl) (by kernel_rfl) ?_
      simp only [List.take_succ_cons, List.take_zero, List.drop_succ_cons, List.drop_zero]
      repeat still_step
      refine wpStill_nil ?_
      go_wp2_with (at_delete; refine wpList_delete_own _ rfl _ _ 67 3 rfl 72 kInt Try.underlying67 _ bm _ D rfl HO.out _ (kL i0) rfl (keyI hid) ?_; intro w8 q1 q2; have HI8 := hide (HNX.out _ q1 q2.grown); clear q1 q2)
      go_roundw
      case rel => exact ⟨j + 1, by omega, by go_num, HI8.out⟩
      case measure => simp [intOf]; omega
    · have ej : j = k := by omega
      subst ej
      have HI := hide hI
      clear hI
      go_wp2_with fail
      go_ret
      exact ⟨rfl, HF.out _ HI.out.blk, HI.out.fin HV.out (fun b e => e) fun b o n9 c9 o' n' c' e e2 => by
        simp only [Value.slice.injEq, Option.some.injEq, Addr.mk.injEq, and_true] at e e2
        omega⟩
set_option maxHeartbeats 1000000 in
theorem leave_full (w : World) (p bm g off : Nat) (S : LS) (k : Nat) (HN : Hid (S.es.length = k)) (h : LRep w p bm (.slice (some ⟨g, off, none⟩) k k) S) (hb : S.Bd) (hk : k ≤ k) (hg : S.gone ≤ 16000000000000) : Calls Try.prog 43 #[.pointer (some ⟨p, 0, none⟩), .int .i64 (k : Int)] w fun e w' =>
    e = .returned (.slice (some ⟨g, off, none⟩) k k) ∧ ERow w' (.slice (some ⟨g, off, none⟩) k k) (S.es.take k) ∧ Tn w w' p bm (.slice (some ⟨g, off, none⟩) k k) (.slice (some ⟨g, off, none⟩) 0 0) (leaveS S k) := by
  obtain ⟨a, k', ev, b1, b2, hc⟩ := h.lst.form
  rw [HN.out] at ev b1
  simp only [Value.slice.injEq] at ev
  obtain ⟨rfl, -, rfl⟩ := ev
  unfold maxLen at b2
  have HE : Hid (∀ x : World, (∀ b, (Value.slice (some ⟨g, off, none⟩) k k).ownBlock = some b → x.heap[b]? = w.heap[b]?) → ERow x (.slice (some ⟨g, off, none⟩) k k) S.es) := hide fun x q => h.lst.kept q
  have HF : Hid (∀ x : World, (∀ b, (Value.slice (some ⟨g, off, none⟩) k k).ownBlock = some b → x.heap[b]? = w.heap[b]?) → ERow x (.slice (some ⟨g, off, none⟩) k k) (S.es.take k)) := hide fun x q => (HE.out x q).frontAt HN.out hk
  have HV : Hid (∀ x : World, (∀ b, (Value.slice (some ⟨g, off, none⟩) k k).ownBlock = some b → x.heap[b]? = w.heap[b]?) → ERow x (.slice (some ⟨g, off, none⟩) 0 0) (S.es.drop k)) := hide fun x q => by
    have q1 := HE.out x q
    rw [List.drop_of_length_le (by rw [HN.out]; exact Nat.le_refl _)]
    rw [← HN.out] at q1
    exact q1.gone
  have HC : Hid (∀ x : World, (∀ b, (Value.slice (some ⟨g, off, none⟩) k k).ownBlock = some b → x.heap[b]? = w.heap[b]?) → ∀ j, j < k → x.cell? ⟨g, off + j * 3, none⟩ = some (.int .i64 (S.es.getD j e0).1) ∧ x.cell? ⟨g, off + j * 3 + 1, none⟩ = some (.int .i64 (S.es.getD j e0).2.1) ∧ x.cell? ⟨g, off + j * 3 + 2, none⟩ = some (.int .i64 (S.es.getD j e0).2.2)) := hide fun x q j hj => by
    obtain ⟨a9, c9, e9, -, -, hc9⟩ := (HE.out x q).form
    simp only [Value.slice.injEq] at e9
    obtain ⟨g9, o9, e8, -, r⟩ := hc9 j (by rw [HN.out]; exact hj)
    rw [e8] at e9
    simp only [Option.some.injEq, Addr.mk.injEq] at e9
    obtain ⟨⟨rfl, rfl, -⟩, -, -⟩ := e9
    exact r
  have HST := hide (LvI.start (k := k) (nv := (.slice (some ⟨g, off, none⟩) 0 0)) h)
  have HLT := hide h.lt
  have HAP := hide h.ap
  have HBD := hide hb
  have c3 := h.c3
  have c5 := h.c5
  have f3 := h.f 3
  have f5 := h.f 5
  have hel : k ≤ 2000 := by rw [← HN.out]; exact hb.es
  clear h hb hc
  go_enter Try.func43, Try.ntmps43
  go_wp2_with fail
  go_loopw [34] (fun x wr => ∃ j : Nat, j ≤ k ∧ x = .int .i64 (j : Int) ∧ LvI w wr p bm (.slice (some ⟨g, off, none⟩) k k) (.slice (some ⟨g, off, none⟩) 0 0) S k j) (fun x _ => k - (intOf x).toNat)
  case atStart => exact ⟨0, Nat.zero_le _, rfl, HST.out⟩
  case round =>
    clear HST
    obtain ⟨j, hj, rfl, hI⟩ := hrel
    by_cases hlt : j < k
    · obtain ⟨d0, d1, d2⟩ := HC.out _ hI.blk j (by omega)
      have hjl : j < S.ls.length := by rw [← LS.es_len, HN.out]; omega
      have hx : S.ls[j]? = some S.ls[j] := List.getElem?_eq_getElem hjl
      have hxe : S.es.getD j e0 = S.ls[j].1 := by simp [LS.es, List.getD, hjl]
      have hid : i64ok (S.es.getD j e0).1 := by rw [hxe]; exact HBD.out.ok _ (List.getElem_mem hjl)
      obtain ⟨D, hown, hDs, hD1, hD2⟩ := hI.mp
      have HD := hide (And.intro hDs (And.intro hD1 (And.intro hD2 (hown.tidy kInt))))
      have e4 : wr.cell? ⟨p, 4, none⟩ = some (.map (some bm)) := by rw [cell_of_row _ _ _ _ _ _ hI.row]; rfl
      have HNX : Hid (∀ z, z.ownsMap Try.prog 3 stR bm (S.ls.drop j).length (D.del (kL (S.es.getD j e0).1)) → (wr.alloc (.cells #[.int .i64 (S.es.getD j e0).1, .int .i64 (S.es.getD j e0).2.1, .int .i64 (S.es.getD j e0).2.2] 56)).drew.grownBy z (some bm) → LvI w z p bm (.slice (some ⟨g, off, none⟩) k k) (.slice (some ⟨g, off, none⟩) 0 0) S k (j + 1)) := hide fun z q1 q2 => by
        obtain ⟨m1, m2, m3, m4⟩ := HD.out
        rw [hxe] at q1
        exact hI.next HLT.out HAP.out hx HBD.out.nd (below_alloc wr _).drew m1 m2 m3 m4 q1 q2
      have HO : Hid ((wr.alloc (.cells #[.int .i64 (S.es.getD j e0).1, .int .i64 (S.es.getD j e0).2.1, .int .i64 (S.es.getD j e0).2.2] 56)).drew.ownsMap Try.prog 3 stR bm (S.ls.drop j).length D) := hide (by
        obtain ⟨es, clock, hb, r⟩ := hown
        exact ⟨es, clock, (RowKit.Below.heap_alloc _ _ _ (Array.getElem?_eq_some_iff.1 hb).1).trans hb, r⟩)
      have e4a := cell_alloc (.cells #[.int .i64 (S.es.getD j e0).1, .int .i64 (S.es.getD j e0).2.1, .int .i64 (S.es.getD j e0).2.2] 56) e4
      have n0 : (wr.alloc (.cells #[.int .i64 (S.es.getD j e0).1, .int .i64 (S.es.getD j e0).2.1, .int .i64 (S.es.getD j e0).2.2] 56)).cell? ⟨wr.heap.size, 0, none⟩ = some (.int .i64 (S.es.getD j e0).1) := by rw [cell_of_row _ _ _ _ _ _ (Go.heap_alloc_new wr _)]; rfl
      clear hI hown hDs hD1 hD2 hx hxe HD e4
      generalize (S.es.getD j e0).1 = i0 at *
      generalize (S.es.getD j e0).2.1 = i1 at *
      generalize (S.es.getD j e0).2.2 = i2 at *
      go_wp2_with fail
      refine wp_still_tail 6 (by kernel_rfl) (by kernel_rfl) ?_
      simp only [List.take_succ_cons, List.take_zero, List.drop_succ_cons, List.drop_zero]
      repeat still_step
      refine wpStill_nil ?_
      go_wp2_with (at_delete; refine wpList_delete_own _ rfl _ _ 67 3 rfl 72 kInt Try.underlying67 _ bm _ D rfl HO.out _ (kL i0) rfl (keyI hid) ?_; intro w8 q1 q2; have HI8 := hide (HNX.out _ q1 q2.grown); clear q1 q2)
      go_roundw
      case rel => exact ⟨j + 1, by omega, by go_num, HI8.out⟩
      case measure => simp [intOf]; omega
    · have ej : j = k := by omega
      subst ej
      have HI := hide hI
      clear hI
      go_wp2_with fail
      go_ret
      exact ⟨rfl, HF.out _ HI.out.blk, HI.out.fin HV.out (fun b e => e) fun b o n9 c9 o' n' c' e e2 => by
        simp only [Value.slice.injEq, Option.some.injEq, Addr.mk.injEq, and_true] at e e2
        omega⟩
end Go.Proofs.Ytcdmkbjibcahcab
