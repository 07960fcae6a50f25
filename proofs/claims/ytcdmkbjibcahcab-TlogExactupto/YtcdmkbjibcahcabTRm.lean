import Derived.Test.YtcdmkbjibcahcabTRl
import Derived.Test.YtcdmkbjibcahcabTAck
import Derived.Test.YtcdmkbjibcahcabTUm
namespace Go.Proofs.Ytcdmkbjibcahcab
open Go.RowKit
set_option linter.unusedVariables false
set_option linter.unusedSimpArgs false
set_option maxRecDepth 20000

/-- the document's log has turned -/
structure DT (w w' : World) (q : Nat) (v v' : Value) (S' : LS) : Prop where
  l : DL w' q v' S'
  chg : Chg (fun g => g = q ∨ v.ownBlock = some g) w w'
  loc : ∀ g, v'.ownBlock = some g → v.ownBlock = some g ∨ w.heap.size ≤ g
section
variable {w w' : World} {q : Nat} {v v' : Value} {S : LS}
theorem DL.lt (h : DL w q v S) : q < w.heap.size := (Array.getElem?_eq_some_iff.1 h.row).1
theorem DL.vlt (h : DL w q v S) {g : Nat} (e : v.ownBlock = some g) : g < w.heap.size := (World.ownsRow.lt h.own g e).2
theorem DL.below (h : DL w q v S) (hb : Below w.heap.size w w') : DL w' q v S := h.kept fun g e => hb.block g (by rcases e with rfl | e; exact h.lt; exact h.vlt e)
theorem DRow.cellsOf {l : Ls} (h : DRow w v l) {g : Nat} (e : v.ownBlock = some g) : ∃ cs, w.heap[g]? = some (.cells cs 64 (0, 0)) := by
  have h' : w.ownsRow 0 64 4 v l.length (lnvs l) := h
  rcases h'.2 with ⟨rfl, hz⟩ | ⟨g', cap, cur, rfl, _, hg, _⟩
  · simp [Value.ownBlock] at e
  · simp only [Value.ownBlock, Option.some.injEq] at e
    subst e
    exact ⟨cur, hg⟩
theorem DL.vq (h : DL w q v S) : v.ownBlock ≠ some q := fun e => by
  obtain ⟨cs, hc⟩ := h.own.cellsOf e
  exact neType hc h.row (by decide) rfl
theorem DT.refl (h : DL w q v S) : DT w w q v v S := ⟨h, Chg.refl _ _, fun g e => .inl e⟩
/-- the open epoch's number is written -/
theorem DL.setNow (h : DL w q v S) (k : Nat) : DL (w.setCell ⟨q, 1, none⟩ (.int .i64 (k : Int))) q v { S with now := k } :=
  ⟨Go.heap_setCell_same w q 1 _ 62 _ h.row, rowKept h.own fun g e => Go.heap_setCell_other _ _ _ _ (show g ≠ q from fun e2 => h.vq (e2 ▸ e))⟩
/-- the list of lines is another one -/
theorem DL.setL {z : World} {ls : Ls} (h : DL w q v S) (hz : Below w.heap.size w z) (ho : DRow z v' ls) (hl : ∀ g, v'.ownBlock = some g → w.heap.size ≤ g) : z.cell? ⟨q, 0, none⟩ = some v ∧ z.frozen? ⟨q, 0, none⟩ = false ∧ DT w (z.setCell ⟨q, 0, none⟩ v') q v v' { S with ls := ls } := by
  have hq := h.lt
  have hr := (h.below hz).row
  refine ⟨(h.below hz).c0, (h.below hz).f 0, ⟨Go.heap_setCell_same z q 0 _ 62 _ hr, rowKept ho fun g e => Go.heap_setCell_other _ _ _ _ (show g ≠ q from fun e2 => by have := hl g e; omega)⟩, ⟨hz.os, hz.tape, hz.output, by rw [World.size_setCell]; exact hz.size, fun g hg hn => (Go.heap_setCell_other _ _ _ _ (show g ≠ q from fun e => hn (.inl e))).trans (hz.block g hg)⟩, fun g e => .inr (hl g e)⟩
end
set_option maxHeartbeats 1000000 in
theorem rclose_any {w : World} {q : Nat} {v : Value} {S : LS} (h : DL w q v S) (hl : S.ls.length ≤ 2000) (hn : S.now ≤ 16000000000000) : Calls Try.prog 26 #[.pointer (some ⟨q, 0, none⟩)] w fun e' w' => e' = .returned (.tuple #[.int .i64 (S.now : Int), .int .i64 (ofN S.ls (S.now : Int) : Int), .bool (decide (0 < ofN S.ls (S.now : Int)))]) ∧ DT w w' q v v (if ofN S.ls (S.now : Int) = 0 then S else { S with now := S.now + 1 }) := by
  have HO := hide (rof_any h hl (S.now : Int))
  have c1 := h.c1
  have f1 := h.f 1
  have hb := ofN_le S.ls (S.now : Int)
  have HR := hide (DT.refl h)
  have HN : Hid (DT w (w.setCell ⟨q, 1, none⟩ (.int .i64 ((S.now : Int) + 1))) q v v { S with now := S.now + 1 }) := hide ⟨h.setNow (S.now + 1), ⟨rfl, rfl, rfl, by simp [World.setCell], fun g hg hx => Go.heap_setCell_other _ _ _ _ (show g ≠ q from fun e => hx (.inl e))⟩, fun g e => .inl e⟩
  clear h
  by_cases h0 : ofN S.ls (S.now : Int) = 0
  · rw [h0] at HO
    rw [if_pos h0, h0]
    clear hb h0 HN
    go_enter Try.func26, Try.ntmps26
    go_wp2_with (go_at_call 41; refine HO.out.mono ?_; rintro e w2 ⟨rfl, hw⟩; have hw2 := hw.symm; clear hw; subst hw2)
    refine bodyPost_ret (results_tmpT rfl _ _ _) rfl ?_
    exact ⟨rfl, HR.out⟩
  · rw [if_neg h0]
    have hne : (((ofN S.ls (S.now : Int) : Nat) : Int) == 0) = false := by simpa using h0
    have hpos : 0 < ofN S.ls (S.now : Int) := by omega
    generalize ofN S.ls (S.now : Int) = k at *
    go_enter Try.func26, Try.ntmps26
    go_wp2_with (go_at_call 41; refine HO.out.mono ?_; rintro e w2 ⟨rfl, hw⟩; have hw2 := hw.symm; clear hw; subst hw2)
    refine bodyPost_ret (results_tmpT rfl _ _ _) rfl ?_
    exact ⟨by simp [hpos], HN.out⟩
/-- a new list of writes -/
structure NE (w wr : World) (ov : Value) (l : List En) : Prop where
  bel : Below w.heap.size w wr
  row : ERow wr ov l
  new : ∀ g, ov.ownBlock = some g → w.heap.size ≤ g
theorem NE.nil (w : World) : NE w w (.slice none 0 0) [] := ⟨Below.refl _ _, ERow.nil w, fun g e => by simp [Value.ownBlock] at e⟩
theorem NE.calm {w wr z : World} {ov : Value} {l : List En} (h : NE w wr ov l) (hb : Below wr.heap.size wr z) : NE w z ov l := ⟨h.bel.trans (hb.mono h.bel.size), h.row.below hb, h.new⟩
theorem NE.app {w wr z : World} {ov ov' : Value} {l l' : List En} (h : NE w wr ov l) (ho : ERow z ov' l') (ha : App wr z ov ov') : NE w z ov' l' := by
  have hs := h.bel.size
  refine ⟨h.bel.trans (ha.chg.below hs h.new), ho, fun g e => ?_⟩
  rcases ha.loc g e with e | e
  · exact h.new g e
  · omega
theorem new_en (w : World) (x : En) : ∀ j u, (evs [x])[j]? = some u → (w.alloc (.cells #[.int .i64 x.1, .int .i64 x.2.1, .int .i64 x.2.2] 56)).cell? ((⟨w.heap.size, 0, none⟩ : Addr).add j) = some u := fun j u h => by
  have : (w.alloc (.cells #[.int .i64 x.1, .int .i64 x.2.1, .int .i64 x.2.2] 56)).heap[w.heap.size]? = some (.cells #[.int .i64 x.1, .int .i64 x.2.1, .int .i64 x.2.2] 56 (0, 0)) := Go.heap_alloc_new _ _
  rw [Addr.add_lit, cell_of_row _ _ _ _ _ _ this]
  simpa [evs, eV] using h
theorem take_es (l : Ls) {k : Nat} (hk : k < l.length) : (l.take (k + 1)).map Prod.fst = (l.take k).map Prod.fst ++ [(l.getD k l0).1] := by
  have hg : l.getD k l0 = l[k] := by simp [List.getD, hk]
  have ht : l.take (k + 1) = l.take k ++ [l.getD k l0] := by
    rw [hg, List.take_add_one, List.getElem?_eq_getElem hk]
    rfl
  rw [ht, List.map_append]
  rfl
def FailP (w : World) (q : Nat) (v : Value) (S : LS) (e : Ending) (w' : World) : Prop := ∃ lv, e = .returned lv ∧ DT w w' q v (.slice none 0 0) { S with ls := [], now := 1 } ∧ ERow w' lv S.es ∧ ∀ g, lv.ownBlock = some g → w.heap.size ≤ g
set_option maxHeartbeats 1000000 in
theorem rfail_any {w : World} {q : Nat} {v : Value} {S : LS} (h : DL w q v S) (hl : S.ls.length ≤ 2000) : Calls Try.prog 33 #[.pointer (some ⟨q, 0, none⟩)] w (FailP w q v S) := by
  obtain ⟨a, c, rfl, b1, b2, -⟩ := h.own.form
  unfold maxLen at b2
  have HD := hide h
  have HCC : Hid (∀ wr, Below w.heap.size w wr → wr.cell? ⟨q, 0, none⟩ = some (.slice a S.ls.length c) ∧ wr.frozen? ⟨q, 0, none⟩ = false ∧ ∀ j, j < S.ls.length → ∃ g, a = some ⟨g, 0, none⟩ ∧ wr.cell? ⟨g, j * 4, none⟩ = some (.int .i64 (S.ls.getD j l0).1.1) ∧ wr.cell? ⟨g, j * 4 + 1, none⟩ = some (.int .i64 (S.ls.getD j l0).1.2.1) ∧ wr.cell? ⟨g, j * 4 + 2, none⟩ = some (.int .i64 (S.ls.getD j l0).1.2.2)) := hide fun wr hb => by
    have hx := HD.out.below hb
    obtain ⟨a', c', e, -, -, hc⟩ := hx.own.form
    injection e with e1 e2 e3
    subst e1
    refine ⟨hx.c0, hx.f 0, fun j hj => ?_⟩
    obtain ⟨g, e, h1, h2, h3, -⟩ := hc j hj
    exact ⟨g, e, h1, h2, h3⟩
  have HT := hide fun (k : Nat) (hk : k < S.ls.length) => take_es S.ls hk
  have HE : Hid ((S.ls.take S.ls.length).map Prod.fst = S.es) := hide (by rw [List.take_length]; rfl)
  have HN0 : Hid (NE w w (.slice none 0 0) ((S.ls.take 0).map Prod.fst)) := hide (NE.nil w)
  have HLN : Hid (∀ k, ((S.ls.take k).map Prod.fst).length ≤ 2000) := hide fun k => by rw [List.length_map, List.length_take]; omega
  obtain ⟨c0, -, -⟩ := HCC.out w (Below.refl _ _)
  clear h
  generalize hn : S.ls.length = n at *
  clear hn
  go_enter Try.func33, Try.ntmps33
  go_wp2_with fail
  go_loopw [3, 4] (fun x y wr => ∃ k : Nat, k ≤ n ∧ y = .int .i64 (k : Int) ∧ Hid (NE w wr x ((S.ls.take k).map Prod.fst))) (fun _ y _ => n - (intOf y).toNat)
  case atStart => exact ⟨0, Nat.zero_le _, rfl, HN0⟩
  case round =>
    clear HN0 c0
    obtain ⟨k, hk, rfl, HN⟩ := hrel
    obtain ⟨w2, hw2⟩ : ∃ w2, wr = w2 := ⟨_, rfl⟩
    rw [hw2] at HN ⊢
    clear hw2
    obtain ⟨c0, f0, hcl⟩ := HCC.out _ HN.out.bel
    by_cases hlt : k < n
    · have hli : (k : Int) < (n : Int) := by omega
      obtain ⟨g, rfl, d0, d1, d2⟩ := hcl k hlt
      have HT2 := hide (HT.out k hlt)
      have hln := HLN.out k
      clear hcl HCC HLN HT
      generalize (S.ls.getD k l0).1 = z at *
      obtain ⟨z0, z1, z2⟩ := z
      dsimp only at d0 d1 d2
      generalize (S.ls.take k).map Prod.fst = A at *
      have HN1 := hide (HN.out.calm (below_alloc w2 (.cells #[.int .i64 z0, .int .i64 z1, .int .i64 z2] 56)))
      go_wp2_with (at_builtin; refine wpList_appendE _ rfl (.tmp 14) (.tmp 23) rfl _ _ rfl HN1.out.row ⟨w2.heap.size, 0, none⟩ 1 [(z0, z1, z2)] (by simp) rfl (new_en w2 (z0, z1, z2)) (by simp; omega) ?_; intro v4 w3 ho3 ha3; have HN2 := hide (HN1.out.app ho3 ha3); clear ho3 ha3 HN1)
      go_roundw
      case rel => exact ⟨k + 1, by omega, by go_num, hide (by rw [HT2.out]; exact HN2.out)⟩
      case measure => simp [intOf]; omega
    · have ek : k = n := by omega
      have HN3 : Hid (NE w w2 u3 S.es) := hide (by have := HN.out; rwa [ek, HE.out] at this)
      have hli : ¬ (k : Int) < (n : Int) := by omega
      clear hcl HCC HLN HT HN ek
      obtain ⟨y0, y1, hdt⟩ := HD.out.setL (ls := []) (v' := .slice none 0 0) HN3.out.bel ⟨rfl, .inl ⟨rfl, rfl⟩⟩ (fun g e => by simp [Value.ownBlock] at e)
      have HDT := hide hdt
      have y2 := hdt.l.c1
      have y3 := hdt.l.f 1
      have HFN : Hid (FailP w q (.slice a n c) S (.returned u3) ((w2.setCell ⟨q, 0, none⟩ (.slice none 0 0)).setCell ⟨q, 1, none⟩ (.int .i64 1))) := hide (by
        refine ⟨u3, rfl, ⟨HDT.out.l.setNow 1, ?_, HDT.out.loc⟩, ?_, HN3.out.new⟩
        · exact ⟨HDT.out.chg.os, HDT.out.chg.tape, HDT.out.chg.output, by rw [World.size_setCell]; exact HDT.out.chg.size, fun g hg hx => (Go.heap_setCell_other _ _ _ _ (show g ≠ q from fun e => hx (.inl e))).trans (HDT.out.chg.keep g hg hx)⟩
        · have hq := HD.out.lt
          exact HN3.out.row.kept fun g e => by
            have := HN3.out.new g e
            exact (Go.heap_setCell_other _ _ _ _ (show g ≠ q by omega)).trans (Go.heap_setCell_other _ _ _ _ (show g ≠ q by omega)))
      clear hdt HDT
      go_wp2_with fail
      go_ret
      exact HFN.out
set_option maxHeartbeats 1000000 in
theorem runa_any {w : World} {q : Nat} {v : Value} {S : LS} (h : DL w q v S) (hl : S.ls.length ≤ 2000) : Calls Try.prog 19 #[.pointer (some ⟨q, 0, none⟩)] w fun e w' => ∃ lv, e = .returned lv ∧ NE w w' lv (una S.ls) := by
  obtain ⟨a, c, rfl, b1, b2, -⟩ := h.own.form
  unfold maxLen at b2
  have HD := hide h
  have HCC : Hid (∀ wr, Below w.heap.size w wr → wr.cell? ⟨q, 0, none⟩ = some (.slice a S.ls.length c) ∧ ∀ j, j < S.ls.length → ∃ g, a = some ⟨g, 0, none⟩ ∧ wr.cell? ⟨g, j * 4, none⟩ = some (.int .i64 (S.ls.getD j l0).1.1) ∧ wr.cell? ⟨g, j * 4 + 1, none⟩ = some (.int .i64 (S.ls.getD j l0).1.2.1) ∧ wr.cell? ⟨g, j * 4 + 2, none⟩ = some (.int .i64 (S.ls.getD j l0).1.2.2) ∧ wr.cell? ⟨g, j * 4 + 3, none⟩ = some (.bool (S.ls.getD j l0).2)) := hide fun wr hb => by
    have hx := HD.out.below hb
    obtain ⟨a', c', e, -, -, hc⟩ := hx.own.form
    injection e with e1 e2 e3
    subst e1
    exact ⟨hx.c0, hc⟩
  have HT : Hid (∀ k, k < S.ls.length → una (S.ls.take (k + 1)) = if (S.ls.getD k l0).2 then una (S.ls.take k) else una (S.ls.take k) ++ [(S.ls.getD k l0).1]) := hide fun k hk => by
    have hg : S.ls.getD k l0 = S.ls[k] := by simp [List.getD, hk]
    have ht : S.ls.take (k + 1) = S.ls.take k ++ [S.ls.getD k l0] := by
      rw [hg, List.take_add_one, List.getElem?_eq_getElem hk]
      rfl
    rw [ht]
    unfold una
    rw [List.filter_append, List.map_append]
    generalize S.ls.getD k l0 = z
    obtain ⟨x, b⟩ := z
    cases b <;> simp
  have HE : Hid (una (S.ls.take S.ls.length) = una S.ls) := hide (by rw [List.take_length])
  have HN0 : Hid (NE w w (.slice none 0 0) (una (S.ls.take 0))) := hide (NE.nil w)
  have HLN : Hid (∀ k, (una (S.ls.take k)).length ≤ 2000) := hide fun k => by
    have := una_le (S.ls.take k)
    rw [List.length_take] at this
    omega
  obtain ⟨c0, -⟩ := HCC.out w (Below.refl _ _)
  clear h
  generalize hn : S.ls.length = n at *
  clear hn
  go_enter Try.func19, Try.ntmps19
  go_wp2_with fail
  go_loopw [3, 4] (fun x y wr => ∃ k : Nat, k ≤ n ∧ y = .int .i64 (k : Int) ∧ Hid (NE w wr x (una (S.ls.take k)))) (fun _ y _ => n - (intOf y).toNat)
  case atStart => exact ⟨0, Nat.zero_le _, rfl, HN0⟩
  case round =>
    clear HN0 c0
    obtain ⟨k, hk, rfl, HN⟩ := hrel
    obtain ⟨w2, hw2⟩ : ∃ w2, wr = w2 := ⟨_, rfl⟩
    rw [hw2] at HN ⊢
    clear hw2
    obtain ⟨c0, hcl⟩ := HCC.out _ HN.out.bel
    by_cases hlt : k < n
    · have hli : (k : Int) < (n : Int) := by omega
      obtain ⟨g, rfl, d0, d1, d2, d3⟩ := hcl k hlt
      have ht2 := HT.out k hlt
      have hln := HLN.out k
      clear hcl HCC HLN HT
      generalize S.ls.getD k l0 = z at *
      obtain ⟨⟨z0, z1, z2⟩, zb⟩ := z
      dsimp only at d0 d1 d2 d3 ht2
      cases zb with
      | true =>
        rw [if_pos rfl] at ht2
        have HT2 := hide ht2
        clear ht2 d0 d1 d2
        go_wp2_with fail
        go_roundw
        case rel => exact ⟨k + 1, by omega, by go_num, hide (by rw [HT2.out]; exact HN.out)⟩
        case measure => simp [intOf]; omega
      | false =>
        rw [if_neg (by simp)] at ht2
        have HT2 := hide ht2
        clear ht2
        generalize una (S.ls.take k) = A at *
        have HN1 := hide (HN.out.calm (below_alloc w2 (.cells #[.int .i64 z0, .int .i64 z1, .int .i64 z2] 56)))
        go_wp2_with (at_builtin; refine wpList_appendE _ rfl (.tmp 23) (.tmp 32) rfl _ _ rfl HN1.out.row ⟨w2.heap.size, 0, none⟩ 1 [(z0, z1, z2)] (by simp) rfl (new_en w2 (z0, z1, z2)) (by simp; omega) ?_; intro v4 w3 ho3 ha3; have HN2 := hide (HN1.out.app ho3 ha3); clear ho3 ha3 HN1)
        go_roundw
        case rel => exact ⟨k + 1, by omega, by go_num, hide (by rw [HT2.out]; exact HN2.out)⟩
        case measure => simp [intOf]; omega
    · have ek : k = n := by omega
      have HN3 : Hid (NE w w2 u3 (una S.ls)) := hide (by have := HN.out; rwa [ek, HE.out] at this)
      have hli : ¬ (k : Int) < (n : Int) := by omega
      clear hcl HCC HLN HT HN ek
      go_wp2_with fail
      go_ret
      exact ⟨_, rfl, HN3.out⟩
end Go.Proofs.Ytcdmkbjibcahcab
