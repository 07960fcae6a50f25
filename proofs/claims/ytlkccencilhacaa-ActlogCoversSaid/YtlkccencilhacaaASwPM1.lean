import Derived.Test.YtlkccencilhacaaASwPM0
import Derived.Test.YtlkccencilhacaaARpM
import Derived.Test.YtlkccencilhacaaALogA
import Derived.Test.YtlkccencilhacaaARing
import Derived.Test.YtlkccencilhacaaAArgK
import Derived.Test.YtlkccencilhacaaAKpW
import Derived.Test.YtlkccencilhacaaAKpT
namespace Go.Proofs.Ytlkccencilhacaa
open Go.RowKit Go.Sort
open Num
set_option linter.unusedVariables false
set_option linter.unusedSimpArgs false
set_option maxRecDepth 20000

/-- a ring in memory: a list of lists, each in memory of its own, all from lo on -/
structure RgV (x : World) (lo : Nat) (rv : Value) (bs : List (List Nat)) (vs : List Value) : Prop where
  row : x.ownsRow 0 23 1 rv vs.length vs
  own : ∀ b, rv.ownBlock = some b → lo ≤ b
  len : vs.length = bs.length
  ub : ∀ k, k < bs.length → UB x lo (vs.getD k undef) (bs.getD k [])
theorem RgV.keep {x y : World} {lo : Nat} {rv : Value} {bs : List (List Nat)} {vs : List Value} (h : RgV x lo rv bs vs) (h1 : ∀ g, rv.ownBlock = some g → y.heap[g]? = x.heap[g]?) (h2 : ∀ (g : Nat) (cs : Array Value), x.heap[g]? = some (.cells cs 5 (0, 0)) → y.heap[g]? = x.heap[g]?) : RgV y lo rv bs vs :=
  ⟨rowKept h.row h1, h.own, h.len, fun k hk => (h.ub k hk).keep fun g hg => by obtain ⟨cs, hc⟩ := (h.ub k hk).block hg; exact h2 g cs hc⟩
theorem RgV.below {x y : World} {lo : Nat} {rv : Value} {bs : List (List Nat)} {vs : List Value} (h : RgV x lo rv bs vs) (hb : Below x.heap.size x y) : RgV y lo rv bs vs :=
  h.keep (fun g hg => by obtain ⟨cs, hc⟩ := rowCells h.row hg; exact hb.block _ (Array.getElem?_eq_some_iff.1 hc).1) fun g cs hc => hb.block _ (Array.getElem?_eq_some_iff.1 hc).1
theorem RgV.push {x w6 : World} {lo : Nat} {ov v' y : Value} {bs : List (List Nat)} {vs : List Value} {l : List Nat} {o : Obj} (h : RgV x lo ov bs vs) (hy : UB x lo y l) (hlo : lo ≤ x.heap.size) (ho : w6.ownsRow 0 23 1 v' (vs.length + 1) (vs ++ [y])) (hu : Upon (x.alloc o) w6 ov v') : RgV w6 lo v' (bs ++ [l]) (vs ++ [y]) := by
  have hb0 := (Below.refl x.heap.size x).alloc (Nat.le_refl _) o
  have h2 : ∀ (g : Nat) (cs : Array Value), x.heap[g]? = some (.cells cs 5 (0, 0)) → w6.heap[g]? = x.heap[g]? := fun g cs hc => by
    have hlt := (Array.getElem?_eq_some_iff.1 hc).1
    rw [hu.block g (by simp; omega) (fun e => ?_)]
    · exact hb0.block g hlt
    · obtain ⟨ds, hd⟩ := rowCells h.row e
      exact neType hc hd (by decide) rfl
  refine ⟨by rw [List.length_append]; exact ho, fun b e => ?_, by simp [h.len], fun k hk => ?_⟩
  · rcases hu.loc b e with h1 | h1
    · exact h.own b h1
    · rw [h1]; simp; omega
  · by_cases e : k < bs.length
    · have q := (h.ub k e).keep (y := w6) fun g hg => by obtain ⟨cs, hc⟩ := (h.ub k e).block hg; exact h2 g cs hc
      have e1 : (vs ++ [y]).getD k undef = vs.getD k undef := by simp only [List.getD]; rw [List.getElem?_append_left (by rw [h.len]; exact e)]
      have e2 : (bs ++ [l]).getD k [] = bs.getD k [] := by simp only [List.getD]; rw [List.getElem?_append_left e]
      rw [e1, e2]; exact q
    · have hk0 : k = bs.length := by simp at hk; omega
      have e1 : (vs ++ [y]).getD k undef = y := by simp only [List.getD]; rw [List.getElem?_append_right (by rw [h.len]; omega), show k - vs.length = 0 by rw [h.len]; omega]; rfl
      have e2 : (bs ++ [l]).getD k [] = l := by simp only [List.getD]; rw [List.getElem?_append_right (by omega), show k - bs.length = 0 by omega]; rfl
      rw [e1, e2]
      exact hy.keep fun g hg => by obtain ⟨cs, hc⟩ := hy.block hg; exact h2 g cs hc
theorem RgV.sl {x : World} {lo : Nat} {rv : Value} {bs : List (List Nat)} {vs : List Value} (h : RgV x lo rv bs vs) (hn : 1 ≤ bs.length) : RSl x rv bs := by
  rcases h.row.2 with ⟨rfl, h0⟩ | ⟨g, cap, cur, rfl, hg, hh, h1, h2, h3, h4⟩
  · have := h.len; omega
  · refine ⟨g, 0, cap, by rw [h.len], by rw [← h.len]; exact h1, h2, fun i hi => ⟨vs.getD i undef, ?_, (h.ub i hi).sl⟩⟩
    rw [Nat.zero_add, h.row.cellAt i (by rw [h.len]; omega)]
    rw [List.getD_eq_getElem?_getD, List.getElem?_eq_getElem (by rw [h.len]; exact hi)]; rfl
theorem new1 (w : World) (v : Value) (t : TypeId) : ∀ j u, [v][j]? = some u → (w.alloc (.cells #[v] t)).cell? ((⟨w.heap.size, 0, none⟩ : Addr).add j) = some u := fun j u hj => by
  have hj0 : j = 0 := by have := (List.getElem?_eq_some_iff.1 hj).1; simp at this; omega
  subst hj0
  rw [Addr.add_lit, Nat.zero_add, cell_of_row _ _ _ _ _ _ (Go.heap_alloc_new w (.cells #[v] t))]
  exact hj
theorem RgV.pushB {w x w6 : World} {ov v' : Value} {bs : List (List Nat)} {vs : List Value} {o : Obj} (h : RgV x w.heap.size ov bs vs) (hb : Below w.heap.size w x) (hu : Upon (x.alloc o) w6 ov v') : Below w.heap.size w w6 := by
  obtain ⟨e1, e2, e3⟩ := hu.same
  have hb0 := hb.alloc hb.size o
  refine ⟨e1.trans hb0.os, e2.trans hb0.tape, e3.trans hb0.output, Nat.le_trans hb0.size hu.size, fun b hb' => ?_⟩
  rw [hu.block b (by have := hb.size; simp; omega) (fun e => by have := h.own b e; omega)]
  exact hb0.block b hb'
theorem info_bys : (Try.prog.info? 23).map (fun i => (i.zero, i.size, i.bytes)) = some (some (.slice none 0 0), 1, 24) := by kernel_rfl
theorem UB.form {x : World} {lo : Nat} {v : Value} {l : List Nat} (h : UB x lo v l) : ∃ a cap, v = .slice a l.length cap := by
  obtain ⟨a, cap, e, -⟩ := rowForm h.row; exact ⟨a, cap, e⟩
set_option maxHeartbeats 2000000 in
theorem given_any {w : World} {px lo : Nat} {rv : Value} {bs : List (List Nat)} {vs : List Value} (hp : ∃ cs, w.heap[px]? = some (.cells cs 45 (0, 0)) ∧ cs[5]? = some rv) (h : RgV w lo rv bs vs) (hn1 : 1 ≤ bs.length) (hn4 : bs.length ≤ 4) (hl : ∀ k, (bs.getD k []).length ≤ 1024) :
    Calls Try.prog 21 #[.pointer (some ⟨px, 0, none⟩)] w fun e w' => ∃ v' vs', e = .returned v' ∧ RgV w' w.heap.size v' bs vs' ∧ Below w.heap.size w w' := by
  obtain ⟨cs, hp1, hp2⟩ := hp
  obtain ⟨i0, hi, hz0, hz1, hz2⟩ := info_parts info_bys
  obtain ⟨rg, rcap, rfl, hrc⟩ : ∃ rg rcap, rv = .slice (some ⟨rg, 0, none⟩) bs.length rcap ∧ bs.length ≤ rcap := by
    rcases h.row.2 with ⟨e, e2⟩ | ⟨g', cap', cur, e, _, _, h1, _⟩
    · have := h.len; omega
    · rw [h.len] at e h1; exact ⟨g', cap', e, h1⟩
  have hpl := (Array.getElem?_eq_some_iff.1 hp1).1
  have HPX : Hid (∀ x, Below w.heap.size w x → x.cell? ⟨px, 5, none⟩ = some (.slice (some ⟨rg, 0, none⟩) bs.length rcap)) := hide fun x hx => by rw [cell_of_row _ _ _ _ _ _ ((hx.block _ hpl).trans hp1)]; exact hp2
  have HUB : Hid (∀ x, Below w.heap.size w x → ∀ i, i < bs.length → ∃ a c, x.cell? ⟨rg, i, none⟩ = some (.slice a (bs.getD i []).length c) ∧ BSl x (.slice a (bs.getD i []).length c) (bs.getD i [])) := hide fun x hx i hi => by
    have h' := h.below hx
    have hub := h'.ub i hi
    obtain ⟨ya, ycap, hye⟩ := hub.form
    refine ⟨ya, ycap, ?_, by rw [← hye]; exact hub.sl⟩
    have hr := h'.row
    rw [h.len] at hr
    rw [← hye, hr.cellAt i (by omega), List.getD_eq_getElem?_getD, List.getElem?_eq_getElem (by rw [h.len]; exact hi)]; rfl
  have HLL := hide hl
  have HW0 : Hid (RgV w w.heap.size (.slice none 0 0) (bs.take 0) []) := hide ⟨⟨rfl, .inl ⟨rfl, rfl⟩⟩, fun b e => by simp [Value.ownBlock] at e, by simp, fun k hk => by simp at hk⟩
  have HTK : Hid (∀ i, i < bs.length → bs.take (i + 1) = bs.take i ++ [bs.getD i []]) := hide fun i hi => by
    rw [List.take_succ_eq_append_getElem hi, List.getD_eq_getElem?_getD, List.getElem?_eq_getElem hi]; rfl
  have HTL : Hid (∀ i, i ≤ bs.length → (bs.take i).length = i) := hide fun i hi => by rw [List.length_take]; omega
  have HTA : Hid (bs.take bs.length = bs) := hide (List.take_length)
  clear hp1 hp2 h hl hpl
  generalize hn : bs.length = n at *
  clear hn
  go_enter Try.func21, Try.ntmps21
  go_wp2_with fail
  go_loopw [3, 4] (fun ov x wr => ∃ i : Nat, ∃ us, i ≤ n ∧ x = .int .i64 (i : Int) ∧ RgV wr w.heap.size ov (bs.take i) us ∧ Below w.heap.size w wr) (fun _ x _ => n - (intOf x).toNat)
  case atStart => exact ⟨0, [], Nat.zero_le _, rfl, HW0.out, Below.refl _ _⟩
  case round =>
    clear HW0
    obtain ⟨i, us, hin, rfl, hrv, hb⟩ := hrel
    have c5 := HPX.out _ hb
    have HRV := hide hrv
    have HB := hide hb
    have husl : us.length = i := by rw [hrv.len, HTL.out i hin]
    obtain ⟨oa, ocap, rfl, -, -⟩ := rowForm hrv.row
    clear hrv hb
    by_cases hlt : i < n
    · have hil : (i : Int) < (n : Int) := by omega
      obtain ⟨ya, ycap, ck, hbs⟩ := HUB.out _ HB.out i hlt
      have HCP := hide (copied_any _ _ wr hbs (by have := HLL.out i; omega))
      have HT1 := hide (HTK.out i hlt)
      clear hbs
      generalize (bs.getD i []).length = LL at *
      generalize bs.getD i [] = bl at *
      have HUS := hide husl
      rw [husl] at HRV ⊢
      clear husl
      have HOW : Hid (∀ (x : World) (o : Obj), RgV x w.heap.size (.slice oa i ocap) (bs.take i) us → (x.alloc o).ownsRow 0 23 1 (.slice oa i ocap) i us) := hide fun x o hx => by have := (hx.below ((Below.refl _ _).alloc (Nat.le_refl _) o)).row; rw [HUS.out] at this; exact this
      have HOB : Hid (∀ (x : World) (v6 : Value) (y : Value), x.ownsRow 0 23 1 v6 (i + 1) (us ++ [y]) → x.ownsRow 0 23 1 v6 (us.length + 1) (us ++ [y])) := hide fun x v6 y h => by rw [HUS.out]; exact h
      go_wp2_with (first
        | (go_at_call 8; refine HCP.out.mono ?_; rintro e w1 ⟨y, rfl, hy, hby⟩; obtain ⟨y1, y2, rfl⟩ := hy.form; have HY := hide (hy.mono HB.out.size); have HR1 := hide (HRV.out.below hby); have HB1 := hide (HB.out.trans (hby.mono HB.out.size)); clear hy hby HCP)
        | (at_builtin; refine wpList_append1 _ rfl (.tmp 14) (.tmp 23) 22 rfl 23 i0 (.slice none 0 0) 24 Try.underlying22 hi hz0 hz1 hz2 rfl (.slice oa i ocap) i us rfl (HOW.out _ _ HR1.out) ⟨w1.heap.size, 0, none⟩ 1 (.slice y1 bl.length y2) rfl (new1 w1 (.slice y1 bl.length y2) 23) rfl (by unfold maxLen; omega) (by omega) ?_; intro v6 w6 ho6 hu6; have HN6 := hide (HR1.out.push HY.out HB1.out.size (HOB.out _ _ _ ho6) hu6); have HB6 := hide (HR1.out.pushB HB1.out hu6); clear ho6 hu6))
      go_roundw
      case rel => exact ⟨i + 1, us ++ [.slice y1 bl.length y2], by omega, by go_num, by rw [HT1.out]; exact HN6.out, HB6.out⟩
      case measure => simp [intOf]; omega
    · have ei : i = n := by omega
      have HF : Hid (RgV wr w.heap.size (.slice oa us.length ocap) bs us) := hide (by have := HRV.out; rwa [ei, HTA.out] at this)
      clear HRV
      go_wp2_with fail
      go_ret
      exact ⟨_, us, rfl, HF.out, HB.out⟩
end Go.Proofs.Ytlkccencilhacaa
namespace Go.Proofs.Ytlkccencilhacaa
open Go.RowKit Go.Sort
open Num
set_option linter.unusedVariables false
set_option linter.unusedSimpArgs false
set_option maxRecDepth 20000

theorem step_append1 {P : Program} {ops : Array Oper} {o : Oper} {a : Act} {w : World} {K : Act → World → Prop} {Q : Exit → Act → World → Prop} {E : Prop} (hgd : o.guard = none) (s x : Operand) (t : TypeId)
    (ho : o.op = .call { callee := .builtin .append, args := #[s, x], argTypes := #[t, t] })
    (e : TypeId) (i : TypeInfo) (z : Value) (bytes : Nat) (ht : P.underlying t = some (.slice e)) (hi : P.info? e = some i) (hz : i.zero = some z) (hsize : i.size = 1) (hby : i.bytes = bytes) (hzs : z.cells.size = 1)
    (v : Value) (n : Nat) (xs : List Value) (hs : a.eval s = v) (hown : w.ownsRow 0 e 1 v n xs) (ad : Addr) (c : Nat) (y : Value) (hx : a.eval x = .slice (some ad) 1 c) (hnews : ∀ j u, [y][j]? = some u → w.cell? (ad.add j) = some u) (h1 : y.oneCell' = true) (h63 : n + 1 ≤ maxLen) (hbytes : ((n + 1) + (n + 1) / 4 + 192) * bytes ≤ 281474976710656)
    (h : ∀ v' w', w'.ownsRow 0 e 1 v' (n + 1) (xs ++ [y]) → Upon w w' v v' → K (a.put o.dst v') w') :
    if Region.wanted o (yielded ops a.tmps) = true then Oper.wp P o a w K Q else E := by
  have hw : Region.wanted o (yielded ops a.tmps) = true := by simp [Region.wanted, hgd]
  rw [if_pos hw]
  obtain ⟨v', w', hr, h2, h3⟩ := run_append1 (P := P) w t o.type e i z bytes ht hi hz hsize hby hzs v n xs hown ad c y hnews h1 h63 hbytes
  unfold Oper.wp execOp
  simp only [ho, resolve, invoke, builtin, Sem.run_bind, Sem.run_pure, Result.andThen_ok, List.map_toArray, List.map_cons, List.map_nil, hs, hx, hr]
  exact h v' w' h2 h3
/-- a rig: its log, its ring, in a run that began at w0 -/
structure RgD (w0 x : World) (px lp p bm : Nat) (kv rv iv : Value) (S : LS) (n ext size first0 first written : Nat) (gv : Value) (vs : List Value) (bs : List (List Nat)) (wrote : Bool) (i : Nat) : Prop where
  row : x.heap[px]? = some (.cells #[.pointer (some ⟨lp, 0, none⟩), .int .i64 (n : Int), .int .i64 (ext : Int), .int .i64 (size : Int), .int .u32 (first0 : Int), gv, .bool wrote] 45 (0, 0))
  lg : LgR x lp p bm kv rv iv S ext size first written
  ok : S.Ok i
  sl : S.slots = n
  rg : RgV x w0.heap.size gv bs vs
  be : Below w0.heap.size w0 x
  lo : ∀ b, GU lp p bm kv rv iv b → w0.heap.size ≤ b
  po : w0.heap.size ≤ px
  wr : written ≤ i
/-- blocks of another kind are none of the log's -/
theorem LgR.notTy {w : World} {lp p bm : Nat} {kv rv iv : Value} {S : LS} {ext size first written : Nat} (h : LgR w lp p bm kv rv iv S ext size first written) {g : Nat} {cs : Array Value} {t : TypeId} (hc : w.heap[g]? = some (.cells cs t (0, 0))) (h1 : t ≠ 106) (h2 : t ≠ 114) (h3 : t ≠ 3) : ¬ GU lp p bm kv rv iv g := by
  have key : ∀ (v : Value) (n : Nat) (xs : List Value), w.ownsRow 0 3 1 v n xs → v.ownBlock ≠ some g := fun v n xs hv e => by
    obtain ⟨ds, hd⟩ := rowCells hv e
    exact neType hc hd h3 rfl
  rintro (e | e | e | e | e | e)
  · exact neType hc h.row h1 e
  · exact neType hc h.l.row h2 e
  · exact h.l.mp.neCells hc e
  · exact key _ _ _ h.l.ko e
  · exact key _ _ _ h.l.ro e
  · exact key _ _ _ h.l.io e
/-- while rig lays its blank blocks -/
structure RiW (w wr : World) (px lp p bm n ext size first : Nat) (gv : Value) (vs : List Value) (i : Nat) : Prop where
  d : RgD w wr px lp p bm (.slice none 0 0) (.slice none 0 0) (.slice none 0 0) ⟨n, [], [], [], []⟩ n ext size first first 0 gv vs (List.replicate i (List.replicate size 0)) false 0
  box : wr.heap[w.heap.size]? = some (.cells #[.int .i64 (n : Int), .int .i64 (ext : Int), .int .i64 (size : Int), .int .u32 (first : Int)] 35 (0, 0))
theorem UB.zeros (x : World) (lo size : Nat) (hs : size ≤ 65536) (hlo : lo ≤ x.heap.size) : UB (x.alloc (.cells (byts (List.replicate size 0)) 5)) lo (.slice (some ⟨x.heap.size, 0, none⟩) size size) (List.replicate size 0) := by
  refine ⟨⟨by simp, .inr ⟨x.heap.size, size, byts (List.replicate size 0), by simp, hlo, Go.heap_alloc_new _ _, by simp, by unfold maxLen; omega, by simp [byts], by simp [byts]⟩⟩, fun b hb => by have := List.eq_of_mem_replicate hb; omega⟩
/-- one blank block more -/
theorem RiW.more {w wr w6 : World} {px lp p bm n ext size first i : Nat} {gv v6 : Value} {vs : List Value} (h : RiW w wr px lp p bm n ext size first gv vs i) (hs : size ≤ 65536) (ho : w6.ownsRow 0 23 1 v6 (i + 1) (vs ++ [.slice (some ⟨wr.heap.size, 0, none⟩) size size])) (hu : Upon ((wr.alloc (.cells (byts (List.replicate size 0)) 5)).drew.alloc (.cells #[.slice (some ⟨wr.heap.size, 0, none⟩) size size] 23)) w6 gv v6) :
    (w6.cell? ⟨px, 5, none⟩ = some gv ∧ w6.frozen? ⟨px, 5, none⟩ = false) ∧ RiW w (w6.setCell ⟨px, 5, none⟩ v6) px lp p bm n ext size first v6 (vs ++ [.slice (some ⟨wr.heap.size, 0, none⟩) size size]) (i + 1) := by
  have hb0 : Below wr.heap.size wr (wr.alloc (.cells (byts (List.replicate size 0)) 5)).drew := ((Below.refl _ _).alloc (Nat.le_refl _) _).drew
  have hb1 : Below wr.heap.size wr ((wr.alloc (.cells (byts (List.replicate size 0)) 5)).drew.alloc (.cells #[.slice (some ⟨wr.heap.size, 0, none⟩) size size] 23)) := hb0.alloc hb0.size _
  have keep : ∀ (g : Nat), g < wr.heap.size → gv.ownBlock ≠ some g → w6.heap[g]? = wr.heap[g]? := fun g hg hne => by
    rw [hu.block g (by have := hb1.size; omega) hne]
    exact hb1.block g hg
  have hne : ∀ (g : Nat) (cs : Array Value) (t : TypeId), wr.heap[g]? = some (.cells cs t (0, 0)) → t ≠ 23 → w6.heap[g]? = some (.cells cs t (0, 0)) := fun g cs t hc ht => by
    rw [keep g (Array.getElem?_eq_some_iff.1 hc).1 (fun e => ?_)]
    · exact hc
    · obtain ⟨ds, hd⟩ := rowCells h.d.rg.row e
      exact neType hc hd ht rfl
  have hpx := hne px _ _ h.d.row (by decide)
  have hvl : vs.length = i := by rw [h.d.rg.len]; simp
  have hpush := (h.d.rg.below hb0).push (l := List.replicate size 0) ((UB.zeros wr w.heap.size size hs h.d.be.size).keep fun g _ => rfl) (Nat.le_trans h.d.be.size hb0.size) (by rw [hvl]; exact ho) hu
  rw [← List.replicate_succ'] at hpush
  have hbe : Below w.heap.size w w6 := by
    obtain ⟨e1, e2, e3⟩ := hu.same
    have hb2 := h.d.be.trans (hb1.mono h.d.be.size)
    refine ⟨e1.trans hb2.os, e2.trans hb2.tape, e3.trans hb2.output, Nat.le_trans hb2.size hu.size, fun b hb => ?_⟩
    rw [keep b (by have := h.d.be.size; omega) (fun e => by have := h.d.rg.own b e; omega)]
    exact h.d.be.block b hb
  have hset : ∀ (g : Nat), g ≠ px → (w6.setCell ⟨px, 5, none⟩ v6).heap[g]? = w6.heap[g]? := fun g hg => Go.heap_setCell_other _ _ _ _ hg
  refine ⟨⟨cell_of_row _ _ _ _ _ _ hpx, frozen_of_row _ _ _ _ 45 hpx⟩, ⟨⟨?_, ?_, h.d.ok, h.d.sl, ?_, ?_, h.d.lo, h.d.po, h.d.wr⟩, ?_⟩⟩
  · rw [Go.heap_setCell_same _ _ _ _ _ _ hpx]; rfl
  · refine h.d.lg.kept fun b e => ?_
    have hbl := h.d.lg.lt b e
    have hbp : b ≠ px := fun e2 => h.d.lg.notTy h.d.row (by decide) (by decide) (by decide) (e2 ▸ e)
    rw [hset b hbp]
    refine keep b hbl fun e2 => ?_
    obtain ⟨ds, hd⟩ := rowCells h.d.rg.row e2
    exact h.d.lg.notTy hd (by decide) (by decide) (by decide) e
  · refine hpush.keep (fun g hg => hset g ?_) fun g cs hc => hset g ?_
    · obtain ⟨ds, hd⟩ := rowCells hpush.row hg
      exact neType hd hpx (by decide)
    · exact neType hc hpx (by decide)
  · refine hbe.trans ⟨rfl, rfl, rfl, by rw [World.size_setCell]; exact Nat.le_refl _, fun b hb => hset b ?_⟩
    have := h.d.po; omega
  · rw [hset _ (neType h.box h.d.row (by decide))]
    exact hne _ _ _ h.box (by decide)
theorem okS (n : Nat) (h1 : 1 ≤ n) (h2 : n ≤ 16) : (⟨n, [], [], [], []⟩ : LS).Ok 0 := by
  exact ⟨h1, h2, Nat.zero_le _, rfl, List.Pairwise.nil, List.Pairwise.nil, fun s => by simp, fun k hk => by simp at hk, fun r hr => by simp at hr, rfl⟩
def RigP (w : World) (n ext size first N : Nat) (e : Ending) (w' : World) : Prop := ∃ px lp p bm gv vs, e = .returned (.tuple #[.pointer (some ⟨px, 0, none⟩), .bool true]) ∧ RgD w w' px lp p bm (.slice none 0 0) (.slice none 0 0) (.slice none 0 0) ⟨n, [], [], [], []⟩ n ext size first first 0 gv vs (List.replicate N (List.replicate size 0)) false 0
set_option maxHeartbeats 4000000 in
theorem rig_any (w : World) (n ext size first N : Nat) (h1 : 1 ≤ n) (h2 : n ≤ 16) (h3 : 1 ≤ ext) (h4 : ext ≤ 1024) (h5 : size = 128 ∨ size = 256 ∨ size = 512 ∨ size = 1024) (hN : (N : Int) = ringN (n : Int)) :
    Calls Try.prog 15 #[.agg #[.int .i64 (n : Int), .int .i64 (ext : Int), .int .i64 (size : Int), .int .u32 (first : Int)]] w (RigP w n ext size first N) := by
  obtain ⟨i0, hi, hz0, hz1, hz2⟩ := info_parts info_bys
  have hN1 : 1 ≤ N ∧ N ≤ 4 := by
    unfold ringN at hN
    rw [if_neg (by omega)] at hN
    split at hN
    · omega
    · split at hN <;> omega
  have HN := hide fun x => logNew_any x n ext size first h1 h2 h3 h4 h5
  have HR := hide fun x => ring_any x (n : Int)
  rw [← hN] at HR
  clear hN
  have HB0 : Hid (Below w.heap.size w (w.alloc (.cells #[.int .i64 (n : Int), .int .i64 (ext : Int), .int .i64 (size : Int), .int .u32 (first : Int)] 35)) ∧ (w.alloc (.cells #[.int .i64 (n : Int), .int .i64 (ext : Int), .int .i64 (size : Int), .int .u32 (first : Int)] 35)).heap[w.heap.size]? = some (.cells #[.int .i64 (n : Int), .int .i64 (ext : Int), .int .i64 (size : Int), .int .u32 (first : Int)] 35 (0, 0))) := hide ⟨(Below.refl _ _).alloc (Nat.le_refl _) _, Go.heap_alloc_new _ _⟩
  have HNM := hide fun x => num_any x 0
  have q2 := ptrL'
  have hNi : (1 : Int) ≤ (N : Int) := by omega
  have hNi2 : (N : Int) ≤ 16 := by omega
  have hNf : ((N : Int) < 1) = False := by simp; omega
  have hNf2 : ((16 : Int) < (N : Int)) = False := by simp; omega
  go_enter Try.func15, Try.ntmps15
  go_wp2_with (first
    | (go_at_call 29; refine (HN.out _).mono ?_; rintro e w1 ⟨lp, hlp, rfl, hlg, hb1⟩; have HLG := hide hlg; have HB1 := hide hb1; have HBX := hide ((hb1.block _ (by simp)).trans HB0.out.2); have k0 : w1.cell? ⟨w.heap.size, 0, none⟩ = some (.int .i64 (n : Int)) := cell_of_row _ _ _ _ _ _ HBX.out; have k1 : w1.cell? ⟨w.heap.size, 1, none⟩ = some (.int .i64 (ext : Int)) := cell_of_row _ _ _ _ _ _ HBX.out; have k2 : w1.cell? ⟨w.heap.size, 2, none⟩ = some (.int .i64 (size : Int)) := cell_of_row _ _ _ _ _ _ HBX.out; have k3 : w1.cell? ⟨w.heap.size, 3, none⟩ = some (.int .u32 (first : Int)) := cell_of_row _ _ _ _ _ _ HBX.out; clear hb1 hlg)
    | (go_at_call 30; refine (HR.out _).mono ?_; rintro e w1 ⟨rfl, rfl⟩)
    | (go_at_call 12; refine (HNM.out _).mono ?_; rintro e w1 ⟨rfl, rfl⟩))
  have HW0 : Hid (RiW w (w1.alloc (.cells #[.pointer (some ⟨lp, 0, none⟩), .int .i64 (n : Int), .int .i64 (ext : Int), .int .i64 (size : Int), .int .u32 (first : Int), .slice none 0 0, .bool false] 45)) w1.heap.size lp (w.heap.size + 1 + 1) (w.heap.size + 1) n ext size first (.slice none 0 0) [] 0) := hide (by
    have hb : Below w.heap.size w w1 := HB0.out.1.trans (HB1.out.mono (by simp))
    have hb2 := (Below.refl w1.heap.size w1).alloc (Nat.le_refl _) (.cells #[.pointer (some ⟨lp, 0, none⟩), .int .i64 (n : Int), .int .i64 (ext : Int), .int .i64 (size : Int), .int .u32 (first : Int), .slice none 0 0, .bool false] 45)
    have hlg := HLG.out
    simp only [World.size_alloc] at hlg
    have hlp' : w.heap.size + 1 ≤ lp := by simpa using hlp
    refine ⟨⟨Go.heap_alloc_new _ _, hlg.below hb2, okS n h1 h2, rfl, ⟨⟨rfl, .inl ⟨rfl, rfl⟩⟩, fun b e => by simp [Value.ownBlock] at e, by simp, fun k hk => by simp at hk⟩, hb.trans (hb2.mono hb.size), fun b e => ?_, hb.size, Nat.le_refl _⟩, (hb2.block _ (by have := (Array.getElem?_eq_some_iff.1 HBX.out).1; exact this)).trans HBX.out⟩
    rcases e with e | e | e | e | e | e
    · omega
    · omega
    · omega
    · simp [Value.ownBlock] at e
    · simp [Value.ownBlock] at e
    · simp [Value.ownBlock] at e)
  clear HN HR HNM HB0 HB1 HLG HBX k0 k1 k2 k3 hNi hNi2 hNf hNf2 q2
  generalize w1.alloc (.cells #[.pointer (some ⟨lp, 0, none⟩), .int .i64 (n : Int), .int .i64 (ext : Int), .int .i64 (size : Int), .int .u32 (first : Int), .slice none 0 0, .bool false] 45) = w2 at *
  generalize hpx : w1.heap.size = px at *
  clear hpx
  have hmk := fun W : World => run_byts size (by omega) W
  go_loopw [8] (fun x wr => ∃ i : Nat, ∃ gv vs, i ≤ N ∧ x = .int .i64 (i : Int) ∧ RiW w wr px lp (w.heap.size + 1 + 1) (w.heap.size + 1) n ext size first gv vs i) (fun x _ => N - (intOf x).toNat)
  case atStart => exact ⟨0, _, _, Nat.zero_le _, rfl, HW0.out⟩
  case round =>
    clear HW0
    obtain ⟨i, gv, vs, hiN, rfl, hri⟩ := hrel
    have HRI := hide hri
    obtain ⟨ga, gcap, rfl, -, -⟩ := rowForm hri.d.rg.row
    have hvl : vs.length = i := by rw [hri.d.rg.len]; simp
    have HVL := hide hvl
    by_cases hlt : i < N
    · have hil : (i : Int) < (N : Int) := by omega
      have c5 : wr.drew.cell? ⟨px, 5, none⟩ = some (.slice ga vs.length gcap) := cell_of_row _ _ _ _ _ _ hri.d.row
      have b2 : wr.drew.cell? ⟨w.heap.size, 2, none⟩ = some (.int .i64 (size : Int)) := cell_of_row _ _ _ _ _ _ hri.box
      rw [hvl] at c5
      have HC5 : Hid (∀ x, Below wr.heap.size wr x → x.cell? ⟨px, 5, none⟩ = some (.slice ga i gcap)) := hide fun x hx => by
        have hlt := (Array.getElem?_eq_some_iff.1 hri.d.row).1
        rw [hx.cell hlt]; exact c5
      have c5a : (wr.alloc (.cells (byts (List.replicate size 0)) 5)).drew.cell? ⟨px, 5, none⟩ = some (.slice ga i gcap) := HC5.out _ ((Below.refl _ _).alloc (Nat.le_refl _) _).drew
      have c5b : ((wr.alloc (.cells (byts (List.replicate size 0)) 5)).alloc (.cells #[.slice (some ⟨wr.heap.size, 0, none⟩) size size] 23)).drew.cell? ⟨px, 5, none⟩ = some (.slice ga i gcap) := HC5.out _ (((Below.refl _ _).alloc (Nat.le_refl _) _).alloc (by simp) _).drew
      clear hri hvl
      have HOW : Hid (((wr.alloc (.cells (byts (List.replicate size 0)) 5)).drew.alloc (.cells #[.slice (some ⟨wr.heap.size, 0, none⟩) size size] 23)).ownsRow 0 23 1 (.slice ga i gcap) i vs) := hide (by
        have := (HRI.out.d.rg.below (((Below.refl _ _).alloc (Nat.le_refl _) (.cells (byts (List.replicate size 0)) 5)).drew.alloc (by simp) (.cells #[.slice (some ⟨wr.heap.size, 0, none⟩) size size] 23))).row
        rw [HVL.out] at this
        exact this)
      have HMO : Hid (∀ w6 v6, w6.ownsRow 0 23 1 v6 (i + 1) (vs ++ [.slice (some ⟨wr.heap.size, 0, none⟩) size size]) → Upon ((wr.alloc (.cells (byts (List.replicate size 0)) 5)).drew.alloc (.cells #[.slice (some ⟨wr.heap.size, 0, none⟩) size size] 23)) w6 (.slice ga i gcap) v6 → _) := hide fun w6 v6 h6 hu6 => RiW.more (by have := HRI.out; rw [HVL.out] at this; exact this) (by omega) h6 hu6
      have HNW : Hid (∀ j u, ([.slice (some ⟨wr.heap.size, 0, none⟩) size size] : List Value)[j]? = some u → ((wr.alloc (.cells (byts (List.replicate size 0)) 5)).drew.alloc (.cells #[.slice (some ⟨wr.heap.size, 0, none⟩) size size] 23)).cell? ((⟨wr.heap.size + 1, 0, none⟩ : Addr).add j) = some u) := hide (by
        have h9 := new1 (wr.alloc (.cells (byts (List.replicate size 0)) 5)).drew (.slice (some ⟨wr.heap.size, 0, none⟩) size size) 23
        rwa [show (wr.alloc (.cells (byts (List.replicate size 0)) 5)).drew.heap.size = wr.heap.size + 1 from World.size_alloc ..] at h9)
      clear HRI
      go_wp2_with fail
      go_region_law (go_loud (first
        | (refine step_append1 rfl (.tmp 52) (.tmp 56) 22 rfl 23 i0 (.slice none 0 0) 24 Try.underlying22 hi hz0 hz1 hz2 rfl (.slice ga i gcap) i vs rfl HOW.out ⟨wr.heap.size + 1, 0, none⟩ 1 (.slice (some ⟨wr.heap.size, 0, none⟩) size size) rfl HNW.out rfl (by unfold maxLen; omega) (by omega) ?_; intro v6 w6 ho6 hu6; obtain ⟨a6, cap6, rfl, -, -⟩ := rowForm ho6; obtain ⟨⟨x5, f5⟩, hri6⟩ := HMO.out w6 _ ho6 hu6; have HR6 := hide hri6; clear hri6 ho6 hu6)))
      all_goals (try go_wp2_with fail)
      all_goals (first | exact ⟨⟨i + 1, _, _, by omega, by go_num, HR6.out⟩, by simp [intOf]; omega⟩ | (go_roundw; case rel => exact ⟨i + 1, _, _, by omega, by go_num, HR6.out⟩; case measure => simp [intOf]; omega))
    · have hif : ¬ (i : Int) < (N : Int) := by omega
      have ei : i = N := by omega
      have HF := hide hri.d
      rw [ei] at HF
      clear hri
      go_wp2_with fail
      go_ret2
      exact ⟨_, _, _, _, _, _, rfl, HF.out⟩
end Go.Proofs.Ytlkccencilhacaa
namespace Go.Proofs.Ytlkccencilhacaa
open Go.RowKit Go.Sort
open Num
set_option linter.unusedVariables false
set_option linter.unusedSimpArgs false
set_option maxRecDepth 20000

section
variable {w0 x y : World} {px lp p bm : Nat} {kv rv iv : Value} {S : LS} {n ext size first0 first written : Nat} {gv : Value} {vs : List Value} {bs : List (List Nat)} {wrote : Bool} {i : Nat}
theorem RgD.below (h : RgD w0 x px lp p bm kv rv iv S n ext size first0 first written gv vs bs wrote i) (hb : Below x.heap.size x y) : RgD w0 y px lp p bm kv rv iv S n ext size first0 first written gv vs bs wrote i :=
  ⟨(hb.block _ (Array.getElem?_eq_some_iff.1 h.row).1).trans h.row, h.lg.below hb, h.ok, h.sl, h.rg.below hb, h.be.trans (hb.mono h.be.size), h.lo, h.po, h.wr⟩
/-- the log turned -/
theorem RgD.turn {kv' rv' iv' : Value} {S' : LS} {written' i' : Nat} (h : RgD w0 x px lp p bm kv rv iv S n ext size first0 first written gv vs bs wrote i) (q1 : LgR y lp p bm kv' rv' iv' S' ext size first written') (q2 : S'.Ok i') (q3 : S'.slots = S.slots) (q5 : Chg (GU lp p bm kv rv iv) x y) (q6 : ∀ b, GU lp p bm kv' rv' iv' b → GU lp p bm kv rv iv b ∨ x.heap.size ≤ b) (q7 : written' ≤ i') : RgD w0 y px lp p bm kv' rv' iv' S' n ext size first0 first written' gv vs bs wrote i' := by
  have hk : ∀ (g : Nat) (cs : Array Value) (t : TypeId), x.heap[g]? = some (.cells cs t (0, 0)) → t ≠ 106 → t ≠ 114 → t ≠ 3 → y.heap[g]? = x.heap[g]? := fun g cs t hc h1 h2 h3 => q5.keep g (Array.getElem?_eq_some_iff.1 hc).1 (h.lg.notTy hc h1 h2 h3)
  refine ⟨(hk _ _ _ h.row (by decide) (by decide) (by decide)).trans h.row, q1, q2, q3.trans h.sl, h.rg.keep (fun g hg => ?_) (fun g cs hc => hk g cs _ hc (by decide) (by decide) (by decide)), h.be.trans (q5.below h.be.size h.lo), fun b e => ?_, h.po, q7⟩
  · obtain ⟨cs, hc⟩ := rowCells h.rg.row hg
    exact hk g cs _ hc (by decide) (by decide) (by decide)
  · rcases q6 b e with e | e
    · exact h.lo b e
    · have := h.be.size; omega
/-- a block of the ring replaced -/
theorem RgD.put (h : RgD w0 x px lp p bm kv rv iv S n ext size first0 first written gv vs bs wrote i) {g k cap : Nat} {v : Value} {l : List Nat} (hg : gv = .slice (some ⟨g, 0, none⟩) bs.length cap) (hk : k < bs.length) (hv : UB x w0.heap.size v l) : RgD w0 (x.setCell ⟨g, k, none⟩ v) px lp p bm kv rv iv S n ext size first0 first written gv (vs.set k v) (bs.set k l) wrote i := by
  subst hg
  obtain ⟨cs, hc⟩ := rowCells h.rg.row (g := g) rfl
  have hset : ∀ b, b ≠ g → (x.setCell ⟨g, k, none⟩ v).heap[b]? = x.heap[b]? := fun b hb => Go.heap_setCell_other _ _ _ _ hb
  have hlo := h.rg.own g rfl
  have hu : ∀ (b : Nat) (ds : Array Value), x.heap[b]? = some (.cells ds 5 (0, 0)) → (x.setCell ⟨g, k, none⟩ v).heap[b]? = x.heap[b]? := fun b ds hd => hset b (neType hd hc (by decide))
  refine ⟨(hset _ (neType h.row hc (by decide))).trans h.row, h.lg.kept fun b e => hset b fun e2 => h.lg.notTy hc (by decide) (by decide) (by decide) (e2 ▸ e), h.ok, h.sl, ⟨?_, h.rg.own, by simp [h.rg.len], fun j hj => ?_⟩, h.be.trans ⟨rfl, rfl, rfl, by rw [World.size_setCell]; exact Nat.le_refl _, fun b hb => hset b (by omega)⟩, h.lo, h.po, h.wr⟩
  · have hr := h.rg.row
    rw [List.length_set]
    rw [h.rg.len] at hr ⊢
    exact row_set hr hk
  · rw [List.length_set] at hj
    by_cases e : j = k
    · subst e
      have e1 : (vs.set j v).getD j undef = v := by simp [List.getD, h.rg.len, hk]
      have e2 : (bs.set j l).getD j [] = l := by simp [List.getD, hk]
      rw [e1, e2]
      exact hv.keep fun b hb => by obtain ⟨ds, hd⟩ := hv.block hb; exact hu b ds hd
    · have e1 : (vs.set k v).getD j undef = vs.getD j undef := by simp [List.getD, Ne.symm e]
      have e2 : (bs.set k l).getD j [] = bs.getD j [] := by simp [List.getD, Ne.symm e]
      rw [e1, e2]
      exact (h.rg.ub j hj).keep fun b hb => by obtain ⟨ds, hd⟩ := (h.rg.ub j hj).block hb; exact hu b ds hd
/-- it has written -/
theorem RgD.setW (h : RgD w0 x px lp p bm kv rv iv S n ext size first0 first written gv vs bs wrote i) (b : Bool) : RgD w0 (x.setCell ⟨px, 6, none⟩ (.bool b)) px lp p bm kv rv iv S n ext size first0 first written gv vs bs b i := by
  have hset : ∀ b', b' ≠ px → (x.setCell ⟨px, 6, none⟩ (.bool b)).heap[b']? = x.heap[b']? := fun b' hb => Go.heap_setCell_other _ _ _ _ hb
  refine ⟨?_, h.lg.kept fun b e => hset b fun e2 => h.lg.notTy h.row (by decide) (by decide) (by decide) (e2 ▸ e), h.ok, h.sl, h.rg.keep (fun g hg => ?_) (fun g cs hc => hset g (neType hc h.row (by decide))), h.be.trans ⟨rfl, rfl, rfl, by rw [World.size_setCell]; exact Nat.le_refl _, fun b hb => hset b (by have := h.po; omega)⟩, h.lo, h.po, h.wr⟩
  · rw [Go.heap_setCell_same _ _ _ _ _ _ h.row]; rfl
  · obtain ⟨cs, hc⟩ := rowCells h.rg.row hg
    exact hset g (neType hc h.row (by decide))
end
/-- what Rig.lay does -/
def LayP (w0 : World) (px lp p bm : Nat) (kv rv iv : Value) (S : LS) (n ext size first0 first written : Nat) (gv : Value) (bs : List (List Nat)) (num : Nat) (l : List Nat) (i : Nat) (e : Ending) (w' : World) : Prop := e = .returned (.bool true) ∧ ∃ vs', RgD w0 w' px lp p bm kv rv iv S n ext size first0 first written gv vs' (bs.set (num % bs.length) l) true i
set_option maxHeartbeats 4000000 in
theorem xlay_any {w0 x : World} {px lp p bm : Nat} {kv rv iv : Value} {S : LS} {n ext size first0 first written : Nat} {gv : Value} {vs : List Value} {bs : List (List Nat)} {wrote : Bool} {i : Nat} (h : RgD w0 x px lp p bm kv rv iv S n ext size first0 first written gv vs bs wrote i) (hn1 : 1 ≤ bs.length) (hn4 : bs.length ≤ 4) (hsz : size ≤ 1024) (num : Nat) (hnum : num < 4294967296) (v : Value) (l : List Nat) (hv : BSl x v l) (hl : l.length = size) :
    Calls Try.prog 19 #[.pointer (some ⟨px, 0, none⟩), v, .int .u32 (num : Int)] x (LayP w0 px lp p bm kv rv iv S n ext size first0 first written gv bs num l i) := by
  obtain ⟨g, cap, rfl, hgc⟩ : ∃ g cap, gv = .slice (some ⟨g, 0, none⟩) bs.length cap ∧ bs.length ≤ cap := by
    rcases h.rg.row.2 with ⟨e, e2⟩ | ⟨g', cap', cur, e, _, _, h1, _⟩
    · have := h.rg.len; omega
    · rw [h.rg.len] at e h1; exact ⟨g', cap', e, h1⟩
  have HCP := hide (copied_any v l x.drew hv (by omega))
  have HF : Hid (∀ z v', UB z x.heap.size v' l → Below x.heap.size x z → (∃ u, z.cell? ⟨g, num % bs.length, none⟩ = some u) ∧ z.frozen? ⟨g, num % bs.length, none⟩ = false ∧ z.cell? ⟨px, 5, none⟩ = some (.slice (some ⟨g, 0, none⟩) bs.length cap) ∧ (z.setCell ⟨g, num % bs.length, none⟩ v').cell? ⟨px, 5, none⟩ = some (.slice (some ⟨g, 0, none⟩) bs.length cap) ∧ (z.setCell ⟨g, num % bs.length, none⟩ v').cell? ⟨px, 6, none⟩ = some (.bool wrote) ∧ (z.setCell ⟨g, num % bs.length, none⟩ v').frozen? ⟨px, 6, none⟩ = false ∧ LayP w0 px lp p bm kv rv iv S n ext size first0 first written (.slice (some ⟨g, 0, none⟩) bs.length cap) bs num l i (.returned (.bool true)) ((z.setCell ⟨g, num % bs.length, none⟩ v').setCell ⟨px, 6, none⟩ (.bool true))) := hide fun z v' hu hb => by
    have hz := h.below hb
    have hk : num % bs.length < bs.length := Nat.mod_lt _ (by omega)
    have hp := hz.put rfl hk (hu.mono h.be.size)
    obtain ⟨cs, hc⟩ := rowCells hz.rg.row (g := g) rfl
    refine ⟨?_, frozen_of_row _ _ _ _ 23 hc, cell_of_row _ _ _ _ _ _ hz.row, cell_of_row _ _ _ _ _ _ hp.row, cell_of_row _ _ _ _ _ _ hp.row, frozen_of_row _ _ _ _ 45 hp.row, rfl, _, hp.setW true⟩
    have hrr := hz.rg.row
    rw [hz.rg.len] at hrr
    rw [hrr.cellAt _ (by omega)]
    exact ⟨_, List.getElem?_eq_getElem (by rw [hz.rg.len]; exact hk)⟩
  have c3 : x.cell? ⟨px, 3, none⟩ = some (.int .i64 (size : Int)) := cell_of_row _ _ _ _ _ _ h.row
  have c5 : x.cell? ⟨px, 5, none⟩ = some (.slice (some ⟨g, 0, none⟩) bs.length cap) := cell_of_row _ _ _ _ _ _ h.row
  obtain ⟨va, vcap, rfl, -⟩ := hv
  rw [hl] at HCP ⊢
  have hrem : (num : Int) % (bs.length : Int) = ((num % bs.length : Nat) : Int) := by simp
  have hrem2 : (num : Int).tmod (bs.length : Int) = ((num % bs.length : Nat) : Int) := by rw [Int.tmod_eq_emod_of_nonneg (by omega)]; exact hrem
  have hkl : ((num % bs.length : Nat) : Int) < (bs.length : Int) := by have := Nat.mod_lt num (show 0 < bs.length by omega); omega
  have hkl2 : num % bs.length < bs.length := Nat.mod_lt num (by omega)
  clear h hl
  generalize num % bs.length = kk at *
  have HBL : Hid (bs.length = bs.length) := hide rfl
  generalize hbl : bs.length = nb at *
  clear hbl HBL
  have hnb : ¬ (nb : Int) = 0 := by omega
  have hnb2 : ¬ nb = 0 := by omega
  have hw1 : IntKind.i64.wrap (num : Int) = (num : Int) := by simp [IntKind.wrap, IntKind.bits, IntKind.signed]; omega
  have hw2 : IntKind.i64.wrap (kk : Int) = (kk : Int) := by simp [IntKind.wrap, IntKind.bits, IntKind.signed]; omega
  have hw3 : IntKind.i64.wrap ((num : Int) % (nb : Int)) = (kk : Int) := by rw [hrem, hw2]
  go_enter Try.func19, Try.ntmps19
  go_wp2_with fail
  go_region_held3 (fun z => z.cell? ⟨px, 5, none⟩ = some (.slice (some ⟨g, 0, none⟩) nb cap)) (first | exact c5 | exact x5 | exact x5b)
    ((go_at_call 8; refine HCP.out.mono ?_; rintro e z ⟨v', rfl, hu, hb⟩; obtain ⟨a9, cap9, rfl⟩ := hu.form; obtain ⟨⟨u9, y1⟩, y2, x5, x5b, y4, y5, y6⟩ := HF.out z _ hu ⟨hb.os, hb.tape, hb.output, hb.size, hb.block⟩; have HL6 := hide y6; clear hu hb y6))
  go_wp2_with fail
  go_ret
  exact HL6.out
end Go.Proofs.Ytlkccencilhacaa
namespace Go.Proofs.Ytlkccencilhacaa
open Num
set_option linter.unusedVariables false
set_option maxRecDepth 20000
/-- a new record goes in: all others are one further ahead -/
theorem Win.next {slots ext size n N : Nat} {W : Nat → Option Rc} {wr : Nat} {R : Nat → List Int} {bs : List (List Nat)} (h : Win slots ext size n N W wr R bs) {r : Rc} {row : List Int} (hn : r.num = N) (hok : r.Ok slots ext) (ha : r.age = min wr 65535) (hst : r.st = ((wr * 4 % slots : Nat) : Int)) (hC : r.C = ctxL row (wr * 4 % slots)) (hrow : row = (R 0).set r.c0.toNat r.c1) :
    Win slots ext size n ((N + 1) % 4294967296) (fun d => if d = 0 then some r else W (d - 1)) (wr + 1) (fun d => if d = 0 then row else R (d - 1)) (bs.set (N % n) (r.bytes size)) := by
  have hN := h.nl
  have hn1 := h.n1
  have hidx : ∀ d, d < n → ((N + 1) % 4294967296 + 4294967295 - d) % n = (if d = 0 then N % n else (N + 4294967295 - (d - 1)) % n) := fun d hd => by
    by_cases e : d = 0
    · subst e
      rw [if_pos rfl]
      rcases hn1 with rfl | rfl | rfl <;> omega
    · rw [if_neg e]
      rcases hn1 with rfl | rfl | rfl <;> omega
  refine ⟨h.s1, h.s2, h.s3, h.sz, hn1, h.n2, Nat.mod_lt _ (by decide), by rw [List.length_set]; exact h.len, fun d hd => ?_, fun d q hd hq => ?_, fun d q hd hq => ?_, fun d hd hq => ?_, by omega, fun d hd hdw => ?_, fun d => ?_, fun hw => ?_⟩
  · rw [hidx d hd]
    by_cases e : d = 0
    · subst e
      rw [if_pos rfl, List.getElem?_set_self (by rw [h.len]; exact Nat.mod_lt _ (by omega))]
      rfl
    · rw [if_neg e, List.getElem?_set_ne (by
        rcases hn1 with rfl | rfl | rfl <;> omega), h.bat (d - 1) (by omega)]
      simp only [e, if_false]
  · by_cases e : d = 0
    · subst e
      simp only [if_true, Option.some.injEq] at hq
      rw [← hq, hn]
      omega
    · simp only [e, if_false] at hq
      rw [h.num (d - 1) q (by omega) hq]
      omega
  · by_cases e : d = 0
    · subst e
      simp only [if_true, Option.some.injEq] at hq
      rw [← hq]
      exact ⟨hok, by rw [ha]; omega⟩
    · simp only [e, if_false] at hq
      exact h.rok (d - 1) q (by omega) hq
  · by_cases e : d = 0
    · subst e; simp at hq
    · simp only [e, if_false] at hq
      simp only [Nat.add_eq_zero_iff, Nat.one_ne_zero, and_false, if_false, Nat.add_sub_cancel]
      have := h.pre (d - 1) (by omega) hq
      rwa [show d - 1 + 1 = d by omega] at this
  · by_cases e : d = 0
    · subst e
      refine ⟨r, by simp, by simpa using ha, by simpa using hst, by simpa using hC, ?_⟩
      simpa using hrow
    · obtain ⟨q, q1, q2, q3, q4, q5⟩ := h.run (d - 1) (by omega) (by omega)
      have e1 : wr - 1 - (d - 1) = wr + 1 - 1 - d := by omega
      rw [e1] at q2 q3 q4
      refine ⟨q, by simp only [e, if_false]; exact q1, q2, q3, by simp only [e, if_false]; exact q4, ?_⟩
      simp only [e, if_false, Nat.add_eq_zero_iff, Nat.one_ne_zero, and_false, Nat.add_sub_cancel]
      rw [show d - 1 + 1 = d by omega] at q5
      exact q5
  · by_cases e : d = 0
    · subst e; simp only [if_true]; rw [hrow, List.length_set]; exact h.rl 0
    · simp only [e, if_false]; exact h.rl (d - 1)
  · simp only [Nat.add_eq_zero_iff, Nat.one_ne_zero, and_false, if_false, Nat.add_sub_cancel]
    exact h.r0 (by omega)
/-- a ring that logs have written, whatever the runs -/
structure WinB (slots ext size n N : Nat) (W : Nat → Option Rc) (bs : List (List Nat)) : Prop where
  s1 : 1 ≤ slots
  s2 : slots ≤ 16
  s3 : ext ≤ 1024
  sz : vsz size
  n1 : n = 1 ∨ n = 2 ∨ n = 4
  n2 : slots ≤ 4 * n
  nl : N < 4294967296
  len : bs.length = n
  bat : ∀ d, d < n → bs[(N + 4294967295 - d) % n]? = some (match W d with | none => List.replicate size 0 | some r => r.bytes size)
  num : ∀ d r, d < n → W d = some r → r.num = (N + 4294967295 - d) % 4294967296
  rok : ∀ d r, d < n → W d = some r → r.Ok slots ext ∧ r.age ≤ 65535
  pre : ∀ d, d + 1 < n → W d = none → W (d + 1) = none
theorem Win.toB {slots ext size n N : Nat} {W : Nat → Option Rc} {wr : Nat} {R : Nat → List Int} {bs : List (List Nat)} (h : Win slots ext size n N W wr R bs) : WinB slots ext size n N W bs := ⟨h.s1, h.s2, h.s3, h.sz, h.n1, h.n2, h.nl, h.len, h.bat, h.num, h.rok, h.pre⟩
/-- a blank ring -/
theorem WinB.blank {slots ext size n N : Nat} (h1 : 1 ≤ slots) (h2 : slots ≤ 16) (h3 : ext ≤ 1024) (h4 : vsz size) (h5 : n = 1 ∨ n = 2 ∨ n = 4) (h6 : slots ≤ 4 * n) (h7 : N < 4294967296) : WinB slots ext size n N (fun _ => none) (List.replicate n (List.replicate size 0)) :=
  ⟨h1, h2, h3, h4, h5, h6, h7, by simp, fun d hd => by
    rw [List.getElem?_replicate, if_pos (Nat.mod_lt _ (by omega))], fun d r _ e => by simp at e, fun d r _ e => by simp at e, fun d _ _ => rfl⟩
/-- the first record of a run -/
theorem WinB.first {slots ext size n N : Nat} {W : Nat → Option Rc} {bs : List (List Nat)} (h : WinB slots ext size n N W bs) {r : Rc} {row : List Int} (hn : r.num = N) (hok : r.Ok slots ext) (ha : r.age = 0) (hst : r.st = 0) (hC : r.C = ctxL row 0) (hrow : row = (List.replicate slots (-1)).set r.c0.toNat r.c1) :
    Win slots ext size n ((N + 1) % 4294967296) (fun d => if d = 0 then some r else W (d - 1)) 1 (fun d => if d = 0 then row else List.replicate slots (-1)) (bs.set (N % n) (r.bytes size)) := by
  have hN := h.nl
  have hn1 := h.n1
  have hidx : ∀ d, d < n → ((N + 1) % 4294967296 + 4294967295 - d) % n = (if d = 0 then N % n else (N + 4294967295 - (d - 1)) % n) := fun d hd => by
    by_cases e : d = 0
    · subst e
      rw [if_pos rfl]
      rcases hn1 with rfl | rfl | rfl <;> omega
    · rw [if_neg e]
      rcases hn1 with rfl | rfl | rfl <;> omega
  refine ⟨h.s1, h.s2, h.s3, h.sz, hn1, h.n2, Nat.mod_lt _ (by decide), by rw [List.length_set]; exact h.len, fun d hd => ?_, fun d q hd hq => ?_, fun d q hd hq => ?_, fun d hd hq => ?_, Nat.le_refl _, fun d hd hdw => ?_, fun d => ?_, fun hw => ?_⟩
  · rw [hidx d hd]
    by_cases e : d = 0
    · subst e
      rw [if_pos rfl, List.getElem?_set_self (by rw [h.len]; exact Nat.mod_lt _ (by omega))]
      rfl
    · rw [if_neg e, List.getElem?_set_ne (by
        rcases hn1 with rfl | rfl | rfl <;> omega), h.bat (d - 1) (by omega)]
      simp only [e, if_false]
      cases W (d - 1) <;> rfl
  · by_cases e : d = 0
    · subst e
      simp only [if_true, Option.some.injEq] at hq
      rw [← hq, hn]
      omega
    · simp only [e, if_false] at hq
      rw [h.num (d - 1) q (by omega) hq]
      omega
  · by_cases e : d = 0
    · subst e
      simp only [if_true, Option.some.injEq] at hq
      rw [← hq]
      exact ⟨hok, by rw [ha]; omega⟩
    · simp only [e, if_false] at hq
      exact h.rok (d - 1) q (by omega) hq
  · by_cases e : d = 0
    · subst e; simp at hq
    · simp only [e, if_false] at hq
      simp only [Nat.add_eq_zero_iff, Nat.one_ne_zero, and_false, if_false, Nat.add_sub_cancel]
      have := h.pre (d - 1) (by omega) hq
      rwa [show d - 1 + 1 = d by omega] at this
  · have e : d = 0 := by omega
    subst e
    exact ⟨r, by simp, by simpa using ha, by simpa using hst, by simpa using hC, by simpa using hrow⟩
  · by_cases e : d = 0
    · subst e; simp only [if_true]; rw [hrow, List.length_set, List.length_replicate]
    · simp [e]
  · simp
/-- what Replay says of a blank ring -/
theorem blank_replay {slots ext size n : Nat} (hs : vsz size) (hn : 1 ≤ n) {res : Option (List Int × Nat)} (h : RpRes slots ext (List.replicate n (List.replicate size 0)) res) : res = some (List.replicate slots (-1), 0) := by
  have hpl : ∀ i, i < n → plc slots ext (List.replicate n (List.replicate size 0)).length ((List.replicate n (List.replicate size 0)).getD 0 []).length i ((List.replicate n (List.replicate size 0)).getD i []) none := fun i hi => by
    have e : ∀ k, k < n → (List.replicate n (List.replicate size 0)).getD k [] = List.replicate size 0 := fun k hk => by simp [List.getD, hk]
    rw [e i hi, e 0 (by omega)]
    exact ⟨⟨rfl, by simpa using hs⟩, .inl ⟨rfl, fun b hb => List.eq_of_mem_replicate hb⟩⟩
  have hall : ∀ {P}, Places slots ext (List.replicate n (List.replicate size 0)) P → ∀ p ∈ P, p = none := fun {P} hP p hp => by
    obtain ⟨i, hi, rfl⟩ := List.mem_iff_getElem.1 hp
    have hin : i < n := by have := hP.1; simp at this; omega
    have h1 := hP.2 i (by simpa using hin)
    have h2 := h1.uniq (hpl i hin)
    rw [List.getD_eq_getElem?_getD, List.getElem?_eq_getElem hi] at h2
    simpa using h2
  cases res with
  | none =>
    exfalso
    rcases h with ⟨i, hi, hp⟩ | ⟨P, hP, hne, -⟩
    · exact hp none (hpl i (by simpa using hi))
    · exact hne (hall hP)
  | some q =>
    obtain ⟨row, N⟩ := q
    obtain ⟨P, hP, ⟨-, rfl, rfl⟩ | ⟨hne, -⟩⟩ := h
    · rfl
    · exact absurd (hall hP) hne
/-- the record that Begin hands out -/
def rcOf (S' : LS) (first written : Nat) (c0 c1 c2 : Int) : Rc := ⟨(first + written) % 4294967296, min written 65535, S'.slots, c0, c1, c2, ((written * 4 % S'.slots : Nat) : Int), ctxL (rowL S') (written * 4 % S'.slots)⟩
theorem recOf_rc (S' : LS) (size first written : Nat) (c0 c1 c2 : Int) (h1 : 1 ≤ S'.slots) (h2 : S'.slots ≤ 16) : recOf S' size first written c0 c1 c2 = (rcOf S' first written c0 c1 c2).bytes size := by
  have e : u32N ((written * 4 % S'.slots : Nat) : Int) = written * 4 % S'.slots := u32N_nat _ (by have := Nat.mod_lt (written * 4) (show 0 < S'.slots by omega); omega)
  unfold recOf recB recH Rc.bytes Rc.head Rc.mid rcOf
  simp only
  rw [e]
end Go.Proofs.Ytlkccencilhacaa
namespace Go.Proofs.Ytlkccencilhacaa
open Num
set_option linter.unusedVariables false
set_option maxRecDepth 20000
theorem rowL_add {S : LS} {x : Int} (h : S.ks.length < S.slots) : rowL (S.add x) = (rowL S).set S.ks.length x := by
  unfold rowL LS.add
  simp only
  rw [List.set_append_right _ _ (Nat.le_refl _), Nat.sub_self, List.length_append, List.append_assoc]
  congr 1
  obtain ⟨k, hk⟩ : ∃ k, S.slots - S.ks.length = k + 1 := ⟨S.slots - S.ks.length - 1, by omega⟩
  have e : S.slots - (S.ks.length + [x].length) = k := by simp; omega
  rw [hk, e, List.replicate_succ]
  rfl
theorem rowL_swap {S : LS} {x : Int} {s : Nat} (h : s < S.ks.length) : rowL (({ S with mks := S.ks.set s x, ks := S.ks.set s x } : LS).take s) = (rowL S).set s x := by
  unfold rowL LS.take
  simp only
  rw [List.set_append_left _ _ h, List.length_set]
theorem rowL_rng {S : LS} {ext : Nat} (h : ∀ k ∈ S.ks, 0 ≤ k ∧ k < (ext : Int)) (he : 1 ≤ ext) : ∀ z ∈ rowL S, -1 ≤ z ∧ z < (ext : Int) := fun z hz => by
  unfold rowL at hz
  rcases List.mem_append.1 hz with hz | hz
  · have := h z hz; omega
  · have := List.eq_of_mem_replicate hz; omega
/-- the ring beside the log: what a run that has written says; ahead of that what the last one left -/
def WS (n ext size nr : Nat) (S : LS) (first written : Nat) (bs : List (List Nat)) (wrote : Bool) : Prop :=
  (∀ k ∈ S.ks, 0 ≤ k ∧ k < (ext : Int)) ∧ ((wrote = true ∧ 1 ≤ written ∧ ∃ W R, Win n ext size nr ((first + written) % 4294967296) W written R bs ∧ R 0 = rowL S) ∨ (wrote = false ∧ written = 0 ∧ S.ks = [] ∧ first < 4294967296 ∧ (bs = List.replicate nr (List.replicate size 0) ∨ ∃ W wr R, Win n ext size nr first W wr R bs)))
/-- numbers of a rig that is well made -/
structure WN (n ext size nr : Nat) : Prop where
  s1 : 1 ≤ n
  s2 : n ≤ 16
  e1 : 1 ≤ ext
  e2 : ext ≤ 1024
  sz : vsz size
  n1 : nr = 1 ∨ nr = 2 ∨ nr = 4
  n2 : n ≤ 4 * nr
theorem WS.start {n ext size nr first : Nat} (hf : first < 4294967296) : WS n ext size nr ⟨n, [], [], [], []⟩ first 0 (List.replicate nr (List.replicate size 0)) false :=
  ⟨fun k hk => by simp at hk, .inr ⟨rfl, rfl, rfl, hf, .inl rfl⟩⟩
theorem WS.same {n ext size nr first written : Nat} {S S' : LS} {bs : List (List Nat)} {wrote : Bool} (h : WS n ext size nr S first written bs wrote) (hk : S'.ks = S.ks) (hs : S'.slots = S.slots) : WS n ext size nr S' first written bs wrote := by
  have hr : rowL S' = rowL S := by unfold rowL; rw [hk, hs]
  unfold WS
  rw [hr, hk]
  exact h
theorem rcOf_ok {n ext : Nat} {S S' : LS} {M : Nat} {x old : Int} {slot first written : Nat} {gone : Bool} (hn1 : 1 ≤ n) (he : 1 ≤ ext) (hS : S.Ok M) (hsl : S.slots = n) (hk : ∀ k ∈ S.ks, 0 ≤ k ∧ k < (ext : Int)) (hx : 0 ≤ x ∧ x < (ext : Int)) (h : GetRes S x S' slot true old gone 0) :
    (rcOf S' first written (slot : Int) x (if gone then old else -1)).Ok n ext ∧ rowL S' = (rowL S).set slot x ∧ slot < n ∧ S'.slots = n ∧ ∀ k ∈ S'.ks, 0 ≤ k ∧ k < (ext : Int) := by
  have hsl' : S'.slots = n := h.slots.trans hsl
  have hkey : rowL S' = (rowL S).set slot x ∧ slot < n ∧ (∀ k ∈ S'.ks, 0 ≤ k ∧ k < (ext : Int)) ∧ (-1 ≤ (if gone then old else -1) ∧ (if gone then old else -1) < (ext : Int)) ∧ (if gone then old else -1) ≠ x := by
    rcases h with ⟨s, g1, -, -, e, -⟩ | ⟨g1, g2, rfl, rfl, -, rfl, rfl, -⟩ | ⟨g1, g2, s, r, o, g3, g4, rfl, rfl, -, rfl, rfl, -⟩ | ⟨-, -, -, -, -, e, -⟩
    · cases e
    · refine ⟨rowL_add g2, by omega, fun k hk' => ?_, by simp; omega, by simp; omega⟩
      unfold LS.add at hk'
      rcases List.mem_append.1 hk' with q | q
      · exact hk k q
      · rw [List.mem_singleton.1 q]; exact hx
    · have hs : slot < S.ks.length := (List.getElem?_eq_some_iff.1 g4).1
      have ho := hk old (List.mem_of_getElem? g4)
      refine ⟨rowL_swap hs, by omega, fun k hk' => ?_, by simp; omega, ?_⟩
      · unfold LS.take at hk'
        rcases List.mem_or_eq_of_mem_set hk' with q | q
        · exact hk k q
        · rw [q]; exact hx
      · simp only [if_true]
        exact fun e => g1 (e ▸ List.mem_of_getElem? g4)
    · cases e
  obtain ⟨h1, h2, h3, ⟨h4, h5⟩, h6⟩ := hkey
  have hl : (rowL S').length = n := by
    rw [h1, List.length_set, rowL_len hS, hsl]
  have hm : written * 4 % n < n := Nat.mod_lt _ (by omega)
  refine ⟨⟨hsl', by simp [rcOf], by show (slot : Int) < n; omega, by show (0 : Int) ≤ ((written * 4 % S'.slots : Nat) : Int); omega, by show ((written * 4 % S'.slots : Nat) : Int) < n; rw [hsl']; omega, ?_, fun i hi => ?_, hx.1, hx.2, h4, h5, h6, ?_⟩, h1, h2, hsl', h3⟩
  · show min written 65535 = 65535 ∨ ((written * 4 % S'.slots : Nat) : Int) = ((min written 65535 * 4 % n : Nat) : Int)
    rw [hsl']
    by_cases e : written < 65535
    · right; rw [Nat.min_eq_left (by omega)]
    · left; omega
  · show -1 ≤ (ctxL (rowL S') (written * 4 % S'.slots)).getD i 0 ∧ (ctxL (rowL S') (written * 4 % S'.slots)).getD i 0 < (ext : Int)
    rw [ctxL_get _ _ _ hi, List.getD_eq_getElem?_getD, List.getElem?_eq_getElem (Nat.mod_lt _ (by omega))]
    exact rowL_rng h3 he _ (List.getElem_mem _)
  · refine agrees (R := rowL S') (st := written * 4 % S'.slots) hl hn1 rfl rfl (by show (slot : Int).toNat < n; simpa using h2) ?_
    show (rowL S').getD (slot : Int).toNat 0 = x
    rw [h1, getDS, if_pos ⟨by simp, by rw [rowL_len hS, hsl]; simpa using h2⟩]
/-- Begin gave a record, and it is laid -/
theorem WS.beg {n ext size nr first written : Nat} {S S' : LS} {M : Nat} {bs : List (List Nat)} {wrote : Bool} {x old : Int} {slot : Nat} {gone : Bool} (hw : WN n ext size nr) (h : WS n ext size nr S first written bs wrote) (hS : S.Ok M) (hsl : S.slots = n) (hx : 0 ≤ x ∧ x < (ext : Int)) (hg : GetRes S x S' slot true old gone 0) :
    WS n ext size nr S' first (written + 1) (bs.set ((first + written) % 4294967296 % nr) (recOf S' size first written (slot : Int) x (if gone then old else -1))) true := by
  obtain ⟨hok, hrow, hsn, hsl', hk'⟩ := rcOf_ok (first := first) (written := written) hw.s1 hw.e1 hS hsl h.1 hx hg
  rw [recOf_rc _ _ _ _ _ _ _ (by rw [hsl']; exact hw.s1) (by rw [hsl']; exact hw.s2)]
  have hN : ((first + written) % 4294967296 + 1) % 4294967296 = (first + (written + 1)) % 4294967296 := by omega
  refine ⟨hk', .inl ⟨rfl, by omega, ?_⟩⟩
  rcases h.2 with ⟨-, h1, W, R, hW, hR⟩ | ⟨-, rfl, hks, hf, hor⟩
  · have hn := hW.next (r := rcOf S' first written (slot : Int) x (if gone then old else -1)) (row := rowL S') rfl hok rfl (by show ((written * 4 % S'.slots : Nat) : Int) = _; rw [hsl']) (by show ctxL (rowL S') (written * 4 % S'.slots) = _; rw [hsl']) (by rw [hR]; simpa [rcOf] using hrow)
    rw [hN] at hn
    exact ⟨_, _, hn, by simp⟩
  · have hB : ∃ W, WinB n ext size nr first W bs := by
      rcases hor with rfl | ⟨W, wr, R, hW⟩
      · exact ⟨_, WinB.blank hw.s1 hw.s2 hw.e2 hw.sz hw.n1 hw.n2 hf⟩
      · exact ⟨W, hW.toB⟩
    obtain ⟨W, hB⟩ := hB
    have hfe : (first + 0) % 4294967296 = first := by omega
    have hrS : rowL S = List.replicate n (-1) := by unfold rowL; rw [hks, hsl]; simp
    have hn := hB.first (r := rcOf S' first 0 (slot : Int) x (if gone then old else -1)) (row := rowL S') (by show (first + 0) % 4294967296 = first; omega) hok rfl (by show ((0 * 4 % S'.slots : Nat) : Int) = 0; simp) (by show ctxL (rowL S') (0 * 4 % S'.slots) = _; simp) (by rw [← hrS]; simpa [rcOf] using hrow)
    rw [hfe]
    rw [hfe] at hN
    rw [hN] at hn
    exact ⟨_, _, hn, by simp⟩
theorem WS.replay {n ext size nr first written : Nat} {S : LS} {bs : List (List Nat)} (h : WS n ext size nr S first written bs true) {res : Option (List Int × Nat)} (hr : RpRes n ext bs res) : res = some (rowL S, (first + written) % 4294967296) := by
  rcases h.2 with ⟨-, -, W, R, hW, hR⟩ | ⟨e, -⟩
  · rw [hW.replay hr, hR]
  · cases e
/-- whatever the state, Replay answers -/
theorem WS.some {n ext size nr first written : Nat} {S : LS} {bs : List (List Nat)} {wrote : Bool} (hw : WN n ext size nr) (h : WS n ext size nr S first written bs wrote) {res : Option (List Int × Nat)} (hr : RpRes n ext bs res) : ∃ row N, res = .some (row, N) := by
  rcases h.2 with ⟨-, -, W, R, hW, hR⟩ | ⟨-, -, -, -, rfl | ⟨W, wr, R, hW⟩⟩
  · exact ⟨_, _, hW.replay hr⟩
  · exact ⟨_, _, blank_replay hw.sz (by have := hw.n1; omega) hr⟩
  · exact ⟨_, _, hW.replay hr⟩
/-- the next run begins -/
theorem WS.again {n ext size nr first written : Nat} {S : LS} {bs : List (List Nat)} (h : WS n ext size nr S first written bs true) : WS n ext size nr ⟨n, [], [], [], []⟩ ((first + written) % 4294967296) 0 bs false := by
  rcases h.2 with ⟨-, -, W, R, hW, hR⟩ | ⟨e, -⟩
  · exact ⟨fun k hk => by simp at hk, .inr ⟨rfl, rfl, rfl, Nat.mod_lt _ (by decide), .inr ⟨W, _, R, hW⟩⟩⟩
  · cases e
theorem WS.len {n ext size nr first written : Nat} {S : LS} {bs : List (List Nat)} {wrote : Bool} (h : WS n ext size nr S first written bs wrote) : bs.length = nr := by
  rcases h.2 with ⟨-, -, W, R, hW, hR⟩ | ⟨-, -, -, -, rfl | ⟨W, wr, R, hW⟩⟩
  · exact hW.len
  · simp
  · exact hW.len
end Go.Proofs.Ytlkccencilhacaa
namespace Go.Proofs.Ytlkccencilhacaa
open Go.RowKit Go.Sort
open Num
set_option linter.unusedVariables false
set_option linter.unusedSimpArgs false
set_option maxRecDepth 20000

/-- a rig with what its ring says -/
def RgS (w0 x : World) (px n ext size first0 nr : Nat) (S : LS) (lp first written : Nat) (bs : List (List Nat)) (wrote : Bool) (i : Nat) : Prop := ∃ p bm kv rv iv gv vs, RgD w0 x px lp p bm kv rv iv S n ext size first0 first written gv vs bs wrote i ∧ WS n ext size nr S first written bs wrote ∧ ∀ k, (bs.getD k []).length ≤ 1024
theorem RgD.newLog {w0 x y : World} {px lp p bm : Nat} {kv rv iv : Value} {S : LS} {n ext size first0 first written : Nat} {gv : Value} {vs : List Value} {bs : List (List Nat)} {wrote : Bool} {i : Nat} (h : RgD w0 x px lp p bm kv rv iv S n ext size first0 first written gv vs bs wrote i) (h1 : 1 ≤ n) (h2 : n ≤ 16) {lp' N : Nat} (hb : Below x.heap.size x y) (hl : LgR y lp' (x.heap.size + 1) x.heap.size (.slice none 0 0) (.slice none 0 0) (.slice none 0 0) ⟨n, [], [], [], []⟩ ext size N 0) (hlp : x.heap.size ≤ lp') : RgD w0 ((y.setCell ⟨px, 0, none⟩ (.pointer (some ⟨lp', 0, none⟩))).setCell ⟨px, 6, none⟩ (.bool false)) px lp' (x.heap.size + 1) x.heap.size (.slice none 0 0) (.slice none 0 0) (.slice none 0 0) ⟨n, [], [], [], []⟩ n ext size first0 N 0 gv vs bs false i := by
  have hy := h.below hb
  have hpx := (Array.getElem?_eq_some_iff.1 h.row).1
  have hset : ∀ b', b' ≠ px → (y.setCell ⟨px, 0, none⟩ (.pointer (some ⟨lp', 0, none⟩))).heap[b']? = y.heap[b']? := fun b' hb => Go.heap_setCell_other _ _ _ _ hb
  have hok : (⟨n, [], [], [], []⟩ : LS).Ok i := by
    have := okS n h1 h2
    exact ⟨this.s1, this.s2, this.kl, this.rl, this.kd, this.id, this.im, this.kb, fun r hr => by simp at hr, this.me⟩
  have hne : ∀ b, GU lp' (x.heap.size + 1) x.heap.size (.slice none 0 0) (.slice none 0 0) (.slice none 0 0) b → x.heap.size ≤ b := fun b e => by
    rcases e with e | e | e | e | e | e
    · omega
    · omega
    · omega
    · simp [Value.ownBlock] at e
    · simp [Value.ownBlock] at e
    · simp [Value.ownBlock] at e
  have hd : RgD w0 (y.setCell ⟨px, 0, none⟩ (.pointer (some ⟨lp', 0, none⟩))) px lp' (x.heap.size + 1) x.heap.size (.slice none 0 0) (.slice none 0 0) (.slice none 0 0) ⟨n, [], [], [], []⟩ n ext size first0 N 0 gv vs bs wrote i := by
    refine ⟨?_, hl.kept fun b e => hset b (by have := hne b e; omega), hok, rfl, hy.rg.keep (fun g hg => ?_) (fun g cs hc => hset g (neType hc hy.row (by decide))), hy.be.trans ⟨rfl, rfl, rfl, by rw [World.size_setCell]; exact Nat.le_refl _, fun b hb => hset b (by have := h.po; omega)⟩, fun b e => by have := hne b e; have := h.be.size; omega, h.po, Nat.zero_le _⟩
    · rw [Go.heap_setCell_same _ _ _ _ _ _ hy.row]; rfl
    · obtain ⟨cs, hc⟩ := rowCells hy.rg.row hg
      exact hset g (neType hc hy.row (by decide))
  exact hd.setW false
def AgP (w0 : World) (px n ext size first0 nr N : Nat) (bs : List (List Nat)) (i : Nat) (e : Ending) (w' : World) : Prop := e = .returned (.bool true) ∧ ∃ lp, RgS w0 w' px n ext size first0 nr ⟨n, [], [], [], []⟩ lp N 0 bs false i
set_option maxHeartbeats 4000000 in
theorem xagain_any {w0 x : World} {px n ext size first0 nr lp first written : Nat} {S : LS} {bs : List (List Nat)} {i : Nat} (hw : WN n ext size nr) (hnr : (nr : Int) = ringN (n : Int)) (h : RgS w0 x px n ext size first0 nr S lp first written bs true i) :
    Calls Try.prog 24 #[.pointer (some ⟨px, 0, none⟩)] x (AgP w0 px n ext size first0 nr ((first + written) % 4294967296) bs i) := by
  obtain ⟨p, bm, kv, rv, iv, gv, vs, hd, hs, hl⟩ := h
  have hbl := hs.len
  have hn1 := hw.n1
  have HG := hide (given_any (px := px) (w := x.drew) ⟨_, hd.row, rfl⟩ (hd.rg.below ((Below.refl _ _).drew)) (by omega) (by omega) hl)
  have HRP : Hid (∀ z v', RSl z v' bs → Calls Try.prog 9 #[.int .i64 (n : Int), .int .i64 (ext : Int), v'] z fun e z' => (∃ g, e = .returned (.tuple #[.slice (some ⟨g, 0, none⟩) n n, .int .u32 (((first + written) % 4294967296 : Nat) : Int), .int .i64 0])) ∧ Below z.heap.size z z') := hide fun z v' hv => by
    refine (replay_any n ext hv hw.s1 hw.s2 hw.e1 hw.e2 (by rw [hbl]; exact hnr)).mono ?_
    rintro e z' ⟨res, hr, hb, hm⟩
    rw [hs.replay hr] at hm
    obtain ⟨g, -, rfl, -⟩ := hm
    exact ⟨⟨g, rfl⟩, hb⟩
  have HRS : Hid (∀ z v' vs', RgV z x.drew.heap.size v' bs vs' → RSl z v' bs) := hide fun z v' vs' hv => hv.sl (by omega)
  have HNW := hide fun z => logNew_any z n ext size ((first + written) % 4294967296) hw.s1 hw.s2 hw.e1 hw.e2 hw.sz
  have HNU := hide fun z => num_any z 0
  have hNlt : (first + written) % 4294967296 < 4294967296 := Nat.mod_lt _ (by decide)
  have HC : Hid (∀ z, Below x.heap.size x z → z.cell? ⟨px, 1, none⟩ = some (.int .i64 (n : Int)) ∧ z.cell? ⟨px, 2, none⟩ = some (.int .i64 (ext : Int)) ∧ z.cell? ⟨px, 3, none⟩ = some (.int .i64 (size : Int))) := hide fun z hz => by
    have hr := (hd.below hz).row
    exact ⟨cell_of_row _ _ _ _ _ _ hr, cell_of_row _ _ _ _ _ _ hr, cell_of_row _ _ _ _ _ _ hr⟩
  have HFIN : Hid (∀ z z1 lp', Below x.heap.size x z → Below z.heap.size z z1 → LgR z1 lp' (z.heap.size + 1) z.heap.size (.slice none 0 0) (.slice none 0 0) (.slice none 0 0) ⟨n, [], [], [], []⟩ ext size ((first + written) % 4294967296) 0 → z.heap.size ≤ lp' → ((∃ u, z1.cell? ⟨px, 0, none⟩ = some u) ∧ z1.frozen? ⟨px, 0, none⟩ = false) ∧ ((∃ u, (z1.setCell ⟨px, 0, none⟩ (.pointer (some ⟨lp', 0, none⟩))).cell? ⟨px, 6, none⟩ = some u) ∧ (z1.setCell ⟨px, 0, none⟩ (.pointer (some ⟨lp', 0, none⟩))).frozen? ⟨px, 6, none⟩ = false) ∧ AgP w0 px n ext size first0 nr ((first + written) % 4294967296) bs i (.returned (.bool true)) ((z1.setCell ⟨px, 0, none⟩ (.pointer (some ⟨lp', 0, none⟩))).setCell ⟨px, 6, none⟩ (.bool false))) := hide fun z z1 lp' hb hb1 hl1 hlp => by
    have hz := hd.below hb
    have hz1 := hz.below hb1
    have hr2 := Go.heap_setCell_same _ _ 0 _ 45 (.pointer (some ⟨lp', 0, none⟩)) hz1.row
    exact ⟨⟨⟨_, cell_of_row _ _ _ _ _ _ hz1.row⟩, frozen_of_row _ _ _ _ 45 hz1.row⟩, ⟨⟨_, cell_of_row _ _ _ _ _ _ hr2⟩, frozen_of_row _ _ _ _ 45 hr2⟩, rfl, lp', _, _, _, _, _, _, _, hz.newLog hw.s1 hw.s2 hb1 hl1 hlp, hs.again, hl⟩
  have q2 := ptrL'
  clear hd hs hl hbl hn1 hw hnr
  generalize (first + written) % 4294967296 = NN at *
  have d0 := HC.out x (Below.refl _ _)
  obtain ⟨d1, d2, d3⟩ := d0
  go_enter Try.func24, Try.ntmps24
  go_wp2_with fail
  go_region_held3 (fun z => z.cell? ⟨px, 1, none⟩ = some (.int .i64 (n : Int)) ∧ z.cell? ⟨px, 2, none⟩ = some (.int .i64 (ext : Int))) (first | exact ⟨d1, d2⟩ | exact ⟨g1, g2⟩ | exact ⟨k1, k2⟩)
    (first
      | (go_at_call 21; refine HG.out.mono ?_; rintro e z ⟨v', vs', rfl, hv', hbz⟩; obtain ⟨g1, g2, g3⟩ := HC.out z ⟨hbz.os, hbz.tape, hbz.output, hbz.size, hbz.block⟩; have HBZ : Hid (Below x.heap.size x z) := hide ⟨hbz.os, hbz.tape, hbz.output, hbz.size, hbz.block⟩; have HRZ := hide (HRP.out z v' (HRS.out z v' vs' hv')); clear hv' hbz HG)
      | (go_at_call 9; refine HRZ.out.mono ?_; rintro e z2 ⟨⟨gq, rfl⟩, hb2⟩; have HB2 := hide (HBZ.out.trans (hb2.mono HBZ.out.size)); obtain ⟨k1, k2, k3⟩ := HC.out z2 HB2.out; clear hb2 HRZ))
  clear d1 d2 d3 g1 g2 g3
  go_wp2_with (go_at_call 12; refine (HNU.out _).mono ?_; rintro e z2 ⟨rfl, rfl⟩)
  have HDR : Hid (Below x.heap.size x z2.drew) := hide HB2.out.drew
  go_region_held3 (fun z => z.cell? ⟨px, 1, none⟩ = some (.int .i64 (n : Int)) ∧ z.cell? ⟨px, 2, none⟩ = some (.int .i64 (ext : Int)) ∧ z.cell? ⟨px, 3, none⟩ = some (.int .i64 (size : Int))) (first | exact ⟨k1, k2, k3⟩ | exact ⟨m1, m2, m3⟩)
    ((go_at_call 29; refine (HNW.out _).mono ?_; rintro e z5 ⟨lp', hlp, rfl, hlg, hb5⟩; obtain ⟨m1, m2, m3⟩ := HC.out z5 (HDR.out.trans (hb5.mono HDR.out.size)); have HNB := hide (number_any hlg (by omega)); have HLG := hide hlg; have HB5 := hide hb5; have HLP := hide hlp; clear hlg hb5 hlp))
  rw [show ((NN + 0) % 4294967296 : Nat) = NN from by omega] at HNB
  clear k1 k2 k3 m1 m2 m3
  go_wp2_with (first
    | (go_at_call 12; refine (HNU.out _).mono ?_; rintro e z5 ⟨rfl, rfl⟩)
    | (go_at_call 17; refine HNB.out.mono ?_; rintro e z6 ⟨rfl, hq⟩; obtain ⟨⟨⟨u0, y0⟩, f0⟩, ⟨⟨u6, y6⟩, f6⟩, hag⟩ := HFIN.out _ z6 lp' HDR.out (HB5.out.trans (hq.2.mono HB5.out.size)) (HLG.out.below hq.2) HLP.out; have HAG := hide hag; clear hag hq))
  go_ret
  exact HAG.out
end Go.Proofs.Ytlkccencilhacaa
namespace Go.Proofs.Ytlkccencilhacaa
open Go.RowKit Go.Sort
open Num
set_option linter.unusedVariables false
set_option linter.unusedSimpArgs false
set_option maxRecDepth 20000

section
variable {w0 z : World} {px n ext size first0 nr lp first written : Nat} {S : LS} {bs : List (List Nat)} {wrote : Bool} {i : Nat}
theorem RgS.below {y : World} (h : RgS w0 z px n ext size first0 nr S lp first written bs wrote i) (hb : Below z.heap.size z y) : RgS w0 y px n ext size first0 nr S lp first written bs wrote i := by
  obtain ⟨p, bm, kv, rv, iv, gv, vs, hd, hs, hl⟩ := h
  exact ⟨p, bm, kv, rv, iv, gv, vs, hd.below hb, hs, hl⟩
theorem RgS.cells (h : RgS w0 z px n ext size first0 nr S lp first written bs wrote i) : z.cell? ⟨px, 0, none⟩ = some (.pointer (some ⟨lp, 0, none⟩)) ∧ z.cell? ⟨px, 6, none⟩ = some (.bool wrote) := by
  obtain ⟨p, bm, kv, rv, iv, gv, vs, hd, hs, hl⟩ := h
  exact ⟨cell_of_row _ _ _ _ _ _ hd.row, cell_of_row _ _ _ _ _ _ hd.row⟩
theorem RgS.be (h : RgS w0 z px n ext size first0 nr S lp first written bs wrote i) : Below w0.heap.size w0 z := by
  obtain ⟨p, bm, kv, rv, iv, gv, vs, hd, hs, hl⟩ := h
  exact hd.be
theorem LS.Ok.up {S : LS} {M M' : Nat} (h : S.Ok M) (hm : M ≤ M') : S.Ok M' := ⟨h.s1, h.s2, h.kl, h.rl, h.kd, h.id, h.im, h.kb, fun r hr => Nat.le_trans (h.rb r hr) hm, h.me⟩
/-- one step on -/
theorem RgS.up (h : RgS w0 z px n ext size first0 nr S lp first written bs wrote i) : RgS w0 z px n ext size first0 nr S lp first written bs wrote (i + 1) := by
  obtain ⟨p, bm, kv, rv, iv, gv, vs, hd, hs, hl⟩ := h
  exact ⟨p, bm, kv, rv, iv, gv, vs, ⟨hd.row, hd.lg, hd.ok.up (by omega), hd.sl, hd.rg, hd.be, hd.lo, hd.po, by have := hd.wr; omega⟩, hs, hl⟩
/-- behind a Begin that gave a record, ahead of its being laid -/
def RgM (w0 z : World) (px n ext size first0 nr : Nat) (S' : LS) (lp first written : Nat) (bs : List (List Nat)) (wrote : Bool) (rec : List Nat) (i : Nat) : Prop := ∃ p bm kv rv iv gv vs, RgD w0 z px lp p bm kv rv iv S' n ext size first0 first (written + 1) gv vs bs wrote (i + 1) ∧ WS n ext size nr S' first (written + 1) (bs.set ((first + written) % 4294967296 % nr) rec) true ∧ bs.length = nr ∧ rec.length = size ∧ ∀ k, (bs.getD k []).length ≤ 1024
def BgS (w0 : World) (px n ext size first0 nr : Nat) (S : LS) (lp first written : Nat) (bs : List (List Nat)) (wrote : Bool) (i : Nat) (e : Ending) (z' : World) : Prop :=
  (∃ c er S', e = .returned (.tuple #[.agg c, .slice none 0 0, .int .i64 er]) ∧ RgS w0 z' px n ext size first0 nr S' lp first written bs wrote (i + 1)) ∨
  ∃ c g S' rec, e = .returned (.tuple #[.agg c, .slice (some ⟨g, 0, none⟩) size size, .int .i64 0]) ∧ BSl z' (.slice (some ⟨g, 0, none⟩) size size) rec ∧ RgM w0 z' px n ext size first0 nr S' lp first written bs wrote rec i
theorem sBegin (hw : WN n ext size nr) (h : RgS w0 z px n ext size first0 nr S lp first written bs wrote i) (hi : i ≤ 1000000000000000) (x : Int) : Calls Try.prog 18 #[.pointer (some ⟨lp, 0, none⟩), .int .i64 x] z (BgS w0 px n ext size first0 nr S lp first written bs wrote i) := by
  obtain ⟨p, bm, kv, rv, iv, gv, vs, hd, hs, hl⟩ := h
  have hwr := hd.wr
  have hsz := hw.sz.ge
  refine (begin_any hd.lg hd.ok (by omega) (by omega) hw.e2 hw.sz x).mono ?_
  rintro e z' ⟨S', written', r, v, kv', rv', iv', rfl, hr, hrc, hl2, ho2, hc2, hloc⟩
  rcases hr with ⟨-, rfl, rfl, rfl⟩ | ⟨-, slot, old, gone, er, hg, rfl, rfl⟩ | ⟨hx, slot, old, gone, hg, rfl, rfl⟩
  · simp only [RcO] at hrc
    subst hrc
    exact .inl ⟨_, _, S', rfl, p, bm, kv', rv', iv', gv, vs, hd.turn hl2 ho2 rfl hc2 hloc (by omega), hs, hl⟩
  · simp only [RcO] at hrc
    subst hrc
    have hks : S'.ks = S.ks ∧ S'.slots = S.slots := by
      rcases hg with ⟨s, -, rfl, -⟩ | ⟨-, -, -, -, e, -⟩ | ⟨-, -, s, r, o, -, -, -, -, e, -⟩ | ⟨-, -, -, rfl, -⟩
      · exact ⟨rfl, rfl⟩
      · cases e
      · cases e
      · exact ⟨rfl, rfl⟩
    exact .inl ⟨_, _, S', rfl, p, bm, kv', rv', iv', gv, vs, hd.turn hl2 ho2 hks.2 hc2 hloc (by omega), hs.same hks.1 hks.2, hl⟩
  · obtain ⟨g, rfl, hrow, -, -⟩ := hrc
    have hlen : (recOf S' size first written (slot : Int) x (if gone then old else -1)).length = size := recOf_len (by omega)
    have hlt : ∀ b ∈ recOf S' size first written (slot : Int) x (if gone then old else -1), b < 256 := by
      rw [recOf_rc _ _ _ _ _ _ _ ho2.s1 ho2.s2]
      exact bytes_lt _ _
    refine .inr ⟨_, g, S', _, by rw [hlen], bsl_row hrow hlen (by unfold maxLen; omega) hlt, p, bm, kv', rv', iv', gv, vs, hd.turn hl2 ho2 hg.slots hc2 hloc (by omega), hs.beg hw hd.ok hd.sl hx hg, hs.len, hlen, hl⟩
def LyS (w0 : World) (px n ext size first0 nr : Nat) (S' : LS) (lp first written : Nat) (bs : List (List Nat)) (i : Nat) (e : Ending) (z' : World) : Prop := e = .returned (.bool true) ∧ RgS w0 z' px n ext size first0 nr S' lp first (written + 1) bs true (i + 1)
theorem sLay {S' : LS} {rec : List Nat} (hw : WN n ext size nr) (h : RgM w0 z px n ext size first0 nr S' lp first written bs wrote rec i) (v : Value) (hv : BSl z v rec) : Calls Try.prog 19 #[.pointer (some ⟨px, 0, none⟩), v, .int .u32 (((first + written) % 4294967296 : Nat) : Int)] z (LyS w0 px n ext size first0 nr S' lp first written (bs.set ((first + written) % 4294967296 % nr) rec) i) := by
  obtain ⟨p, bm, kv, rv, iv, gv, vs, hd, hs, hb, hrl, hl⟩ := h
  have hsz := hw.sz.ge
  have hn1 := hw.n1
  refine (xlay_any hd (by omega) (by omega) hsz.2 ((first + written) % 4294967296) (Nat.mod_lt _ (by decide)) v rec hv hrl).mono ?_
  rintro e z' ⟨rfl, vs', hd'⟩
  rw [hb] at hd'
  refine ⟨rfl, p, bm, kv, rv, iv, gv, vs', hd', hs, fun k => ?_⟩
  by_cases e : (first + written) % 4294967296 % nr = k
  · subst e
    by_cases hk : (first + written) % 4294967296 % nr < bs.length
    · simp [List.getD, hk]; omega
    · simp [List.getD, hk]
  · have : (bs.set ((first + written) % 4294967296 % nr) rec).getD k [] = bs.getD k [] := by simp [List.getD, e]
    rw [this]; exact hl k
theorem sNum (h : RgS w0 z px n ext size first0 nr S lp first written bs wrote i) (hi : i ≤ 1000000000000000) : Calls Try.prog 17 #[.pointer (some ⟨lp, 0, none⟩)] z fun e z' => e = .returned (.int .u32 (((first + written) % 4294967296 : Nat) : Int)) ∧ Qt z z' := by
  obtain ⟨p, bm, kv, rv, iv, gv, vs, hd, hs, hl⟩ := h
  have := hd.wr
  exact number_any hd.lg (by omega)
def EnS (w0 : World) (px n ext size first0 nr : Nat) (lp first written : Nat) (bs : List (List Nat)) (wrote : Bool) (i : Nat) (e : Ending) (z' : World) : Prop := ∃ er S', e = .returned (.int .i64 er) ∧ RgS w0 z' px n ext size first0 nr S' lp first written bs wrote (i + 1)
theorem sEnd (h : RgS w0 z px n ext size first0 nr S lp first written bs wrote i) (hi : i ≤ 1000000000000000) {x : Int} (hx : i64ok x) : Calls Try.prog 20 #[.pointer (some ⟨lp, 0, none⟩), .int .i64 x] z (EnS w0 px n ext size first0 nr lp first written bs wrote i) := by
  have h' := h
  obtain ⟨p, bm, kv, rv, iv, gv, vs, hd, hs, hl⟩ := h'
  have hwr := hd.wr
  refine (lEnd_any hd.lg hd.ok (by omega) hx).mono ?_
  rintro e z' (⟨-, rfl, rfl⟩ | ⟨-, S', er, iv', hp, rfl, hl2, ho2, hc2, hloc⟩)
  · exact ⟨_, S, rfl, h.up⟩
  · have hks : S'.ks = S.ks ∧ S'.slots = S.slots := by
      rcases hp with ⟨-, rfl, -⟩ | ⟨s, r, -, -, rfl, -⟩ <;> exact ⟨rfl, rfl⟩
    refine ⟨_, S', rfl, p, bm, kv, rv, iv', gv, vs, hd.turn hl2 (ho2.up (by omega)) hks.2 (hc2.mono fun b _ e => .inr e) (fun b e => ?_) (by omega), hs.same hks.1 hks.2, hl⟩
    rcases e with e | e
    · exact .inl (.inl e)
    · rcases hloc b e with q | q
      · exact .inl (.inr q)
      · exact .inr q
end
end Go.Proofs.Ytlkccencilhacaa
namespace Go.Proofs.Ytlkccencilhacaa
open Go.RowKit Go.Sort
open Num
set_option linter.unusedVariables false
set_option linter.unusedSimpArgs false
set_option maxRecDepth 20000

set_option maxHeartbeats 1000000 in
theorem sameIntsS_any {w : World} {u v : Value} {l : List Int} (hu : w.ownsRow 0 3 1 u l.length (l.map iV)) (hv : w.ownsRow 0 3 1 v l.length (l.map iV)) : Calls Try.prog 11 #[u, v] w fun e w' => e = .returned (.bool true) ∧ ∃ m, w' = w.drewN m := by
  obtain ⟨a1, c1, rfl, b1, b2⟩ := rowForm hu
  obtain ⟨a2, c2, rfl, b3, b4⟩ := rowForm hv
  unfold maxLen at b2 b4
  have one : ∀ (a : Option Addr) (c : Nat), w.ownsRow 0 3 1 (.slice a l.length c) l.length (l.map iV) → ∀ j, j < l.length → ∃ g, a = some ⟨g, 0, none⟩ ∧ w.cell? ⟨g, j, none⟩ = some (.int .i64 (l.getD j 0)) := fun a c h j hj => by
    have h' : w.ownsRow 0 3 1 (.slice a l.length c) (l.map iV).length (l.map iV) := by rw [List.length_map]; exact h
    obtain ⟨g, cap, e, hc⟩ := rowCell h' (j := j) (x := iV (l.getD j 0)) (by rw [List.getElem?_map, List.getElem?_eq_getElem hj]; simp [List.getD, hj])
    simp only [Value.slice.injEq] at e
    exact ⟨g, e.1, hc⟩
  have HC : Hid (∀ j, j < l.length → ∃ g g', a1 = some ⟨g, 0, none⟩ ∧ a2 = some ⟨g', 0, none⟩ ∧ w.cell? ⟨g, j, none⟩ = some (.int .i64 (l.getD j 0)) ∧ w.cell? ⟨g', j, none⟩ = some (.int .i64 (l.getD j 0))) := hide fun j hj => by
    obtain ⟨g, e, hc⟩ := one _ _ hu j hj
    obtain ⟨g', e', hc'⟩ := one _ _ hv j hj
    exact ⟨g, g', e, e', hc, hc'⟩
  clear hu hv one
  generalize l.length = n at *
  go_enter Try.func11, Try.ntmps11
  go_wp2_with fail
  go_loopw [5] (fun x wr => ∃ j : Nat, j ≤ n ∧ x = .int .i64 (j : Int) ∧ (∃ m, wr = w.drewN m)) (fun x _ => n - (intOf x).toNat)
  case atStart => exact ⟨0, Nat.zero_le _, rfl, ⟨0, rfl⟩⟩
  case round =>
    obtain ⟨j, hj, rfl, ⟨m0, rfl⟩⟩ := hrel
    by_cases hlt : j < n
    · obtain ⟨g, g', rfl, rfl, d1, d2⟩ := HC.out j hlt
      clear HC
      generalize l.getD j 0 = x at *
      have hne : ((x : Int) != (x : Int)) = false := by simp
      go_wp2_with fail
      go_quiet (fail)
      go_wp2_with fail
      go_roundw
      case rel => exact ⟨j + 1, by omega, by go_num, ⟨_, rfl⟩⟩
      case measure => simp [intOf]; omega
    · go_wp2_with fail
      go_ret
      exact ⟨rfl, _, rfl⟩
theorem row_ints {x : World} {g : Nat} {l : List Int} (h : x.heap[g]? = some (.cells (ints l) 3 (0, 0))) (hl : l.length ≤ 16) : x.ownsRow 0 3 1 (.slice (some ⟨g, 0, none⟩) l.length l.length) l.length (l.map iV) :=
  ⟨by simp, .inr ⟨g, l.length, ints l, rfl, Nat.zero_le _, h, Nat.le_refl _, by unfold maxLen; omega, by simp [ints], by simp only [ints]; exact List.take_of_length_le (by simp)⟩⟩
section
variable {w0 z : World} {px n ext size first0 nr lp first written : Nat} {S : LS} {bs : List (List Nat)} {wrote : Bool} {i : Nat}
theorem sGiven (hw : WN n ext size nr) (h : RgS w0 z px n ext size first0 nr S lp first written bs wrote i) : Calls Try.prog 21 #[.pointer (some ⟨px, 0, none⟩)] z fun e z' => ∃ v', e = .returned v' ∧ RSl z' v' bs ∧ Below z.heap.size z z' := by
  obtain ⟨p, bm, kv, rv, iv, gv, vs, hd, hs, hl⟩ := h
  have hbl := hs.len
  have hn1 := hw.n1
  refine (given_any ⟨_, hd.row, rfl⟩ hd.rg (by omega) (by omega) hl).mono ?_
  rintro e z' ⟨v', vs', rfl, hv, hb⟩
  exact ⟨v', rfl, hv.sl (by omega), hb⟩
theorem sReplay (hw : WN n ext size nr) (hnr : (nr : Int) = ringN (n : Int)) (hs : WS n ext size nr S first written bs true) (hsl : S.slots = n) {v : Value} (hv : RSl z v bs) : Calls Try.prog 9 #[.int .i64 (n : Int), .int .i64 (ext : Int), v] z fun e z' => ∃ g, e = .returned (.tuple #[.slice (some ⟨g, 0, none⟩) n n, .int .u32 (((first + written) % 4294967296 : Nat) : Int), .int .i64 0]) ∧ z'.heap[g]? = some (.cells (ints (rowL S)) 3 (0, 0)) ∧ Below z.heap.size z z' := by
  refine (replay_any n ext hv hw.s1 hw.s2 hw.e1 hw.e2 (by rw [hs.len]; exact hnr)).mono ?_
  rintro e z' ⟨res, hr, hb, hm⟩
  rw [hs.replay hr] at hm
  obtain ⟨g, -, rfl, hg, -⟩ := hm
  exact ⟨g, rfl, hg, hb⟩
theorem sSlots (h : RgS w0 z px n ext size first0 nr S lp first written bs wrote i) : Calls Try.prog 25 #[.pointer (some ⟨lp, 0, none⟩)] z fun e z' => e = .returned (.slice (some ⟨z.heap.size, 0, none⟩) n n) ∧ z'.heap[z.heap.size]? = some (.cells (ints (rowL S)) 3 (0, 0)) ∧ Below z.heap.size z z' := by
  obtain ⟨p, bm, kv, rv, iv, gv, vs, hd, hs, hl⟩ := h
  refine (slots_any hd.lg hd.ok).mono ?_
  rintro e z' ⟨zs, h1, rfl, h2, h3, h4⟩
  rw [hd.sl]
  refine ⟨rfl, ?_, h4⟩
  have : zs = rowL S := h3
  rw [← this]; exact h2
/-- Begin's answer in one form -/
def BgU (w0 : World) (px n ext size first0 nr : Nat) (S : LS) (lp first written : Nat) (bs : List (List Nat)) (wrote : Bool) (i : Nat) (e : Ending) (z' : World) : Prop :=
  ∃ c0 c1 c2 a k cc er, e = .returned (.tuple #[.agg #[.int .i64 c0, .int .i64 c1, .int .i64 c2], .slice a k cc, .int .i64 er]) ∧ ((k = 0 ∧ ∃ S', RgS w0 z' px n ext size first0 nr S' lp first written bs wrote (i + 1)) ∨ (k = size ∧ er = 0 ∧ ∃ S' rec, BSl z' (.slice a k cc) rec ∧ RgM w0 z' px n ext size first0 nr S' lp first written bs wrote rec i))
theorem sBeginU (hw : WN n ext size nr) (h : RgS w0 z px n ext size first0 nr S lp first written bs wrote i) (hi : i ≤ 1000000000000000) (x : Int) : Calls Try.prog 18 #[.pointer (some ⟨lp, 0, none⟩), .int .i64 x] z (BgU w0 px n ext size first0 nr S lp first written bs wrote i) := by
  obtain ⟨p, bm, kv, rv, iv, gv, vs, hd, hs, hl⟩ := h
  have hwr := hd.wr
  have hsz := hw.sz.ge
  refine (begin_any hd.lg hd.ok (by omega) (by omega) hw.e2 hw.sz x).mono ?_
  rintro e z' ⟨S', written', r, v, kv', rv', iv', rfl, hr, hrc, hl2, ho2, hc2, hloc⟩
  rcases hr with ⟨-, rfl, rfl, rfl⟩ | ⟨-, slot, old, gone, er, hg, rfl, rfl⟩ | ⟨hx, slot, old, gone, hg, rfl, rfl⟩
  · simp only [RcO] at hrc
    subst hrc
    exact ⟨_, _, _, _, _, _, _, rfl, .inl ⟨rfl, S', p, bm, kv', rv', iv', gv, vs, hd.turn hl2 ho2 rfl hc2 hloc (by omega), hs, hl⟩⟩
  · simp only [RcO] at hrc
    subst hrc
    have hks : S'.ks = S.ks ∧ S'.slots = S.slots := by
      rcases hg with ⟨s, -, rfl, -⟩ | ⟨-, -, -, -, e, -⟩ | ⟨-, -, s, r, o, -, -, -, -, e, -⟩ | ⟨-, -, -, rfl, -⟩
      · exact ⟨rfl, rfl⟩
      · cases e
      · cases e
      · exact ⟨rfl, rfl⟩
    exact ⟨_, _, _, _, _, _, _, rfl, .inl ⟨rfl, S', p, bm, kv', rv', iv', gv, vs, hd.turn hl2 ho2 hks.2 hc2 hloc (by omega), hs.same hks.1 hks.2, hl⟩⟩
  · obtain ⟨g, rfl, hrow, -, -⟩ := hrc
    have hlen : (recOf S' size first written (slot : Int) x (if gone then old else -1)).length = size := recOf_len (by omega)
    have hlt : ∀ b ∈ recOf S' size first written (slot : Int) x (if gone then old else -1), b < 256 := by
      rw [recOf_rc _ _ _ _ _ _ _ ho2.s1 ho2.s2]
      exact bytes_lt _ _
    exact ⟨_, _, _, _, _, _, _, rfl, .inr ⟨hlen, rfl, S', _, by rw [hlen]; exact bsl_row hrow hlen (by unfold maxLen; omega) hlt, p, bm, kv', rv', iv', gv, vs, hd.turn hl2 ho2 hg.slots hc2 hloc (by omega), hs.beg hw hd.ok hd.sl hx hg, hs.len, hlen, hl⟩⟩
theorem RgM.below {S' : LS} {rec : List Nat} {y : World} (h : RgM w0 z px n ext size first0 nr S' lp first written bs wrote rec i) (hb : Below z.heap.size z y) : RgM w0 y px n ext size first0 nr S' lp first written bs wrote rec i := by
  obtain ⟨p, bm, kv, rv, iv, gv, vs, hd, hr⟩ := h
  exact ⟨p, bm, kv, rv, iv, gv, vs, hd.below hb, hr⟩
theorem RgM.be {S' : LS} {rec : List Nat} (h : RgM w0 z px n ext size first0 nr S' lp first written bs wrote rec i) : Below w0.heap.size w0 z := by
  obtain ⟨p, bm, kv, rv, iv, gv, vs, hd, hr⟩ := h
  exact hd.be
theorem RgS.sl (h : RgS w0 z px n ext size first0 nr S lp first written bs wrote i) : S.slots = n ∧ WS n ext size nr S first written bs wrote := by
  obtain ⟨p, bm, kv, rv, iv, gv, vs, hd, hs, hl⟩ := h
  exact ⟨hd.sl, hs⟩
end
theorem there_new3 (w : World) (Z : Array Value) (t : TypeId) (n : Nat) (h : n ≤ Z.size) : (w.alloc (.cells Z t)).there w.heap.size 0 n := fun j hj => by
  have hg := Go.heap_alloc_new w (.cells Z t)
  rw [Nat.zero_add]
  exact ⟨by rw [cell_of_row _ _ _ _ _ _ hg, Array.getElem?_eq_getElem (by omega)]; rfl, frozen_of_row _ _ _ _ t hg⟩
theorem there_keep3 {W x : World} {g n : Nat} {Z : Array Value} {t : TypeId} (hr : x.heap[g]? = some (.cells Z t (0, 0))) (h : n ≤ Z.size) : x.there g 0 n := fun j hj => by
  rw [Nat.zero_add]
  exact ⟨by rw [cell_of_row _ _ _ _ _ _ hr, Array.getElem?_eq_getElem (by omega)]; rfl, frozen_of_row _ _ _ _ t hr⟩
end Go.Proofs.Ytlkccencilhacaa
namespace Go.Proofs.Ytlkccencilhacaa
open Go.RowKit Go.Sort
open Num
set_option linter.unusedVariables false
set_option linter.unusedSimpArgs false
set_option maxRecDepth 20000

theorem opk_in {w : World} {av : Option Addr} {l : List OpK} (h : 0 < l.length → ∃ b off, av = some ⟨b, off, none⟩ ∧ ∀ i (hi : i < l.length), w.cell? ⟨b, off + i * 3, none⟩ = some (.int .i64 l[i].kind) ∧ w.cell? ⟨b, off + i * 3 + 1, none⟩ = some (.int .i64 l[i].of_) ∧ w.cell? ⟨b, off + i * 3 + 2, none⟩ = some (.int .i64 l[i].key)) :
    ∀ x, Below w.heap.size w x → ∀ i, i < l.length → ∃ g off, av = some ⟨g, off, none⟩ ∧ x.cell? ⟨g, off + i * 3, none⟩ = some (.int .i64 (l.getD i ⟨0, 0, 0⟩).kind) ∧ x.cell? ⟨g, off + i * 3 + 1, none⟩ = some (.int .i64 (l.getD i ⟨0, 0, 0⟩).of_) ∧ x.cell? ⟨g, off + i * 3 + 2, none⟩ = some (.int .i64 (l.getD i ⟨0, 0, 0⟩).key) := fun x hb i hi => by
  obtain ⟨g, off, rfl, hc⟩ := h (by omega)
  have hlt := World.block_lt_of_cell? w _ (hc 0 (by omega)).1
  obtain ⟨c0, c1, c2⟩ := hc i hi
  have e : l.getD i ⟨0, 0, 0⟩ = l[i] := by simp [List.getD, hi]
  rw [e]
  exact ⟨g, off, rfl, (World.cell?_of_block (hb.block g hlt)).trans c0, (World.cell?_of_block (hb.block g hlt)).trans c1, (World.cell?_of_block (hb.block g hlt)).trans c2⟩
theorem saved_no (w : World) (a b c : Int) (d : Nat) (sv : Value) (hm : ¬ okM a b c) : Calls Try.prog 5 #[.agg #[.int .i64 a, .int .i64 b, .int .i64 c, .int .u32 (d : Int)], sv] w fun e w' => e = .returned (.bool true) ∧ Below w.heap.size w w' := by
  have HG := hide fun x => good_any x a b c (d : Int)
  rw [decide_eq_false hm] at HG
  have HB0 := hide ((Below.refl w.heap.size w).alloc (Nat.le_refl _) (.cells #[.int .i64 a, .int .i64 b, .int .i64 c, .int .u32 (d : Int)] 35))
  clear hm
  go_enter Try.func5, Try.ntmps5
  go_wp2_with (go_at_call 14; refine (HG.out _).mono ?_; rintro e y ⟨rfl, hb⟩; have HY := hide (HB0.out.trans (hb.mono HB0.out.size)); clear hb)
  go_ret
  exact ⟨rfl, HY.out⟩
theorem RigP.rgs {w w' : World} {n ext size d nr : Nat} {e : Ending} (hd : d < 4294967296) (hs : size ≤ 1024) (h : RigP w n ext size d nr e w') : ∃ px lp, e = .returned (.tuple #[.pointer (some ⟨px, 0, none⟩), .bool true]) ∧ RgS w w' px n ext size d nr ⟨n, [], [], [], []⟩ lp d 0 (List.replicate nr (List.replicate size 0)) false 0 := by
  obtain ⟨px, lp, p, bm, gv, vs, rfl, h⟩ := h
  refine ⟨px, lp, rfl, _, _, _, _, _, _, _, h, WS.start hd, fun k => ?_⟩
  rcases Nat.lt_or_ge k nr with hk | hk
  · simp [List.getD, hk]; omega
  · simp [List.getD, Nat.not_lt.2 hk]
theorem rgs_len {w0 z : World} {px n ext size first0 nr lp first written : Nat} {S : LS} {bs : List (List Nat)} {wrote : Bool} {i : Nat} (h : RgS w0 z px n ext size first0 nr S lp first written bs wrote i) : (rowL S).length = n ∧ n ≤ 16 := by
  obtain ⟨p, bm, kv, rv, iv, gv, vs, hd, hs, hl⟩ := h
  have := hd.ok.s2
  rw [hd.sl] at this
  exact ⟨(rowL_len hd.ok).trans hd.sl, this⟩
theorem same_rows {z : World} {g g' n : Nat} {l : List Int} (hl : l.length = n ∧ n ≤ 16) (h : z.heap[g]? = some (.cells (ints l) 3 (0, 0))) (h' : z.heap[g']? = some (.cells (ints l) 3 (0, 0))) : Calls Try.prog 11 #[.slice (some ⟨g, 0, none⟩) n n, .slice (some ⟨g', 0, none⟩) n n] z fun e w' => e = .returned (.bool true) ∧ ∃ m, w' = z.drewN m := by
  obtain ⟨rfl, h2⟩ := hl
  exact sameIntsS_any (row_ints h h2) (row_ints h' h2)
theorem below_row {y z : World} {g : Nat} {o : Obj} (hb : Below y.heap.size y z) (h : y.heap[g]? = some o) : z.heap[g]? = some o := (hb.block g (Array.getElem?_eq_some_iff.1 h).1).trans h
theorem below_some {y z : World} (h : ∃ m, z = y.drewN m) : Below y.heap.size y z := by
  obtain ⟨m, rfl⟩ := h
  exact below_drewN (Below.refl _ _) m
def TyS (x z : World) : Prop := ∀ (g : Nat) (cs : Array Value), x.heap[g]? = some (.cells cs 48 (0, 0)) → z.heap[g]? = some (.cells cs 48 (0, 0))
theorem cellB {x y : World} {a : Addr} {v : Value} (hb : Below x.heap.size x y) (h : x.cell? a = some v) : y.cell? a = some v := (World.cell?_of_block (hb.block _ (World.block_lt_of_cell? x _ h))).trans h
section
variable {w0 z : World} {px n ext size first0 nr lp first written : Nat} {S : LS} {bs : List (List Nat)} {wrote : Bool} {i : Nat}
theorem sEndO (h : RgS w0 z px n ext size first0 nr S lp first written bs wrote i) (hi : i ≤ 1000000000000000) {x : Int} (hx : i64ok x) : Calls Try.prog 20 #[.pointer (some ⟨lp, 0, none⟩), .int .i64 x] z fun e z' => EnS w0 px n ext size first0 nr lp first written bs wrote i e z' ∧ OpS z z' := by
  have h' := h
  obtain ⟨p, bm, kv, rv, iv, gv, vs, hd, hs, hl⟩ := h'
  have hwr := hd.wr
  refine (lEnd_any hd.lg hd.ok (by omega) hx).mono ?_
  rintro e z' (⟨-, rfl, rfl⟩ | ⟨-, S', er, iv', hp, rfl, hl2, ho2, hc2, hloc⟩)
  · exact ⟨⟨_, S, rfl, h.up⟩, fun _ _ e => e⟩
  · have hks : S'.ks = S.ks ∧ S'.slots = S.slots := by
      rcases hp with ⟨-, rfl, -⟩ | ⟨s, r, -, -, rfl, -⟩ <;> exact ⟨rfl, rfl⟩
    refine ⟨⟨_, S', rfl, p, bm, kv, rv, iv', gv, vs, hd.turn hl2 (ho2.up (by omega)) hks.2 (hc2.mono fun b _ e => .inr e) (fun b e => ?_) (by omega), hs.same hks.1 hks.2, hl⟩, hd.lg.ops (hc2.mono fun b _ e => .inr e)⟩
    rcases e with e | e
    · exact .inl (.inl e)
    · rcases hloc b e with q | q
      · exact .inl (.inr q)
      · exact .inr q
theorem sBeginO (hw : WN n ext size nr) (h : RgS w0 z px n ext size first0 nr S lp first written bs wrote i) (hi : i ≤ 1000000000000000) (x : Int) : Calls Try.prog 18 #[.pointer (some ⟨lp, 0, none⟩), .int .i64 x] z fun e z' => BgU w0 px n ext size first0 nr S lp first written bs wrote i e z' ∧ OpS z z' ∧ TyS z z' := by
  obtain ⟨p, bm, kv, rv, iv, gv, vs, hd, hs, hl⟩ := h
  have hwr := hd.wr
  have hsz := hw.sz.ge
  refine (begin_any hd.lg hd.ok (by omega) (by omega) hw.e2 hw.sz x).mono ?_
  rintro e z' ⟨S', written', r, v, kv', rv', iv', rfl, hr, hrc, hl2, ho2, hc2, hloc⟩
  rcases hr with ⟨-, rfl, rfl, rfl⟩ | ⟨-, slot, old, gone, er, hg, rfl, rfl⟩ | ⟨hx, slot, old, gone, hg, rfl, rfl⟩
  · simp only [RcO] at hrc
    subst hrc
    refine ⟨⟨_, _, _, _, _, _, _, rfl, .inl ⟨rfl, S', p, bm, kv', rv', iv', gv, vs, hd.turn hl2 ho2 rfl hc2 hloc (by omega), hs, hl⟩⟩, hd.lg.ops hc2, fun g cs e => (hc2.keep g (Array.getElem?_eq_some_iff.1 e).1 (hd.lg.notTy e (by decide) (by decide) (by decide))).trans e⟩
  · simp only [RcO] at hrc
    subst hrc
    have hks : S'.ks = S.ks ∧ S'.slots = S.slots := by
      rcases hg with ⟨s, -, rfl, -⟩ | ⟨-, -, -, -, e, -⟩ | ⟨-, -, s, r, o, -, -, -, -, e, -⟩ | ⟨-, -, -, rfl, -⟩
      · exact ⟨rfl, rfl⟩
      · cases e
      · cases e
      · exact ⟨rfl, rfl⟩
    refine ⟨⟨_, _, _, _, _, _, _, rfl, .inl ⟨rfl, S', p, bm, kv', rv', iv', gv, vs, hd.turn hl2 ho2 hks.2 hc2 hloc (by omega), hs.same hks.1 hks.2, hl⟩⟩, hd.lg.ops hc2, fun g cs e => (hc2.keep g (Array.getElem?_eq_some_iff.1 e).1 (hd.lg.notTy e (by decide) (by decide) (by decide))).trans e⟩
  · obtain ⟨g, rfl, hrow, -, -⟩ := hrc
    have hlen : (recOf S' size first written (slot : Int) x (if gone then old else -1)).length = size := recOf_len (by omega)
    have hlt : ∀ b ∈ recOf S' size first written (slot : Int) x (if gone then old else -1), b < 256 := by
      rw [recOf_rc _ _ _ _ _ _ _ ho2.s1 ho2.s2]
      exact bytes_lt _ _
    refine ⟨⟨_, _, _, _, _, _, _, rfl, .inr ⟨hlen, rfl, S', _, by rw [hlen]; exact bsl_row hrow hlen (by unfold maxLen; omega) hlt, p, bm, kv', rv', iv', gv, vs, hd.turn hl2 ho2 hg.slots hc2 hloc (by omega), hs.beg hw hd.ok hd.sl hx hg, hs.len, hlen, hl⟩⟩, hd.lg.ops hc2, fun g cs e => (hc2.keep g (Array.getElem?_eq_some_iff.1 e).1 (hd.lg.notTy e (by decide) (by decide) (by decide))).trans e⟩
theorem BgU.cell {e : Ending} {z' : World} (h : BgU w0 px n ext size first0 nr S lp first written bs wrote i e z') : z'.cell? ⟨px, 0, none⟩ = some (.pointer (some ⟨lp, 0, none⟩)) := by
  obtain ⟨c0, c1, c2, a, k, cc, er, -, ⟨-, S', h⟩ | ⟨-, -, S', rec, -, p, bm, kv, rv, iv, gv, vs, hd, -⟩⟩ := h
  · exact h.cells.1
  · exact cell_of_row _ _ _ _ _ _ hd.row
/-- a cell of a change's box written -/
theorem RgD.box {p bm : Nat} {kv rv iv gv : Value} {vs : List Value} (h : RgD w0 z px lp p bm kv rv iv S n ext size first0 first written gv vs bs wrote i) {g : Nat} {cs : Array Value} (hg : z.heap[g]? = some (.cells cs 48 (0, 0))) (hw : w0.heap.size ≤ g) (k : Nat) (v : Value) : RgD w0 (z.setCell ⟨g, k, none⟩ v) px lp p bm kv rv iv S n ext size first0 first written gv vs bs wrote i := by
  have hset : ∀ b', b' ≠ g → (z.setCell ⟨g, k, none⟩ v).heap[b']? = z.heap[b']? := fun b' hb => Go.heap_setCell_other _ _ _ _ hb
  refine ⟨(hset _ (neType h.row hg (by decide))).trans h.row, h.lg.kept fun b e => hset b fun e2 => h.lg.notTy hg (by decide) (by decide) (by decide) (e2 ▸ e), h.ok, h.sl, h.rg.keep (fun g' hg' => ?_) (fun g' cs' hc => hset g' (neType hc hg (by decide))), h.be.trans ⟨rfl, rfl, rfl, by rw [World.size_setCell]; exact Nat.le_refl _, fun b hb => hset b (by omega)⟩, h.lo, h.po, h.wr⟩
  obtain ⟨cs', hc⟩ := rowCells h.rg.row hg'
  exact hset g' (neType hc hg (by decide))
theorem RgS.box (h : RgS w0 z px n ext size first0 nr S lp first written bs wrote i) {g : Nat} {cs : Array Value} (hg : z.heap[g]? = some (.cells cs 48 (0, 0))) (hw : w0.heap.size ≤ g) (k : Nat) (v : Value) : RgS w0 (z.setCell ⟨g, k, none⟩ v) px n ext size first0 nr S lp first written bs wrote i := by
  obtain ⟨p, bm, kv, rv, iv, gv, vs, hd, hr⟩ := h
  exact ⟨p, bm, kv, rv, iv, gv, vs, hd.box hg hw k v, hr⟩
theorem RgM.box {rec : List Nat} (h : RgM w0 z px n ext size first0 nr S lp first written bs wrote rec i) {g : Nat} {cs : Array Value} (hg : z.heap[g]? = some (.cells cs 48 (0, 0))) (hw : w0.heap.size ≤ g) (k : Nat) (v : Value) : RgM w0 (z.setCell ⟨g, k, none⟩ v) px n ext size first0 nr S lp first written bs wrote rec i := by
  obtain ⟨p, bm, kv, rv, iv, gv, vs, hd, hr⟩ := h
  exact ⟨p, bm, kv, rv, iv, gv, vs, hd.box hg hw k v, hr⟩
theorem bsl_box3 {g : Nat} {v : Value} {l : List Nat} (h : BSl z v l) (hg : z.heap[g]? = some (.cells #[.int .i64 0, .int .i64 0, .int .i64 0] 48 (0, 0))) (a b c : Value) : BSl (((z.setCell ⟨g, 0, none⟩ a).setCell ⟨g, 1, none⟩ b).setCell ⟨g, 2, none⟩ c) v l := by
  obtain ⟨ad, cap, rfl, h1, h2, h3, h4, h5⟩ := h
  refine ⟨ad, cap, rfl, h1, h2, h3, h4, fun hl => ?_⟩
  obtain ⟨b0, off, rfl, hc⟩ := h5 hl
  have hne : g ≠ b0 := by
    rintro rfl
    have h0 := hc 0 hl
    rw [Nat.add_zero, cell_of_row _ _ _ _ _ _ hg] at h0
    rcases off with _ | _ | _ | off <;> simp at h0
  exact ⟨b0, off, rfl, fun i hi => by simp [World.cell?_setCell_far, hne, hc i hi]⟩
def BgT (w0 : World) (px n ext size first0 nr lp first written : Nat) (bs : List (List Nat)) (wrote : Bool) (i : Nat) (a : Option Addr) (k cc : Nat) (er : Int) (y : World) : Prop := (k = 0 ∧ ∃ S', RgS w0 y px n ext size first0 nr S' lp first written bs wrote (i + 1)) ∨ (k = size ∧ er = 0 ∧ ∃ S' rec, BSl y (.slice a k cc) rec ∧ RgM w0 y px n ext size first0 nr S' lp first written bs wrote rec i)
theorem BgT.below {a : Option Addr} {k cc : Nat} {er : Int} {y : World} (h : BgT w0 px n ext size first0 nr lp first written bs wrote i a k cc er z) (hb : Below z.heap.size z y) : BgT w0 px n ext size first0 nr lp first written bs wrote i a k cc er y := by
  rcases h with ⟨h1, S', h⟩ | ⟨h1, h2, S', rec, h3, h4⟩
  · exact .inl ⟨h1, S', h.below hb⟩
  · exact .inr ⟨h1, h2, S', rec, h3.below hb, h4.below hb⟩
theorem BgT.box3 {a : Option Addr} {k cc : Nat} {er : Int} {g : Nat} (h : BgT w0 px n ext size first0 nr lp first written bs wrote i a k cc er z) (hg : z.heap[g]? = some (.cells #[.int .i64 0, .int .i64 0, .int .i64 0] 48 (0, 0))) (hw : w0.heap.size ≤ g) (u v x : Value) : BgT w0 px n ext size first0 nr lp first written bs wrote i a k cc er (((z.setCell ⟨g, 0, none⟩ u).setCell ⟨g, 1, none⟩ v).setCell ⟨g, 2, none⟩ x) := by
  have g1 := Go.heap_setCell_same _ _ 0 _ 48 u hg
  have g2 := Go.heap_setCell_same _ _ 1 _ 48 v g1
  rcases h with ⟨h1, S', h⟩ | ⟨h1, h2, S', rec, h3, h4⟩
  · exact .inl ⟨h1, S', ((h.box hg hw 0 u).box g1 hw 1 v).box g2 hw 2 x⟩
  · exact .inr ⟨h1, h2, S', rec, bsl_box3 h3 hg u v x, ((h4.box hg hw 0 u).box g1 hw 1 v).box g2 hw 2 x⟩
theorem u32_next (a b : Nat) : IntKind.u32.wrap ((((a + b) % 4294967296 : Nat) : Int) + 1) = (((a + (b + 1)) % 4294967296 : Nat) : Int) := by
  simp [IntKind.wrap, IntKind.bits, IntKind.signed]; omega
end
end Go.Proofs.Ytlkccencilhacaa
namespace Go.Proofs.Ytlkccencilhacaa
open Go.RowKit Go.Sort
open Num
set_option linter.unusedVariables false
set_option linter.unusedSimpArgs false
set_option maxRecDepth 20000

/-- blocks of the book's kind stay -/
def UseS (x z : World) : Prop := ∀ (g : Nat) (cs : Array Value), x.heap[g]? = some (.cells cs 66 (0, 0)) → z.heap[g]? = x.heap[g]?
theorem UseS.below {x z : World} (h : Below x.heap.size x z) : UseS x z := fun g cs e => h.block g (Array.getElem?_eq_some_iff.1 e).1
theorem UseS.trans {x y z : World} (h : UseS x y) (k : UseS y z) : UseS x z := fun g cs e => (k g cs ((h g cs e).trans e)).trans (h g cs e)
theorem LgR.uses {w z : World} {lp p bm : Nat} {kv rv iv : Value} {S : LS} {ext size first written : Nat} (h : LgR w lp p bm kv rv iv S ext size first written) (hc : Chg (GU lp p bm kv rv iv) w z) : UseS w z := fun g cs e => hc.keep g (Array.getElem?_eq_some_iff.1 e).1 (h.notTy e (by decide) (by decide) (by decide))
theorem BkR.uses {base : Nat} {x z : World} {v : Value} {L : List Us} (h : BkR base x v L) (hu : UseS x z) : BkR base z v L := h.kept fun g hg => by
  obtain ⟨cs, hc⟩ := rowCells h hg
  exact hu g cs hc
/-- the book turned: the rig stands -/
theorem RgD.use {w0 x y : World} {px lp p bm : Nat} {kv rv iv : Value} {S : LS} {n ext size first0 first written : Nat} {gv : Value} {vs : List Value} {bs : List (List Nat)} {wrote : Bool} {i : Nat} (h : RgD w0 x px lp p bm kv rv iv S n ext size first0 first written gv vs bs wrote i) {v : Value} {L : List Us} (hb : BkR w0.heap.size x v L) (hc : Chg (fun b => v.ownBlock = some b) x y) : RgD w0 y px lp p bm kv rv iv S n ext size first0 first written gv vs bs wrote i := by
  have key : ∀ (g : Nat) (cs : Array Value) (t : TypeId), x.heap[g]? = some (.cells cs t (0, 0)) → t ≠ 66 → y.heap[g]? = x.heap[g]? := fun g cs t e ht => hc.keep g (Array.getElem?_eq_some_iff.1 e).1 fun hg => by
    obtain ⟨cs', hc'⟩ := rowCells hb hg
    exact neType e hc' ht rfl
  refine ⟨(key _ _ _ h.row (by decide)).trans h.row, h.lg.kept fun b e => hc.keep b (h.lg.lt b e) (fun e2 => h.lg.notBook hb b e2 e), h.ok, h.sl, h.rg.keep (fun g' hg' => ?_) (fun g' cs' hc => key g' cs' _ hc (by decide)), h.be.trans (hc.below h.be.size fun b e => (hb.lt b e).1), h.lo, h.po, h.wr⟩
  obtain ⟨cs', hc'⟩ := rowCells h.rg.row hg'
  exact key g' cs' _ hc' (by decide)
theorem RgS.use {w0 x y : World} {px n ext size first0 nr lp first written : Nat} {S : LS} {bs : List (List Nat)} {wrote : Bool} {i : Nat} (h : RgS w0 x px n ext size first0 nr S lp first written bs wrote i) {v : Value} {L : List Us} (hb : BkR w0.heap.size x v L) (hc : Chg (fun b => v.ownBlock = some b) x y) : RgS w0 y px n ext size first0 nr S lp first written bs wrote i := by
  obtain ⟨p, bm, kv, rv, iv, gv, vs, hd, hr⟩ := h
  exact ⟨p, bm, kv, rv, iv, gv, vs, hd.use hb hc, hr⟩
def LayU (x w0 : World) (px lp p bm : Nat) (kv rv iv : Value) (S : LS) (n ext size first0 first written : Nat) (gv : Value) (bs : List (List Nat)) (num : Nat) (l : List Nat) (i : Nat) (e : Ending) (w' : World) : Prop := LayP w0 px lp p bm kv rv iv S n ext size first0 first written gv bs num l i e w' ∧ UseS x w' ∧ OpS x w'
set_option maxHeartbeats 4000000 in
theorem xlayU_any {w0 x : World} {px lp p bm : Nat} {kv rv iv : Value} {S : LS} {n ext size first0 first written : Nat} {gv : Value} {vs : List Value} {bs : List (List Nat)} {wrote : Bool} {i : Nat} (h : RgD w0 x px lp p bm kv rv iv S n ext size first0 first written gv vs bs wrote i) (hn1 : 1 ≤ bs.length) (hn4 : bs.length ≤ 4) (hsz : size ≤ 1024) (num : Nat) (hnum : num < 4294967296) (v : Value) (l : List Nat) (hv : BSl x v l) (hl : l.length = size) :
    Calls Try.prog 19 #[.pointer (some ⟨px, 0, none⟩), v, .int .u32 (num : Int)] x (LayU x w0 px lp p bm kv rv iv S n ext size first0 first written gv bs num l i) := by
  obtain ⟨g, cap, rfl, hgc⟩ : ∃ g cap, gv = .slice (some ⟨g, 0, none⟩) bs.length cap ∧ bs.length ≤ cap := by
    rcases h.rg.row.2 with ⟨e, e2⟩ | ⟨g', cap', cur, e, _, _, h1, _⟩
    · have := h.rg.len; omega
    · rw [h.rg.len] at e h1; exact ⟨g', cap', e, h1⟩
  have HCP := hide (copied_any v l x.drew hv (by omega))
  have HF : Hid (∀ z v', UB z x.heap.size v' l → Below x.heap.size x z → (∃ u, z.cell? ⟨g, num % bs.length, none⟩ = some u) ∧ z.frozen? ⟨g, num % bs.length, none⟩ = false ∧ z.cell? ⟨px, 5, none⟩ = some (.slice (some ⟨g, 0, none⟩) bs.length cap) ∧ (z.setCell ⟨g, num % bs.length, none⟩ v').cell? ⟨px, 5, none⟩ = some (.slice (some ⟨g, 0, none⟩) bs.length cap) ∧ (z.setCell ⟨g, num % bs.length, none⟩ v').cell? ⟨px, 6, none⟩ = some (.bool wrote) ∧ (z.setCell ⟨g, num % bs.length, none⟩ v').frozen? ⟨px, 6, none⟩ = false ∧ LayU x w0 px lp p bm kv rv iv S n ext size first0 first written (.slice (some ⟨g, 0, none⟩) bs.length cap) bs num l i (.returned (.bool true)) ((z.setCell ⟨g, num % bs.length, none⟩ v').setCell ⟨px, 6, none⟩ (.bool true))) := hide fun z v' hu hb => by
    have hz := h.below hb
    have hk : num % bs.length < bs.length := Nat.mod_lt _ (by omega)
    have hp := hz.put rfl hk (hu.mono h.be.size)
    obtain ⟨cs, hc⟩ := rowCells hz.rg.row (g := g) rfl
    refine ⟨?_, frozen_of_row _ _ _ _ 23 hc, cell_of_row _ _ _ _ _ _ hz.row, cell_of_row _ _ _ _ _ _ hp.row, cell_of_row _ _ _ _ _ _ hp.row, frozen_of_row _ _ _ _ 45 hp.row, ⟨rfl, _, hp.setW true⟩, fun g' cs' e => ?_, fun g' cs' e => ?_⟩
    rotate_left
    · obtain ⟨csx, hcx⟩ := rowCells h.rg.row (g := g) rfl
      exact (Go.heap_setCell_other _ _ _ _ (neType e h.row (by decide))).trans ((Go.heap_setCell_other _ _ _ _ (neType e hcx (by decide))).trans (hb.block g' (Array.getElem?_eq_some_iff.1 e).1))
    · obtain ⟨csx, hcx⟩ := rowCells h.rg.row (g := g) rfl
      exact ((Go.heap_setCell_other _ _ _ _ (neType e h.row (by decide))).trans ((Go.heap_setCell_other _ _ _ _ (neType e hcx (by decide))).trans (hb.block g' (Array.getElem?_eq_some_iff.1 e).1))).trans e
    have hrr := hz.rg.row
    rw [hz.rg.len] at hrr
    rw [hrr.cellAt _ (by omega)]
    exact ⟨_, List.getElem?_eq_getElem (by rw [hz.rg.len]; exact hk)⟩
  have c3 : x.cell? ⟨px, 3, none⟩ = some (.int .i64 (size : Int)) := cell_of_row _ _ _ _ _ _ h.row
  have c5 : x.cell? ⟨px, 5, none⟩ = some (.slice (some ⟨g, 0, none⟩) bs.length cap) := cell_of_row _ _ _ _ _ _ h.row
  obtain ⟨va, vcap, rfl, -⟩ := hv
  rw [hl] at HCP ⊢
  have hrem : (num : Int) % (bs.length : Int) = ((num % bs.length : Nat) : Int) := by simp
  have hrem2 : (num : Int).tmod (bs.length : Int) = ((num % bs.length : Nat) : Int) := by rw [Int.tmod_eq_emod_of_nonneg (by omega)]; exact hrem
  have hkl : ((num % bs.length : Nat) : Int) < (bs.length : Int) := by have := Nat.mod_lt num (show 0 < bs.length by omega); omega
  have hkl2 : num % bs.length < bs.length := Nat.mod_lt num (by omega)
  clear h hl
  generalize num % bs.length = kk at *
  have HBL : Hid (bs.length = bs.length) := hide rfl
  generalize hbl : bs.length = nb at *
  clear hbl HBL
  have hnb : ¬ (nb : Int) = 0 := by omega
  have hnb2 : ¬ nb = 0 := by omega
  have hw1 : IntKind.i64.wrap (num : Int) = (num : Int) := by simp [IntKind.wrap, IntKind.bits, IntKind.signed]; omega
  have hw2 : IntKind.i64.wrap (kk : Int) = (kk : Int) := by simp [IntKind.wrap, IntKind.bits, IntKind.signed]; omega
  have hw3 : IntKind.i64.wrap ((num : Int) % (nb : Int)) = (kk : Int) := by rw [hrem, hw2]
  go_enter Try.func19, Try.ntmps19
  go_wp2_with fail
  go_region_held3 (fun z => z.cell? ⟨px, 5, none⟩ = some (.slice (some ⟨g, 0, none⟩) nb cap)) (first | exact c5 | exact x5 | exact x5b)
    ((go_at_call 8; refine HCP.out.mono ?_; rintro e z ⟨v', rfl, hu, hb⟩; obtain ⟨a9, cap9, rfl⟩ := hu.form; obtain ⟨⟨u9, y1⟩, y2, x5, x5b, y4, y5, y6⟩ := HF.out z _ hu ⟨hb.os, hb.tape, hb.output, hb.size, hb.block⟩; have HL6 := hide y6; clear hu hb y6))
  go_wp2_with fail
  go_ret
  exact HL6.out
end Go.Proofs.Ytlkccencilhacaa
namespace Go.Proofs.Ytlkccencilhacaa
open Go.RowKit Go.Sort
open Num
set_option linter.unusedVariables false
set_option linter.unusedSimpArgs false
set_option maxRecDepth 20000

/-- what a ring says names all that have references -/
def Cvr (n ext : Nat) (bs : List (List Nat)) (L : List Us) : Prop := ∀ res, RpRes n ext bs res → ∃ row N, res = some (row, N) ∧ ∀ u ∈ L, u.back < u.got → u.key ∈ row
theorem WS.cvr {n ext size nr first written i : Nat} {S : LS} {bs : List (List Nat)} {wrote : Bool} {L : List Us} (hw : WN n ext size nr) (h : WS n ext size nr S first written bs wrote) (hk : Kb S L ext i) : Cvr n ext bs L := by
  intro res hr
  cases wrote
  · obtain ⟨row, N, rfl⟩ := h.some hw hr
    refine ⟨row, N, rfl, fun u hu hlt => ?_⟩
    have hks : S.ks = [] := by
      rcases h.2 with ⟨e, -⟩ | ⟨-, -, e, -⟩
      · cases e
      · exact e
    have := (hk.rf u hu).pos (by omega)
    rw [hks] at this
    simp at this
  · rw [h.replay hr]
    refine ⟨_, _, rfl, fun u hu hlt => ?_⟩
    have := (hk.rf u hu).pos (by omega)
    unfold rowL
    exact List.mem_append_left _ this
/-- the book with one reference more -/
def TkD (L : List Us) (x : Int) (L' : List Us) : Prop := (∃ (j : Nat) (u : Us), L[j]? = some u ∧ u.key = x ∧ L' = L.set j { u with got := u.got + 1 }) ∨ ((∀ u ∈ L, u.key ≠ x) ∧ L' = L ++ [⟨x, 1, 0, 0⟩])
theorem TkD.ex (L : List Us) (x : Int) : ∃ L', TkD L x L' := by
  by_cases h : ∃ u ∈ L, u.key = x
  · obtain ⟨u, hu, e⟩ := h
    obtain ⟨j, hj⟩ := List.getElem?_of_mem hu
    exact ⟨_, .inl ⟨j, u, hj, e, rfl⟩⟩
  · exact ⟨_, .inr ⟨fun u hu e => h ⟨u, hu, e⟩, rfl⟩⟩
theorem TkD.live {L L' : List Us} {x : Int} (h : TkD L x L') : ∀ u ∈ L, u.back < u.got → ∃ u' ∈ L', u'.back < u'.got ∧ u'.key = u.key := fun u hu hlt => by
  rcases h with ⟨j, v, hj, rfl, rfl⟩ | ⟨-, rfl⟩
  · obtain ⟨i, hi⟩ := List.getElem?_of_mem hu
    by_cases e : i = j
    · subst e
      rw [hj] at hi
      obtain rfl := Option.some.inj hi
      have hjl := (List.getElem?_eq_some_iff.1 hj).1
      exact ⟨_, List.mem_of_getElem? (List.getElem?_set_self hjl), by show v.back < v.got + 1; omega, rfl⟩
    · exact ⟨u, List.mem_of_getElem? (by rw [List.getElem?_set_ne (fun h => e h.symm)]; exact hi), hlt, rfl⟩
  · exact ⟨u, List.mem_append_left _ hu, hlt, rfl⟩
theorem Cvr.sub {n ext : Nat} {bs : List (List Nat)} {L L' : List Us} {x : Int} (h : Cvr n ext bs L') (ht : TkD L x L') : Cvr n ext bs L := fun res hr => by
  obtain ⟨row, N, e, hm⟩ := h res hr
  refine ⟨row, N, e, fun u hu hlt => ?_⟩
  obtain ⟨u', hu', hl', e'⟩ := ht.live u hu hlt
  rw [← e']
  exact hm u' hu' hl'
/-- Begin, in the book -/
theorem Kb.tk {S S' : LS} {L L' : List Us} {ext i slot : Nat} {x old : Int} {fresh gone : Bool} (h : Kb S L ext i) (hS : S.Ok i) (hS' : S'.Ok (i + 1)) (hx : 0 ≤ x ∧ x < (ext : Int)) (hg : GetRes S x S' slot fresh old gone 0) (ht : TkD L x L') : Kb S' L' ext (i + 1) := by
  obtain ⟨r1, r2⟩ := hg.refs hS rfl
  rcases ht with ⟨j, u, hj, rfl, rfl⟩ | ⟨hn, rfl⟩
  · have hu := List.mem_of_getElem? hj
    have hgb := h.gb u hu
    refine h.line hS hS' hj rfl ⟨?_, ?_⟩ r1 ?_
    · show u.back ≤ u.got + 1; omega
    · show u.got + 1 ≤ i + 1; omega
    · have := r2 _ (h.rf u hu)
      rwa [show u.got - u.back + 1 = u.got + 1 - u.back by omega] at this
  · exact h.more hS hS' hn hx r1 r2
theorem took_any {base : Nat} {w : World} {v : Value} {L L' : List Us} {S : LS} {ext i : Nat} {x : Int} (h : BkR base w v L) (hk : Kb S L ext i) (he : ext ≤ 1024) (hi : i ≤ 1000000000000000) (hbs : base ≤ w.heap.size) (ht : TkD L x L') :
    Calls Try.prog 27 #[v, .int .i64 x] w fun e w' => ∃ v', e = .returned v' ∧ BkR base w' v' L' ∧ Chg (fun b => v.ownBlock = some b) w w' := by
  have hl := hk.len
  rcases ht with ⟨j, u, hj, rfl, rfl⟩ | ⟨hn, rfl⟩
  · have hgb := hk.gb u (List.mem_of_getElem? hj)
    refine (took_in h (by omega) hj (fun k v' h1 h2 => hk.uniq h1 hj h2) (by omega)).mono ?_
    rintro e w' ⟨rfl, h1, h2⟩
    exact ⟨v, rfl, h1, h2⟩
  · exact took_new h (by omega) hbs hn
set_option maxHeartbeats 4000000 in
theorem covers_any {w0 z : World} {px lp p bm n ext size first0 nr first written i : Nat} {kv rv iv gv : Value} {S : LS} {vs : List Value} {bs : List (List Nat)} {wrote : Bool} (hw : WN n ext size nr) (hnr : (nr : Int) = ringN (n : Int)) (h : RgD w0 z px lp p bm kv rv iv S n ext size first0 first written gv vs bs wrote i) (hbl : bs.length = nr) (hl : ∀ k, (bs.getD k []).length ≤ 1024) {base : Nat} {v : Value} {L : List Us} (hb : BkR base z v L) (hL : L.length ≤ 2000) (hc : Cvr n ext bs L) :
    Calls Try.prog 26 #[.pointer (some ⟨px, 0, none⟩), v] z fun e z' => e = .returned (.bool true) ∧ Below z.heap.size z z' := by
  have hn1 := hw.n1
  have h2 := hw.s2
  have HG := hide (given_any (px := px) (w := z.drew) ⟨_, h.row, rfl⟩ (h.rg.below ((Below.refl _ _).drew)) (by omega) (by omega) hl)
  have HRP : Hid (∀ y v', RSl y v' bs → Calls Try.prog 9 #[.int .i64 (n : Int), .int .i64 (ext : Int), v'] y fun e y' => (∃ (g N : Nat) (row : List Int), e = .returned (.tuple #[.slice (some ⟨g, 0, none⟩) n n, .int .u32 (N : Int), .int .i64 0]) ∧ y'.heap[g]? = some (.cells (ints row) 3 (0, 0)) ∧ row.length = n ∧ ∀ u ∈ L, u.back < u.got → u.key ∈ row) ∧ Below y.heap.size y y') := hide fun y v' hv => by
    refine (replay_any n ext hv hw.s1 hw.s2 hw.e1 hw.e2 (by rw [hbl]; exact hnr)).mono ?_
    rintro e y' ⟨res, hr, hbb, hm⟩
    obtain ⟨row, N, rfl, hmem⟩ := hc res hr
    obtain ⟨g, -, rfl, hg1, hg2⟩ := hm
    exact ⟨⟨g, N, row, rfl, hg1, hg2, hmem⟩, hbb⟩
  have HRS : Hid (∀ y v' vs', RgV y z.drew.heap.size v' bs vs' → RSl y v' bs) := hide fun y v' vs' hv => hv.sl (by omega)
  have HNU := hide fun y => num_any y 0
  have HC : Hid (∀ y, Below z.heap.size z y → y.cell? ⟨px, 1, none⟩ = some (.int .i64 (n : Int)) ∧ y.cell? ⟨px, 2, none⟩ = some (.int .i64 (ext : Int))) := hide fun y hy => by
    have hr := (h.below hy).row
    exact ⟨cell_of_row _ _ _ _ _ _ hr, cell_of_row _ _ _ _ _ _ hr⟩
  have HAT : Hid (∀ x, Below z.heap.size z x → ∀ j, j < L.length → ∃ g cap, v = .slice (some ⟨g, 0, none⟩) L.length cap ∧ (x.cell? ⟨g, j * 4, none⟩ = some (.int .i64 (ub L j).key) ∧ x.cell? ⟨g, j * 4 + 1, none⟩ = some (.int .i64 ((ub L j).got : Int))) ∧ x.cell? ⟨g, j * 4 + 2, none⟩ = some (.int .i64 ((ub L j).back : Int))) := hide fun x hx j hj => by
    obtain ⟨g, cap, cs, e, -, -, q0, q1, q2, -⟩ := (hb.kept (w' := x) fun g e => hx.block g (hb.lt g e).2).at (ub_of hj)
    exact ⟨g, cap, e, ⟨q0, q1⟩, q2⟩
  have HIN : Hid (∀ j, j < L.length → ub L j ∈ L) := hide fun j hj => List.mem_of_getElem? (ub_of hj)
  have HHS : Hid (∀ (x y : World) (g : Nat) (row : List Int) (k : Int), y.heap[g]? = some (.cells (ints row) 3 (0, 0)) → row.length = n → Below y.heap.size y x → k ∈ row → Calls Try.prog 52 #[.slice (some ⟨g, 0, none⟩) n n, .int .i64 k] x fun e w' => e = .returned (.bool true) ∧ w' = x) := hide fun x y g row k hg hlr hx hk => by
    have := has_any (w := x) (row_ints (below_row hx hg) (by omega)) (by omega) k
    rw [hlr, decide_eq_true hk] at this
    exact this
  obtain ⟨ba, bc, rfl, b1, b2⟩ := hb.form
  unfold maxLen at b2
  have q2 := ptrL'
  clear h hbl hl hn1 hb hc
  obtain ⟨d1, d2⟩ := HC.out z (Below.refl _ _)
  generalize hNL : L.length = NL at *
  go_enter Try.func26, Try.ntmps26
  go_wp2_with fail
  go_region_held3 (fun z => z.cell? ⟨px, 1, none⟩ = some (.int .i64 (n : Int)) ∧ z.cell? ⟨px, 2, none⟩ = some (.int .i64 (ext : Int))) (first | exact ⟨d1, d2⟩ | exact ⟨g1, g2⟩ | exact ⟨k1, k2⟩)
    (first
      | (go_at_call 21; refine HG.out.mono ?_; rintro e y ⟨v', vs', rfl, hv', hbz⟩; obtain ⟨g1, g2⟩ := HC.out y ⟨hbz.os, hbz.tape, hbz.output, hbz.size, hbz.block⟩; have HBZ : Hid (Below z.heap.size z y) := hide ⟨hbz.os, hbz.tape, hbz.output, hbz.size, hbz.block⟩; have HRZ := hide (HRP.out y v' (HRS.out y v' vs' hv')); clear hv' hbz HG)
      | (go_at_call 9; refine HRZ.out.mono ?_; rintro e z2 ⟨⟨gq, NQ, row, rfl, hgq, hlq, hmq⟩, hb2⟩; have HB2 := hide (HBZ.out.trans (hb2.mono HBZ.out.size)); obtain ⟨k1, k2⟩ := HC.out z2 HB2.out; have HGQ := hide hgq; have HLQ := hide hlq; have HMQ := hide hmq; clear hb2 HRZ hgq hlq hmq))
  clear d1 d2 k1 k2
  go_wp2_with (go_at_call 12; refine (HNU.out _).mono ?_; rintro e z2 ⟨rfl, rfl⟩)
  go_loopw [8] (fun x wr => ∃ i : Nat, i ≤ NL ∧ x = .int .i64 (i : Int) ∧ Below z2.heap.size z2 wr) (fun x _ => NL - (intOf x).toNat)
  case atStart => exact ⟨0, Nat.zero_le _, rfl, (Below.refl _ _)⟩
  case round =>
    obtain ⟨i, hin, rfl, hbw⟩ := hrel
    have HBW := hide hbw
    clear hbw
    by_cases hlt : i < NL
    · have HZW := hide (HB2.out.trans (HBW.out.mono HB2.out.size))
      obtain ⟨g, cap, e, ⟨e0, e1⟩, e2⟩ := HAT.out _ HZW.out i hlt
      simp only [Value.slice.injEq] at e
      obtain ⟨rfl, -, rfl⟩ := e
      by_cases hk : (ub L i).back < (ub L i).got
      · have HH : Hid (∀ m, _) := hide fun m => HHS.out (wr.drewN m) z2 gq row _ HGQ.out HLQ.out (below_drewN HBW.out m) (HMQ.out _ (HIN.out i hlt) hk)
        have HBN : Hid (∀ m, Below z2.heap.size z2 (wr.drewN m)) := hide fun m => below_drewN HBW.out m
        have hk' : ((ub L i).back : Int) < ((ub L i).got : Int) := by omega
        clear hk
        generalize (ub L i).key = kk at *
        generalize (ub L i).got = gg at *
        generalize (ub L i).back = bb at *
        go_wp2_with fail
        go_quiet ((go_at_call 52; exact Calls.quiet_of_same (HH.out _)))
        go_wp2_with fail
        go_roundw
        case rel => exact ⟨i + 1, by omega, by go_num, HBN.out _⟩
        case measure => simp [intOf]; omega
      · have hk2 : decide ((ub L i).back < (ub L i).got) = false := decide_eq_false hk
        have HBN : Hid (∀ m, Below z2.heap.size z2 (wr.drewN m)) := hide fun m => below_drewN HBW.out m
        clear hk
        generalize (ub L i).key = kk at *
        generalize (ub L i).got = gg at *
        generalize (ub L i).back = bb at *
        go_wp2_with fail
        go_quiet (fail)
        go_wp2_with fail
        go_roundw
        case rel => exact ⟨i + 1, by omega, by go_num, HBN.out _⟩
        case measure => simp [intOf]; omega
    · have ei : i = NL := by omega
      subst ei
      go_wp2_with fail
      go_ret
      exact ⟨rfl, HB2.out.trans (HBW.out.mono HB2.out.size)⟩
end Go.Proofs.Ytlkccencilhacaa
namespace Go.Proofs.Ytlkccencilhacaa
open Go.RowKit Go.Sort
open Num
set_option linter.unusedVariables false
set_option linter.unusedSimpArgs false
set_option maxRecDepth 20000

theorem kbNil (n ext i : Nat) : Kb ⟨n, [], [], [], []⟩ [] ext i := ⟨List.Pairwise.nil, fun u hu => by simp at hu, fun u hu => by simp at hu, fun u hu => by simp at hu, fun k r h hr => by
  have := h.pos hr
  simp at this⟩
theorem bkNil (base : Nat) (w : World) : BkR base w (.slice none 0 0) [] := ⟨rfl, .inl ⟨rfl, rfl⟩⟩
section
variable {w0 z y : World} {px n ext size first0 nr lp first written : Nat} {S : LS} {bs : List (List Nat)} {wrote : Bool} {i : Nat} {v v' : Value} {L Lm Lk Lm' : List Us}
/-- a rig, and the law's book: Lm in memory, Lk says what the log does -/
def CW (w0 x : World) (px n ext size first0 nr : Nat) (S : LS) (lp first written : Nat) (bs : List (List Nat)) (wrote : Bool) (i : Nat) (v : Value) (Lm Lk : List Us) : Prop := RgS w0 x px n ext size first0 nr S lp first written bs wrote i ∧ BkR w0.heap.size x v Lm ∧ Kb S Lk ext i
theorem CW.below (h : CW w0 z px n ext size first0 nr S lp first written bs wrote i v Lm Lk) (hb : Below z.heap.size z y) : CW w0 y px n ext size first0 nr S lp first written bs wrote i v Lm Lk := ⟨h.1.below hb, h.2.1.uses (UseS.below hb), h.2.2⟩
theorem CW.be (h : CW w0 z px n ext size first0 nr S lp first written bs wrote i v Lm Lk) : Below w0.heap.size w0 z := h.1.be
theorem CW.up (h : CW w0 z px n ext size first0 nr S lp first written bs wrote i v Lm Lk) : CW w0 z px n ext size first0 nr S lp first written bs wrote (i + 1) v Lm Lk := ⟨h.1.up, h.2.1, h.2.2.next⟩
theorem CW.book (h : CW w0 z px n ext size first0 nr S lp first written bs wrote i v Lm Lk) (hb : BkR w0.heap.size y v' Lm') (hc : Chg (fun b => v.ownBlock = some b) z y) : CW w0 y px n ext size first0 nr S lp first written bs wrote i v' Lm' Lk := ⟨h.1.use h.2.1 hc, hb, h.2.2⟩
theorem CW.at (h : CW w0 z px n ext size first0 nr S lp first written bs wrote i v L Lk) {j : Nat} {u : Us} (hj : L[j]? = some u) : ∃ g cap, v = .slice (some ⟨g, 0, none⟩) L.length cap ∧ (z.cell? ⟨g, j * 4, none⟩ = some (.int .i64 u.key) ∧ z.cell? ⟨g, j * 4 + 1, none⟩ = some (.int .i64 (u.got : Int))) ∧ z.cell? ⟨g, j * 4 + 2, none⟩ = some (.int .i64 (u.back : Int)) ∧ z.frozen? ⟨g, j * 4 + 2, none⟩ = false := by
  obtain ⟨g, cap, cs, e, hb, hg, q0, q1, q2, q3⟩ := h.2.1.at hj
  exact ⟨g, cap, e, ⟨q0, q1⟩, q2, frozen_of_row _ _ _ _ 66 hg⟩
theorem CW.back {g cap j : Nat} {u : Us} (h : CW w0 z px n ext size first0 nr S lp first written bs wrote i (.slice (some ⟨g, 0, none⟩) L.length cap) L (L.set j { u with back := u.back + 1 })) (hj : L[j]? = some u) : CW w0 (z.setCell ⟨g, j * 4 + 2, none⟩ (.int .i64 ((u.back : Int) + 1))) px n ext size first0 nr S lp first written bs wrote i (.slice (some ⟨g, 0, none⟩) L.length cap) (L.set j { u with back := u.back + 1 }) (L.set j { u with back := u.back + 1 }) := by
  have hb := h.2.1.set hj (f := 2) (u' := { u with back := u.back + 1 }) (x := .int .i64 ((u.back : Int) + 1)) (by omega) (by simp [Us.cells])
  exact h.book hb ⟨rfl, rfl, rfl, Nat.le_of_eq (World.size_setCell ..).symm, fun b hb hn => Go.heap_setCell_other _ _ _ _ (fun e => hn (by simp [Value.ownBlock, e]))⟩
theorem cCovers (hw : WN n ext size nr) (hnr : (nr : Int) = ringN (n : Int)) (h : CW w0 z px n ext size first0 nr S lp first written bs wrote i v L Lk) (hk : L = Lk ∨ ∃ x, TkD L x Lk) : Calls Try.prog 26 #[.pointer (some ⟨px, 0, none⟩), v] z fun e z' => e = .returned (.bool true) ∧ Below z.heap.size z z' := by
  obtain ⟨⟨p, bm, kv, rv, iv, gv, vs, hd, hs, hl⟩, hb, hkb⟩ := h
  have hc := hs.cvr hw hkb
  have he2 := hw.e2
  have hlen := hkb.len
  rcases hk with rfl | ⟨x, ht⟩
  · exact covers_any hw hnr hd hs.len hl hb (by omega) hc
  · refine covers_any hw hnr hd hs.len hl hb ?_ (hc.sub ht)
    rcases ht with ⟨j, u, -, -, rfl⟩ | ⟨-, rfl⟩
    · simp at hlen; omega
    · simp at hlen; omega
/-- Begin gave a record; it is not laid yet -/
def CM (w0 y : World) (px n ext size first0 nr : Nat) (S' : LS) (lp first written : Nat) (bs : List (List Nat)) (wrote : Bool) (rec : List Nat) (i : Nat) (v : Value) (L Lk : List Us) : Prop := RgM w0 y px n ext size first0 nr S' lp first written bs wrote rec i ∧ BkR w0.heap.size y v L ∧ Kb S' Lk ext (i + 1) ∧ Cvr n ext bs L
theorem CM.below {rec : List Nat} (h : CM w0 z px n ext size first0 nr S lp first written bs wrote rec i v Lm Lk) (hb : Below z.heap.size z y) : CM w0 y px n ext size first0 nr S lp first written bs wrote rec i v Lm Lk := ⟨h.1.below hb, h.2.1.uses (UseS.below hb), h.2.2⟩
theorem mCovers {rec : List Nat} {x : Int} (hw : WN n ext size nr) (hnr : (nr : Int) = ringN (n : Int)) (h : CM w0 z px n ext size first0 nr S lp first written bs wrote rec i v L Lk) (ht : TkD L x Lk) : Calls Try.prog 26 #[.pointer (some ⟨px, 0, none⟩), v] z fun e z' => e = .returned (.bool true) ∧ Below z.heap.size z z' := by
  obtain ⟨⟨p, bm, kv, rv, iv, gv, vs, hd, hs, hbl, hrl, hl⟩, hb, hkb, hc⟩ := h
  have he2 := hw.e2
  have hlen := hkb.len
  refine covers_any hw hnr hd hbl hl hb ?_ hc
  rcases ht with ⟨j, u, -, -, rfl⟩ | ⟨-, rfl⟩
  · simp at hlen; omega
  · simp at hlen; omega
theorem mLay {rec : List Nat} (hw : WN n ext size nr) (h : CM w0 z px n ext size first0 nr S lp first written bs wrote rec i v L Lk) (u : Value) (hv : BSl z u rec) : Calls Try.prog 19 #[.pointer (some ⟨px, 0, none⟩), u, .int .u32 (((first + written) % 4294967296 : Nat) : Int)] z fun e z' => e = .returned (.bool true) ∧ CW w0 z' px n ext size first0 nr S lp first (written + 1) (bs.set ((first + written) % 4294967296 % nr) rec) true (i + 1) v L Lk ∧ OpS z z' := by
  obtain ⟨⟨p, bm, kv, rv, iv, gv, vs, hd, hs, hb, hrl, hl⟩, hbk, hkb, hc⟩ := h
  have hsz := hw.sz.ge
  have hn1 := hw.n1
  refine (xlayU_any hd (by omega) (by omega) hsz.2 ((first + written) % 4294967296) (Nat.mod_lt _ (by decide)) u rec hv hrl).mono ?_
  rintro e z' ⟨⟨rfl, vs', hd'⟩, hus, hos⟩
  rw [hb] at hd'
  refine ⟨rfl, ⟨⟨p, bm, kv, rv, iv, gv, vs', hd', hs, fun k => ?_⟩, hbk.uses hus, hkb⟩, hos⟩
  by_cases e : (first + written) % 4294967296 % nr = k
  · subst e
    by_cases hk : (first + written) % 4294967296 % nr < bs.length
    · simp [List.getD, hk]; omega
    · simp [List.getD, hk]
  · have : (bs.set ((first + written) % 4294967296 % nr) rec).getD k [] = bs.getD k [] := by simp [List.getD, e]
    rw [this]; exact hl k
def BgC (w0 : World) (px n ext size first0 nr lp first written : Nat) (bs : List (List Nat)) (wrote : Bool) (i : Nat) (v : Value) (L : List Us) (x : Int) (ra : Option Addr) (rk rc : Nat) (er : Int) (y : World) : Prop :=
  (er ≠ 0 ∧ rk = 0 ∧ ∃ S', CW w0 y px n ext size first0 nr S' lp first written bs wrote (i + 1) v L L) ∨
  (er = 0 ∧ rk = 0 ∧ ∃ S' L', TkD L x L' ∧ CW w0 y px n ext size first0 nr S' lp first written bs wrote (i + 1) v L L') ∨
  (er = 0 ∧ rk = size ∧ ∃ S' L' rec, TkD L x L' ∧ BSl y (.slice ra rk rc) rec ∧ CM w0 y px n ext size first0 nr S' lp first written bs wrote rec i v L L')
theorem BgC.below {x : Int} {ra : Option Addr} {rk rc : Nat} {er : Int} (h : BgC w0 px n ext size first0 nr lp first written bs wrote i v L x ra rk rc er z) (hb : Below z.heap.size z y) : BgC w0 px n ext size first0 nr lp first written bs wrote i v L x ra rk rc er y := by
  rcases h with ⟨h1, h2, S', h⟩ | ⟨h1, h2, S', L', ht, h⟩ | ⟨h1, h2, S', L', rec, ht, h3, h4⟩
  · exact .inl ⟨h1, h2, S', h.below hb⟩
  · exact .inr (.inl ⟨h1, h2, S', L', ht, h.below hb⟩)
  · exact .inr (.inr ⟨h1, h2, S', L', rec, ht, h3.below hb, h4.below hb⟩)
theorem BgC.box3 {x : Int} {ra : Option Addr} {rk rc : Nat} {er : Int} {g : Nat} (h : BgC w0 px n ext size first0 nr lp first written bs wrote i v L x ra rk rc er z) (hg : z.heap[g]? = some (.cells #[.int .i64 0, .int .i64 0, .int .i64 0] 48 (0, 0))) (hw : w0.heap.size ≤ g) (a b c : Value) : BgC w0 px n ext size first0 nr lp first written bs wrote i v L x ra rk rc er (((z.setCell ⟨g, 0, none⟩ a).setCell ⟨g, 1, none⟩ b).setCell ⟨g, 2, none⟩ c) := by
  have g1 := Go.heap_setCell_same _ _ 0 _ 48 a hg
  have g2 := Go.heap_setCell_same _ _ 1 _ 48 b g1
  have hus : UseS z (((z.setCell ⟨g, 0, none⟩ a).setCell ⟨g, 1, none⟩ b).setCell ⟨g, 2, none⟩ c) := fun g' cs e => by
    have hne := neType e hg (by decide)
    exact (Go.heap_setCell_other _ _ _ _ hne).trans ((Go.heap_setCell_other _ _ _ _ hne).trans (Go.heap_setCell_other _ _ _ _ hne))
  rcases h with ⟨h1, h2, S', h, hb, hk⟩ | ⟨h1, h2, S', L', ht, h, hb, hk⟩ | ⟨h1, h2, S', L', rec, ht, h3, h4, hb, hk⟩
  · exact .inl ⟨h1, h2, S', ((h.box hg hw 0 a).box g1 hw 1 b).box g2 hw 2 c, hb.uses hus, hk⟩
  · exact .inr (.inl ⟨h1, h2, S', L', ht, ((h.box hg hw 0 a).box g1 hw 1 b).box g2 hw 2 c, hb.uses hus, hk⟩)
  · exact .inr (.inr ⟨h1, h2, S', L', rec, ht, bsl_box3 h3 hg a b c, ((h4.box hg hw 0 a).box g1 hw 1 b).box g2 hw 2 c, hb.uses hus, hk⟩)
theorem BgC.cell {x : Int} {ra : Option Addr} {rk rc : Nat} {er : Int} (h : BgC w0 px n ext size first0 nr lp first written bs wrote i v L x ra rk rc er z) : z.cell? ⟨px, 0, none⟩ = some (.pointer (some ⟨lp, 0, none⟩)) := by
  rcases h with ⟨-, -, S', h, -⟩ | ⟨-, -, S', L', -, h, -⟩ | ⟨-, -, S', L', rec, -, -, ⟨p, bm, kv, rv, iv, gv, vs, hd, -⟩, -⟩
  · exact h.cells.1
  · exact h.cells.1
  · exact cell_of_row _ _ _ _ _ _ hd.row
theorem cBegin (hw : WN n ext size nr) (h : CW w0 z px n ext size first0 nr S lp first written bs wrote i v L L) (hi : i ≤ 1000000000000000) (x : Int) : Calls Try.prog 18 #[.pointer (some ⟨lp, 0, none⟩), .int .i64 x] z fun e z' => ∃ c0 c1 c2 ra rk rc er, e = .returned (.tuple #[.agg #[.int .i64 c0, .int .i64 c1, .int .i64 c2], .slice ra rk rc, .int .i64 er]) ∧ BgC w0 px n ext size first0 nr lp first written bs wrote i v L x ra rk rc er z' ∧ OpS z z' ∧ TyS z z' := by
  obtain ⟨⟨p, bm, kv, rv, iv, gv, vs, hd, hs, hl⟩, hb, hk⟩ := h
  have hwr := hd.wr
  have hsz := hw.sz.ge
  have hcv := hs.cvr hw hk
  refine (begin_any hd.lg hd.ok (by omega) (by omega) hw.e2 hw.sz x).mono ?_
  rintro e z' ⟨S', written', r, v2, kv', rv', iv', rfl, hr, hrc, hl2, ho2, hc2, hloc⟩
  have hus := hd.lg.uses hc2
  obtain ⟨L', ht⟩ := TkD.ex L x
  rcases hr with ⟨-, rfl, rfl, rfl⟩ | ⟨hx, slot, old, gone, er, hg, rfl, rfl⟩ | ⟨hx, slot, old, gone, hg, rfl, rfl⟩
  · simp only [RcO] at hrc
    subst hrc
    refine ⟨_, _, _, _, _, _, _, rfl, .inl ⟨by decide, rfl, S', ⟨p, bm, kv', rv', iv', gv, vs, hd.turn hl2 ho2 rfl hc2 hloc (by omega), hs, hl⟩, hb.uses hus, hk.next⟩, hd.lg.ops hc2, fun g cs e => (hc2.keep g (Array.getElem?_eq_some_iff.1 e).1 (hd.lg.notTy e (by decide) (by decide) (by decide))).trans e⟩
  · simp only [RcO] at hrc
    subst hrc
    have hg' := hg
    rcases hg with ⟨s, -, g3, -, -, -, -, rfl⟩ | ⟨-, -, -, -, e, -⟩ | ⟨-, -, s, r, o, -, -, -, -, e, -⟩ | ⟨-, -, -, g3, -, -, -, -, rfl⟩
    · have hks : S'.ks = S.ks ∧ S'.slots = S.slots := by subst g3; exact ⟨rfl, rfl⟩
      refine ⟨_, _, _, _, _, _, _, rfl, .inr (.inl ⟨rfl, rfl, S', L', ht, ⟨p, bm, kv', rv', iv', gv, vs, hd.turn hl2 ho2 hks.2 hc2 hloc (by omega), hs.same hks.1 hks.2, hl⟩, hb.uses hus, hk.tk hd.ok ho2 hx hg' ht⟩), hd.lg.ops hc2, fun g cs e => (hc2.keep g (Array.getElem?_eq_some_iff.1 e).1 (hd.lg.notTy e (by decide) (by decide) (by decide))).trans e⟩
    · cases e
    · cases e
    · subst g3
      refine ⟨_, _, _, _, _, _, _, rfl, .inl ⟨by decide, rfl, S', ⟨p, bm, kv', rv', iv', gv, vs, hd.turn hl2 ho2 rfl hc2 hloc (by omega), hs, hl⟩, hb.uses hus, hk.next⟩, hd.lg.ops hc2, fun g cs e => (hc2.keep g (Array.getElem?_eq_some_iff.1 e).1 (hd.lg.notTy e (by decide) (by decide) (by decide))).trans e⟩
  · obtain ⟨g, rfl, hrow, -, -⟩ := hrc
    have hlen : (recOf S' size first written (slot : Int) x (if gone then old else -1)).length = size := recOf_len (by omega)
    have hlt : ∀ b ∈ recOf S' size first written (slot : Int) x (if gone then old else -1), b < 256 := by
      rw [recOf_rc _ _ _ _ _ _ _ ho2.s1 ho2.s2]
      exact bytes_lt _ _
    refine ⟨_, _, _, _, _, _, _, rfl, .inr (.inr ⟨rfl, hlen, S', L', _, ht, by rw [hlen]; exact bsl_row hrow hlen (by unfold maxLen; omega) hlt, ⟨p, bm, kv', rv', iv', gv, vs, hd.turn hl2 ho2 hg.slots hc2 hloc (by omega), hs.beg hw hd.ok hd.sl hx hg, hs.len, hlen, hl⟩, hb.uses hus, hk.tk hd.ok ho2 hx hg ht, hcv⟩), hd.lg.ops hc2, fun g cs e => (hc2.keep g (Array.getElem?_eq_some_iff.1 e).1 (hd.lg.notTy e (by decide) (by decide) (by decide))).trans e⟩
theorem cEnd (h : CW w0 z px n ext size first0 nr S lp first written bs wrote i v L L) (hi : i ≤ 1000000000000000) {x : Int} (hx : i64ok x) : Calls Try.prog 20 #[.pointer (some ⟨lp, 0, none⟩), .int .i64 x] z fun e z' => ∃ er, e = .returned (.int .i64 er) ∧ ((er ≠ 0 ∧ (∀ u ∈ L, u.key = x → ¬ u.back < u.got) ∧ ∃ S', CW w0 z' px n ext size first0 nr S' lp first written bs wrote (i + 1) v L L) ∨ (er = 0 ∧ ∃ (j : Nat) (u : Us), L[j]? = some u ∧ u.key = x ∧ u.back < u.got ∧ ∃ S', CW w0 z' px n ext size first0 nr S' lp first written bs wrote (i + 1) v L (L.set j { u with back := u.back + 1 }))) ∧ OpS z z' := by
  have h0 := h
  obtain ⟨⟨p, bm, kv, rv, iv, gv, vs, hd, hs, hl⟩, hb, hk⟩ := h
  have hwr := hd.wr
  refine (lEnd_any hd.lg hd.ok (by omega) hx).mono ?_
  rintro e z' (⟨hr, rfl, rfl⟩ | ⟨-, S', er, iv', hp, rfl, hl2, ho2, hc2, hloc⟩)
  · exact ⟨_, rfl, .inl ⟨by decide, fun u hu e => absurd (e ▸ hk.rg u hu) hr, S, h0.up⟩, fun _ _ e => e⟩
  · have hks : S'.ks = S.ks ∧ S'.slots = S.slots := by
      rcases hp with ⟨-, rfl, -⟩ | ⟨s, r, -, -, rfl, -⟩ <;> exact ⟨rfl, rfl⟩
    have hc' : Chg (GU lp p bm kv rv iv) z z' := hc2.mono fun b _ e => .inr e
    have hus := hd.lg.uses hc'
    have hrg : RgS w0 z' px n ext size first0 nr S' lp first written bs wrote (i + 1) := by
      refine ⟨p, bm, kv, rv, iv', gv, vs, hd.turn hl2 (ho2.up (by omega)) hks.2 hc' (fun b e => ?_) (by omega), hs.same hks.1 hks.2, hl⟩
      rcases e with e | e
      · exact .inl (.inl e)
      · rcases hloc b e with q | q
        · exact .inl (.inr q)
        · exact .inr q
    refine ⟨er, rfl, ?_, hd.lg.ops hc'⟩
    rcases hp with ⟨h1, rfl, rfl⟩ | ⟨s, r, g1, g2, g3, rfl⟩
    · refine .inl ⟨by decide, fun u hu e hlt => ?_, S', hrg, hb.uses hus, hk.next⟩
      rcases e ▸ hk.rf u hu with ⟨s, q1, q2⟩ | ⟨-, q⟩
      · rw [h1 s q1] at q2
        have := Option.some.inj q2
        omega
      · omega
    · have hp : PutRes S x S' 0 := .inr ⟨s, r, g1, g2, g3, rfl⟩
      obtain ⟨r1, r, r2, r3⟩ := hp.refs hd.ok rfl
      obtain ⟨u, hu, rfl⟩ := hk.cv _ _ r2 (by omega)
      obtain ⟨j, hj⟩ := List.getElem?_of_mem hu
      have hgb := hk.gb u hu
      have e1 := RefRes.uniq hd.ok (hk.rf u hu) r2
      refine .inr ⟨rfl, j, u, hj, rfl, by omega, S', hrg, hb.uses hus, hk.line hd.ok (ho2.up (by omega)) hj rfl ⟨?_, ?_⟩ r1 ?_⟩
      · show u.back + 1 ≤ u.got; omega
      · show u.got ≤ i + 1; omega
      · show RefRes S' u.key (u.got - (u.back + 1))
        rwa [show u.got - (u.back + 1) = r by omega]
theorem cTook {x : Int} (he : ext ≤ 1024) (hi : i ≤ 1000000000000000) (h : CW w0 z px n ext size first0 nr S lp first written bs wrote (i + 1) v L Lk) (ht : TkD L x Lk) (hk : ∃ S0, Kb S0 L ext i) : Calls Try.prog 27 #[v, .int .i64 x] z fun e z' => ∃ v', e = .returned v' ∧ CW w0 z' px n ext size first0 nr S lp first written bs wrote (i + 1) v' Lk Lk := by
  obtain ⟨S0, hk⟩ := hk
  refine (took_any h.2.1 hk he hi h.1.be.size ht).mono ?_
  rintro e z' ⟨v', rfl, h1, h2⟩
  exact ⟨v', rfl, h.book h1 h2⟩
end
end Go.Proofs.Ytlkccencilhacaa
namespace Go.Proofs.Ytlkccencilhacaa
open Go.RowKit Go.Sort
open Num
set_option linter.unusedVariables false
set_option linter.unusedSimpArgs false
set_option maxRecDepth 20000

theorem box3_op {z : World} {g : Nat} {cs : Array Value} (hg : z.heap[g]? = some (.cells cs 48 (0, 0))) (a b c : Value) : OpS z (((z.setCell ⟨g, 0, none⟩ a).setCell ⟨g, 1, none⟩ b).setCell ⟨g, 2, none⟩ c) := fun g' cs' e => by
  have hne := neType e hg (by decide)
  exact ((Go.heap_setCell_other _ _ _ _ hne).trans ((Go.heap_setCell_other _ _ _ _ hne).trans (Go.heap_setCell_other _ _ _ _ hne))).trans e
theorem covers_no (w : World) (a b c : Int) (d : Nat) (sv : Value) (hm : ¬ okM a b c) : Calls Try.prog 6 #[.agg #[.int .i64 a, .int .i64 b, .int .i64 c, .int .u32 (d : Int)], sv] w fun e w' => e = .returned (.bool true) ∧ Below w.heap.size w w' := by
  have HG := hide fun x => good_any x a b c (d : Int)
  rw [decide_eq_false hm] at HG
  have HB0 := hide ((Below.refl w.heap.size w).alloc (Nat.le_refl _) (.cells #[.int .i64 a, .int .i64 b, .int .i64 c, .int .u32 (d : Int)] 35))
  clear hm
  go_enter Try.func6, Try.ntmps6
  go_wp2_with (go_at_call 14; refine (HG.out _).mono ?_; rintro e y ⟨rfl, hb⟩; have HY := hide (HB0.out.trans (hb.mono HB0.out.size)); clear hb)
  go_ret
  exact ⟨rfl, HY.out⟩
set_option maxHeartbeats 60000000 in
theorem covers_yes (w : World) (n ext size d : Nat) (hd : d < 4294967296) (sv : Value) (l : List OpK) (hm : okM (n : Int) (ext : Int) (size : Int)) (hs : OKl w sv l) (hz : l.length ≤ 1000000000000000) : Calls Try.prog 6 #[.agg #[.int .i64 (n : Int), .int .i64 (ext : Int), .int .i64 (size : Int), .int .u32 (d : Int)], sv] w fun e w' => e = .returned (.bool true) ∧ Below w.heap.size w w' := by
  have HG := hide fun x => good_any x (n : Int) (ext : Int) (size : Int) (d : Int)
  rw [decide_eq_true hm] at HG
  unfold okM at hm
  obtain ⟨⟨m1, m2⟩, ⟨m3, m4⟩, m5⟩ := hm
  have h1 : 1 ≤ n := by omega
  have h2 : n ≤ 16 := by omega
  have h3 : 1 ≤ ext := by omega
  have h4 : ext ≤ 1024 := by omega
  have h5 : size = 128 ∨ size = 256 ∨ size = 512 ∨ size = 1024 := by omega
  clear m1 m2 m3 m4 m5
  have q2 := ptrL'
  obtain ⟨nr, hnr, hn1, hn2⟩ : ∃ nr : Nat, (nr : Int) = ringN (n : Int) ∧ (nr = 1 ∨ nr = 2 ∨ nr = 4) ∧ n ≤ 4 * nr := by
    unfold ringN
    rw [if_neg (by omega)]
    split
    · exact ⟨1, rfl, by omega, by omega⟩
    · split
      · exact ⟨2, rfl, by omega, by omega⟩
      · exact ⟨4, rfl, by omega, by omega⟩
  have hw : WN n ext size nr := ⟨h1, h2, h3, h4, h5, hn1, hn2⟩
  clear hn1 hn2
  have HB0 := hide ((Below.refl w.heap.size w).alloc (Nat.le_refl _) (.cells #[.int .i64 (n : Int), .int .i64 (ext : Int), .int .i64 (size : Int), .int .u32 (d : Int)] 35))
  have HBX : Hid (∀ x, Below (w.alloc (.cells #[.int .i64 (n : Int), .int .i64 (ext : Int), .int .i64 (size : Int), .int .u32 (d : Int)] 35)).heap.size (w.alloc (.cells #[.int .i64 (n : Int), .int .i64 (ext : Int), .int .i64 (size : Int), .int .u32 (d : Int)] 35)) x → (x.cell? ⟨w.heap.size, 0, none⟩ = some (.int .i64 (n : Int)) ∧ x.cell? ⟨w.heap.size, 1, none⟩ = some (.int .i64 (ext : Int))) ∧ x.cell? ⟨w.heap.size, 2, none⟩ = some (.int .i64 (size : Int)) ∧ x.cell? ⟨w.heap.size, 3, none⟩ = some (.int .u32 (d : Int))) := hide fun x hx => by
    have hg : x.heap[w.heap.size]? = some (.cells #[.int .i64 (n : Int), .int .i64 (ext : Int), .int .i64 (size : Int), .int .u32 (d : Int)] 35 (0, 0)) := (hx.block _ (by simp)).trans (Go.heap_alloc_new w _)
    exact ⟨⟨cell_of_row _ _ _ _ _ _ hg, cell_of_row _ _ _ _ _ _ hg⟩, cell_of_row _ _ _ _ _ _ hg, cell_of_row _ _ _ _ _ _ hg⟩
  have HFS := hide fun x => first_any x n ext size d h1 h2 h3 h4 h5
  have HRI := hide fun x => rig_any x n ext size d nr h1 h2 h3 h4 h5 hnr
  have HNU := hide fun (x : World) (e : Int) => num_any x e
  have HRG := hide fun (x y : World) (e : Ending) (h : RigP x n ext size d nr e y) => h.rgs hd (by omega)
  obtain ⟨av, cv, rfl, v1, v2, v3, v4⟩ := hs
  unfold maxLen at v2
  have HFB : Hid (∀ x, Below (w.alloc (.cells #[.int .i64 (n : Int), .int .i64 (ext : Int), .int .i64 (size : Int), .int .u32 (d : Int)] 35)).heap.size (w.alloc (.cells #[.int .i64 (n : Int), .int .i64 (ext : Int), .int .i64 (size : Int), .int .u32 (d : Int)] 35)) x → Below w.heap.size w x) := hide fun x hx => HB0.out.trans (hx.mono HB0.out.size)
  have HOP := hide (opk_in v4)
  have HOK : Hid (∀ i, i < l.length → i64ok (l.getD i ⟨0, 0, 0⟩).key) := hide fun i hi => (v3 _ (by simp [List.getD, hi])).2.2
  have HW := hide hw
  have HNR := hide hnr
  clear v3 v4 hw hnr
  generalize hN : l.length = N at *
  clear hN
  go_enter Try.func6, Try.ntmps6
  go_wp2_with (first
    | (go_at_call 14; refine (HG.out _).mono ?_; rintro e y1 ⟨rfl, hb⟩; have HY1 := hide hb; obtain ⟨⟨c0, c1⟩, c2, c3⟩ := HBX.out _ hb; clear hb HG)
    | (go_at_call 15; refine (HRI.out _).mono ?_; intro e y2 hr0; obtain ⟨px, lp0, he, hr⟩ := HRG.out _ _ _ hr0; clear hr0; subst he; have HY2 := hide (HY1.out.trans (hr.be.mono HY1.out.size)); have HR2 := hide hr; obtain ⟨⟨d0, d1⟩, d2, d3⟩ := HBX.out _ HY2.out; clear hr HRI HRG)
    | (go_at_call 16; refine (HFS.out _).mono ?_; rintro e y3 ⟨rfl, hb⟩; have HR3 := hide (HR2.out.below hb); clear hb HFS HR2))
  obtain ⟨w0, hw0⟩ : ∃ w0, w0 = y1 := ⟨y1, rfl⟩
  have HOP2 : Hid (∀ x, Below w0.heap.size w0 x → ∀ i, i < N → _) := hide fun x hx i hi => HOP.out x (HFB.out _ (HY1.out.trans ((hw0 ▸ hx).mono HY1.out.size))) i hi
  have HBX2 : Hid (∀ x, Below w0.heap.size w0 x → _) := hide fun x hx => HBX.out x (HY1.out.trans ((hw0 ▸ hx).mono HY1.out.size))
  have HFB2 : Hid (∀ x, Below w0.heap.size w0 x → Below w.heap.size w x) := hide fun x hx => HFB.out x (HY1.out.trans ((hw0 ▸ hx).mono HY1.out.size))
  rw [← hw0] at HR3
  clear HOP HBX HFB hw0 HY2 HY1 HB0 c0 c1 c2 c3 d0 d1 d2 d3
  go_loopw [7, 8] (fun bv x wr => ∃ (i : Nat) (S : LS) (lp first written : Nat) (bs : List (List Nat)) (wrote : Bool) (L : List Us), i ≤ N ∧ x = .int .i64 (i : Int) ∧ CW w0 wr px n ext size d nr S lp first written bs wrote i bv L L) (fun _ x _ => N - (intOf x).toNat)
  case atStart => exact ⟨0, _, lp0, d, 0, _, false, [], Nat.zero_le _, rfl, HR3.out, bkNil _ _, kbNil _ _ _⟩
  case round =>
    clear HR3
    obtain ⟨i, S, lp, first, written, bs, wrote, L, hin, rfl, hk⟩ := hrel
    obtain ⟨ba, bc, eb, hb1, hb2⟩ := hk.2.1.form
    subst eb
    unfold maxLen at hb2
    have HK := hide hk
    clear hk
    by_cases hlt : i < N
    case neg =>
      go_wp2_with fail
      go_ret
      exact ⟨rfl, HFB2.out _ HK.out.be⟩
    obtain ⟨g0, off, rfl, e0, e1, e2⟩ := HOP2.out _ HK.out.be i hlt
    have HKO := hide (HOK.out i hlt)
    generalize l.getD i ⟨0, 0, 0⟩ = s at *
    obtain ⟨kind, of_, key⟩ := s
    dsimp only at e0 e1 e2 HKO
    have hii : (i : Int) < (N : Int) := by omega
    have HBA := hide ((Below.refl wr.heap.size wr).alloc (Nat.le_refl _) (.cells #[.int .i64 kind, .int .i64 of_, .int .i64 key] 42))
    have HK1 := hide (HK.out.below HBA.out)
    obtain ⟨x0, x6⟩ := HK1.out.1.cells
    have HOX : Hid ((wr.alloc (.cells #[.int .i64 kind, .int .i64 of_, .int .i64 key] 42)).heap[wr.heap.size]? = some (.cells #[.int .i64 kind, .int .i64 of_, .int .i64 key] 42 (0, 0))) := hide (Go.heap_alloc_new wr _)
    have HKB : Hid (∃ S0, Kb S0 L ext i) := hide ⟨S, HK.out.2.2⟩
    by_cases hk0 : kind = 0
    · subst hk0
      have HNM := hide (sNum HK1.out.1 (by omega))
      go_wp2_with (go_at_call 17; refine HNM.out.mono ?_; rintro e y5 ⟨rfl, hq⟩; have HK5 := hide (HK1.out.below hq.2); have HQ5 := hide hq.2; obtain ⟨x50, x56⟩ := HK5.out.1.cells; clear hq HNM)
      have HOX5 := hide (OpS.ofBelow HQ5.out _ _ HOX.out)
      have o5 : y5.cell? ⟨wr.heap.size, 2, none⟩ = some (.int .i64 key) := cell_of_row _ _ _ _ _ _ HOX5.out
      have HBG : Hid (∀ x, Below y5.heap.size y5 x → _) := hide fun x hx => cBegin HW.out (HK5.out.below hx) (by omega) key
      have HD1 : Hid (Below y5.heap.size y5 y5.drew) := hide ((Below.refl _ _).drew)
      have HD2 : Hid (Below y5.heap.size y5 (y5.alloc (.cells #[.int .i64 0, .int .i64 0, .int .i64 0] 48)).drew) := hide (((Below.refl _ _).alloc (Nat.le_refl _) _).drew)
      have HZ2 : Hid ((y5.alloc (.cells #[.int .i64 0, .int .i64 0, .int .i64 0] 48)).drew.heap[y5.heap.size]? = some (.cells #[.int .i64 0, .int .i64 0, .int .i64 0] 48 (0, 0))) := hide (Go.heap_alloc_new y5 _)
      have n5a : y5.heap.size ≠ px := World.new_ne y5 _ x50
      have n5b : y5.heap.size ≠ wr.heap.size := World.new_ne y5 _ o5
      have HS3 : Hid (∀ (z : World) (a b c : Value), z.cell? ⟨px, 0, none⟩ = some (.pointer (some ⟨lp, 0, none⟩)) ∧ z.cell? ⟨wr.heap.size, 2, none⟩ = some (.int .i64 key) → (((z.setCell ⟨y5.heap.size, 0, none⟩ a).setCell ⟨y5.heap.size, 1, none⟩ b).setCell ⟨y5.heap.size, 2, none⟩ c).cell? ⟨px, 0, none⟩ = some (.pointer (some ⟨lp, 0, none⟩)) ∧ (((z.setCell ⟨y5.heap.size, 0, none⟩ a).setCell ⟨y5.heap.size, 1, none⟩ b).setCell ⟨y5.heap.size, 2, none⟩ c).cell? ⟨wr.heap.size, 2, none⟩ = some (.int .i64 key)) := hide fun z a b c h => by simp [*, World.cell?_setCell_far]
      have HW5 : Hid (w0.heap.size ≤ y5.heap.size) := hide HK5.out.be.size
      clear HK1 HOX x0 x6 HK HBA e0 e1 e2
      go_region_held3 (fun z => z.cell? ⟨px, 0, none⟩ = some (.pointer (some ⟨lp, 0, none⟩)) ∧ z.cell? ⟨wr.heap.size, 2, none⟩ = some (.int .i64 key)) (first | exact ⟨x50, o5⟩ | exact ⟨cellB HD2.out x50, cellB HD2.out o5⟩ | exact ⟨x60, o6⟩ | exact ⟨cellB ((Below.refl _ _).alloc (Nat.le_refl _) _) x50, cellB ((Below.refl _ _).alloc (Nat.le_refl _) _) o5⟩ | exact ⟨cellB ((Below.refl _ _).alloc (Nat.le_refl _) _) x60, cellB ((Below.refl _ _).alloc (Nat.le_refl _) _) o6⟩ | exact HS3.out _ _ _ _ ⟨x60, o6⟩)
        (first
          | (go_at_call 18; refine (HBG.out _ HD1.out).mono ?_; rintro e z6 ⟨c0, c1, c2, ra, rk, rc, er, he, hbu, hos, hty⟩; have x60 := hbu.cell; subst he; have HBU := hide hbu; have HOX6 := hide (hos _ _ HOX5.out); have o6 : z6.cell? ⟨wr.heap.size, 2, none⟩ = some (.int .i64 key) := cell_of_row _ _ _ _ _ _ HOX6.out; clear hbu hos hty)
          | (go_at_call 18; refine (HBG.out _ HD2.out).mono ?_; rintro e z6 ⟨c0, c1, c2, ra, rk, rc, er, he, hbu, hos, hty⟩; have x60 := hbu.cell; subst he; have HBU := hide hbu; have HOX6 := hide (hos _ _ (below_row HD2.out HOX5.out)); have o6 : z6.cell? ⟨wr.heap.size, 2, none⟩ = some (.int .i64 key) := cell_of_row _ _ _ _ _ _ HOX6.out; have HZ6 := hide (hty _ _ HZ2.out); have cz0 : z6.cell? ⟨y5.heap.size, 0, none⟩ = some (.int .i64 0) := cell_of_row _ _ _ _ _ _ HZ6.out; have cz1 : z6.cell? ⟨y5.heap.size, 1, none⟩ = some (.int .i64 0) := cell_of_row _ _ _ _ _ _ HZ6.out; have cz2 : z6.cell? ⟨y5.heap.size, 2, none⟩ = some (.int .i64 0) := cell_of_row _ _ _ _ _ _ HZ6.out; have fz0 : z6.frozen? ⟨y5.heap.size, 0, none⟩ = false := frozen_of_row _ _ _ _ 48 HZ6.out; have fz1 : z6.frozen? ⟨y5.heap.size, 1, none⟩ = false := frozen_of_row _ _ _ _ 48 HZ6.out; have fz2 : z6.frozen? ⟨y5.heap.size, 2, none⟩ = false := frozen_of_row _ _ _ _ 48 HZ6.out; clear hbu hos hty))
      · have HB6 := hide (HBU.out.below ((Below.refl _ _).alloc (Nat.le_refl _) (.cells #[.int .i64 c0, .int .i64 c1, .int .i64 c2] 48)))
        have HOX7 := hide (below_row ((Below.refl _ _).alloc (Nat.le_refl _) (.cells #[.int .i64 c0, .int .i64 c1, .int .i64 c2] 48)) HOX6.out)
        generalize z6.alloc (.cells #[.int .i64 c0, .int .i64 c1, .int .i64 c2] 48) = z7 at *
        clear HBU HBG HD1 HD2 HZ2 HOX6 o6 x60 HK5 HOX5 o5 x50 x56 HS3 HQ5
        have HB7 := hide HB6.out
        clear HB6
        rcases HB7.out with ⟨her, hrk, S7, hk7⟩ | ⟨her, hrk, S7, L7, ht7, hk7⟩ | ⟨her, hrk, S7, L7, rec, ht7, hrec, hk7⟩
        · subst hrk
          have HKT := hide hk7
          clear hk7 HB7
          have HCV := hide (cCovers HW.out HNR.out HKT.out (.inl rfl))
          go_wp2_with (go_at_call 26; refine HCV.out.mono ?_; rintro e zc ⟨rfl, hbz⟩; have HKT2 := hide (HKT.out.below hbz); clear hbz HCV)
          have hb9 : (er == 0) = false := by simpa using her
          clear her
          go_wp2_with (go_at_call 12; refine (HNU.out _ _).mono ?_; rintro e y4 ⟨rfl, hy⟩; subst hy)
          have HCV := hide (cCovers HW.out HNR.out HKT2.out (.inl rfl))
          go_wp2_with (go_at_call 26; refine HCV.out.mono ?_; rintro e zc ⟨rfl, hbz⟩; have HKF := hide (HKT2.out.below hbz); clear hbz HCV)
          go_roundw
          case rel => exact ⟨i + 1, _, _, _, _, _, _, _, by omega, by go_num, HKF.out⟩
          case measure => simp [intOf]; omega
        · subst hrk her
          have HKT := hide hk7
          have HT7 := hide ht7
          clear hk7 HB7 ht7
          have HCV := hide (cCovers HW.out HNR.out HKT.out (.inr ⟨_, HT7.out⟩))
          go_wp2_with (go_at_call 26; refine HCV.out.mono ?_; rintro e zc ⟨rfl, hbz⟩; have HKT2 := hide (HKT.out.below hbz); have HOX8 := hide (below_row hbz HOX7.out); clear hbz HCV)
          go_wp2_with (go_at_call 12; refine (HNU.out _ _).mono ?_; rintro e y4 ⟨rfl, hy⟩; subst hy)
          have HCV := hide (cCovers HW.out HNR.out HKT2.out (.inr ⟨_, HT7.out⟩))
          go_wp2_with (go_at_call 26; refine HCV.out.mono ?_; rintro e zt ⟨rfl, hbz⟩; have HKT3 := hide (HKT2.out.below hbz); have HOX9 := hide (below_row hbz HOX8.out); have o8 : zt.cell? ⟨wr.heap.size, 2, none⟩ = some (.int .i64 key) := cell_of_row _ _ _ _ _ _ HOX9.out; have HTK := hide (cTook HW.out.e2 (by omega) HKT3.out HT7.out HKB.out); clear hbz HCV)
          clear HKT HKT2 HOX7 HOX8
          go_wp2_with (go_at_call 27; refine HTK.out.mono ?_; rintro e z9 ⟨v9, rfl, hk9⟩; have HK9 := hide hk9; obtain ⟨ba9, bc9, eb9, q1, q2⟩ := hk9.2.1.form; subst eb9; unfold maxLen at q2; clear hk9 HTK)
          have HCV := hide (cCovers HW.out HNR.out HK9.out (.inl rfl))
          go_wp2_with (go_at_call 26; refine HCV.out.mono ?_; rintro e zc ⟨rfl, hbz⟩; have HKF := hide (HK9.out.below hbz); clear hbz HCV)
          go_roundw
          case rel => exact ⟨i + 1, _, _, _, _, _, _, _, by omega, by go_num, HKF.out⟩
          case measure => simp [intOf]; omega
        · subst hrk her
          have HKM := hide hk7
          have HT7 := hide ht7
          have HRC := hide hrec
          clear hk7 HB7 ht7 hrec
          have hsz0 : (0 : Int) < (rk : Int) := by have := HW.out.sz.ge; omega
          have HCV := hide (mCovers HW.out HNR.out HKM.out HT7.out)
          go_wp2_with (go_at_call 26; refine HCV.out.mono ?_; rintro e zc ⟨rfl, hbz⟩; have HKM2 := hide (HKM.out.below hbz); have HRC2 := hide (HRC.out.below hbz); have HOX8 := hide (below_row hbz HOX7.out); clear hbz HCV)
          have HLY := hide (mLay HW.out HKM2.out _ HRC2.out)
          clear HKM HRC HOX7
          go_wp2_with (first
            | (go_at_call 12; refine (HNU.out _ _).mono ?_; rintro e y4 ⟨rfl, hy⟩; subst hy)
            | (go_at_call 19; refine HLY.out.mono ?_; rintro e y8 ⟨rfl, hk8, hos⟩; have HKT2 := hide hk8; have HOX9 := hide (hos _ _ HOX8.out); clear hk8 HLY hos))
          have HCV := hide (cCovers HW.out HNR.out HKT2.out (.inr ⟨_, HT7.out⟩))
          go_wp2_with (go_at_call 26; refine HCV.out.mono ?_; rintro e zt ⟨rfl, hbz⟩; have HKT3 := hide (HKT2.out.below hbz); have HOX10 := hide (below_row hbz HOX9.out); have o8 : zt.cell? ⟨wr.heap.size, 2, none⟩ = some (.int .i64 key) := cell_of_row _ _ _ _ _ _ HOX10.out; have HTK := hide (cTook HW.out.e2 (by omega) HKT3.out HT7.out HKB.out); clear hbz HCV)
          clear HKM2 HRC2 HOX8 HKT2 HOX9
          go_wp2_with (go_at_call 27; refine HTK.out.mono ?_; rintro e z9 ⟨v9, rfl, hk9⟩; have HK9 := hide hk9; obtain ⟨ba9, bc9, eb9, q1, q2⟩ := hk9.2.1.form; subst eb9; unfold maxLen at q2; clear hk9 HTK)
          have HCV := hide (cCovers HW.out HNR.out HK9.out (.inl rfl))
          go_wp2_with (go_at_call 26; refine HCV.out.mono ?_; rintro e zc ⟨rfl, hbz⟩; have HKF := hide (HK9.out.below hbz); clear hbz HCV)
          go_roundw
          case rel => exact ⟨i + 1, _, _, _, _, _, _, _, by omega, by go_num, HKF.out⟩
          case measure => simp [intOf]; omega
      · have HB6 := hide (HBU.out.box3 HZ6.out HW5.out (.int .i64 c0) (.int .i64 c1) (.int .i64 c2))
        have HOX7 := hide (box3_op HZ6.out (.int .i64 c0) (.int .i64 c1) (.int .i64 c2) _ _ HOX6.out)
        generalize ((z6.setCell ⟨y5.heap.size, 0, none⟩ (.int .i64 c0)).setCell ⟨y5.heap.size, 1, none⟩ (.int .i64 c1)).setCell ⟨y5.heap.size, 2, none⟩ (.int .i64 c2) = z7 at *
        clear HBU HBG HD1 HD2 HZ2 HOX6 o6 x60 HK5 HOX5 o5 x50 x56 HS3 HQ5 HZ6 cz0 cz1 cz2 fz0 fz1 fz2
        have HB7 := hide HB6.out
        clear HB6
        rcases HB7.out with ⟨her, hrk, S7, hk7⟩ | ⟨her, hrk, S7, L7, ht7, hk7⟩ | ⟨her, hrk, S7, L7, rec, ht7, hrec, hk7⟩
        · subst hrk
          have HKT := hide hk7
          clear hk7 HB7
          have HCV := hide (cCovers HW.out HNR.out HKT.out (.inl rfl))
          go_wp2_with (go_at_call 26; refine HCV.out.mono ?_; rintro e zc ⟨rfl, hbz⟩; have HKT2 := hide (HKT.out.below hbz); clear hbz HCV)
          have hb9 : (er == 0) = false := by simpa using her
          clear her
          go_wp2_with (go_at_call 12; refine (HNU.out _ _).mono ?_; rintro e y4 ⟨rfl, hy⟩; subst hy)
          have HCV := hide (cCovers HW.out HNR.out HKT2.out (.inl rfl))
          go_wp2_with (go_at_call 26; refine HCV.out.mono ?_; rintro e zc ⟨rfl, hbz⟩; have HKF := hide (HKT2.out.below hbz); clear hbz HCV)
          go_roundw
          case rel => exact ⟨i + 1, _, _, _, _, _, _, _, by omega, by go_num, HKF.out⟩
          case measure => simp [intOf]; omega
        · subst hrk her
          have HKT := hide hk7
          have HT7 := hide ht7
          clear hk7 HB7 ht7
          have HCV := hide (cCovers HW.out HNR.out HKT.out (.inr ⟨_, HT7.out⟩))
          go_wp2_with (go_at_call 26; refine HCV.out.mono ?_; rintro e zc ⟨rfl, hbz⟩; have HKT2 := hide (HKT.out.below hbz); have HOX8 := hide (below_row hbz HOX7.out); clear hbz HCV)
          go_wp2_with (go_at_call 12; refine (HNU.out _ _).mono ?_; rintro e y4 ⟨rfl, hy⟩; subst hy)
          have HCV := hide (cCovers HW.out HNR.out HKT2.out (.inr ⟨_, HT7.out⟩))
          go_wp2_with (go_at_call 26; refine HCV.out.mono ?_; rintro e zt ⟨rfl, hbz⟩; have HKT3 := hide (HKT2.out.below hbz); have HOX9 := hide (below_row hbz HOX8.out); have o8 : zt.cell? ⟨wr.heap.size, 2, none⟩ = some (.int .i64 key) := cell_of_row _ _ _ _ _ _ HOX9.out; have HTK := hide (cTook HW.out.e2 (by omega) HKT3.out HT7.out HKB.out); clear hbz HCV)
          clear HKT HKT2 HOX7 HOX8
          go_wp2_with (go_at_call 27; refine HTK.out.mono ?_; rintro e z9 ⟨v9, rfl, hk9⟩; have HK9 := hide hk9; obtain ⟨ba9, bc9, eb9, q1, q2⟩ := hk9.2.1.form; subst eb9; unfold maxLen at q2; clear hk9 HTK)
          have HCV := hide (cCovers HW.out HNR.out HK9.out (.inl rfl))
          go_wp2_with (go_at_call 26; refine HCV.out.mono ?_; rintro e zc ⟨rfl, hbz⟩; have HKF := hide (HK9.out.below hbz); clear hbz HCV)
          go_roundw
          case rel => exact ⟨i + 1, _, _, _, _, _, _, _, by omega, by go_num, HKF.out⟩
          case measure => simp [intOf]; omega
        · subst hrk her
          have HKM := hide hk7
          have HT7 := hide ht7
          have HRC := hide hrec
          clear hk7 HB7 ht7 hrec
          have hsz0 : (0 : Int) < (rk : Int) := by have := HW.out.sz.ge; omega
          have HCV := hide (mCovers HW.out HNR.out HKM.out HT7.out)
          go_wp2_with (go_at_call 26; refine HCV.out.mono ?_; rintro e zc ⟨rfl, hbz⟩; have HKM2 := hide (HKM.out.below hbz); have HRC2 := hide (HRC.out.below hbz); have HOX8 := hide (below_row hbz HOX7.out); clear hbz HCV)
          have HLY := hide (mLay HW.out HKM2.out _ HRC2.out)
          clear HKM HRC HOX7
          go_wp2_with (first
            | (go_at_call 12; refine (HNU.out _ _).mono ?_; rintro e y4 ⟨rfl, hy⟩; subst hy)
            | (go_at_call 19; refine HLY.out.mono ?_; rintro e y8 ⟨rfl, hk8, hos⟩; have HKT2 := hide hk8; have HOX9 := hide (hos _ _ HOX8.out); clear hk8 HLY hos))
          have HCV := hide (cCovers HW.out HNR.out HKT2.out (.inr ⟨_, HT7.out⟩))
          go_wp2_with (go_at_call 26; refine HCV.out.mono ?_; rintro e zt ⟨rfl, hbz⟩; have HKT3 := hide (HKT2.out.below hbz); have HOX10 := hide (below_row hbz HOX9.out); have o8 : zt.cell? ⟨wr.heap.size, 2, none⟩ = some (.int .i64 key) := cell_of_row _ _ _ _ _ _ HOX10.out; have HTK := hide (cTook HW.out.e2 (by omega) HKT3.out HT7.out HKB.out); clear hbz HCV)
          clear HKM2 HRC2 HOX8 HKT2 HOX9
          go_wp2_with (go_at_call 27; refine HTK.out.mono ?_; rintro e z9 ⟨v9, rfl, hk9⟩; have HK9 := hide hk9; obtain ⟨ba9, bc9, eb9, q1, q2⟩ := hk9.2.1.form; subst eb9; unfold maxLen at q2; clear hk9 HTK)
          have HCV := hide (cCovers HW.out HNR.out HK9.out (.inl rfl))
          go_wp2_with (go_at_call 26; refine HCV.out.mono ?_; rintro e zc ⟨rfl, hbz⟩; have HKF := hide (HK9.out.below hbz); clear hbz HCV)
          go_roundw
          case rel => exact ⟨i + 1, _, _, _, _, _, _, _, by omega, by go_num, HKF.out⟩
          case measure => simp [intOf]; omega
    by_cases hk1 : kind = 1
    · subst hk1
      have HF1 := hide (findK_any HK1.out.2.1 (by have := HK1.out.2.2.len; have := HW.out.e2; omega) key)
      have o2 : (wr.alloc (.cells #[.int .i64 1, .int .i64 of_, .int .i64 key] 42)).cell? ⟨wr.heap.size, 2, none⟩ = some (.int .i64 key) := cell_of_row _ _ _ _ _ _ HOX.out
      clear HK HBA
      go_wp2_with (go_at_call 28; refine HF1.out.mono ?_; rintro e y5 ⟨r, rfl, hy, hfr⟩; have HFR := hide hfr; subst hy; clear HF1 hfr)
      have HKD := hide (HK1.out.below ((Below.refl _ _).drew))
      have HEN := hide (cEnd HKD.out (by omega) HKO.out)
      go_region_held3 (fun z => z.cell? ⟨px, 0, none⟩ = some (.pointer (some ⟨lp, 0, none⟩)) ∧ z.cell? ⟨wr.heap.size, 2, none⟩ = some (.int .i64 key)) (first | exact ⟨x0, o2⟩ | exact ⟨x80, o8⟩)
        ((go_at_call 20; refine HEN.out.mono ?_; rintro e z8 ⟨er, rfl, hcase, hos⟩; have x80 : z8.cell? ⟨px, 0, none⟩ = some (.pointer (some ⟨lp, 0, none⟩)) := (by rcases hcase with ⟨-, -, S', h⟩ | ⟨-, j, u, -, -, -, S', h⟩ <;> exact h.1.cells.1); have o8 : z8.cell? ⟨wr.heap.size, 2, none⟩ = some (.int .i64 key) := cell_of_row _ _ _ _ _ _ (hos _ _ HOX.out); have HCA := hide hcase; clear hcase HEN hos))
      clear HKD HOX x0 x6 o2
      rcases HCA.out with ⟨hne, hno, S8, hk8⟩ | ⟨her, j, u, hj, hu, hlu, S8, hk8⟩
      · have HK8 := hide hk8
        have hb9 : (er == 0) = false := by simpa using hne
        have HNO := hide hno
        clear hne hno hk8 HCA
        rcases HFR.out with ⟨j, u, q1, q2, rfl⟩ | ⟨q1, rfl⟩
        · have hlu := HNO.out u (List.mem_of_getElem? q1) q2
          have hjl := (List.getElem?_eq_some_iff.1 q1).1
          obtain ⟨g9, cap9, e9, ⟨s0, s1⟩, s2, f2⟩ := HK8.out.at q1
          simp only [Value.slice.injEq] at e9
          obtain ⟨rfl, -, rfl⟩ := e9
          have hlu2 : decide (u.back < u.got) = false := decide_eq_false hlu
          have hj0 : ((j : Int) < 0) = False := by simp
          have hj1 : (j : Int) < (L.length : Int) := by omega
          clear q1 q2 HFR HNO hlu
          generalize u.got = gg9 at *
          generalize u.back = bb9 at *
          generalize L.length = N9 at *
          go_wp2_with fail
          go_quiet ((go_at_call 12; exact Calls.quiet_of_same (HNU.out _ _)))
          have HK9 := hide (HK8.out.below (show Below _ _ (z8.drewN nq) from below_drewN (Below.refl _ _) nq))
          clear HK8 x80 o8 s0 s1 s2 f2
          generalize z8.drewN nq = x9 at *
          go_wp2_with (go_at_call 12; refine (HNU.out _ _).mono ?_; rintro e y4 ⟨rfl, hy⟩; subst hy)
          have HCV := hide (cCovers HW.out HNR.out HK9.out (.inl rfl))
          go_wp2_with (go_at_call 26; refine HCV.out.mono ?_; rintro e zc ⟨rfl, hbz⟩; have HKF := hide (HK9.out.below hbz); clear hbz HCV)
          go_roundw
          case rel => exact ⟨i + 1, _, _, _, _, _, _, _, by omega, by go_num, HKF.out⟩
          case measure => simp [intOf]; omega
        · clear HFR HNO
          go_wp2_with fail
          go_quiet ((go_at_call 12; exact Calls.quiet_of_same (HNU.out _ _)))
          have HK9 := hide (HK8.out.below (show Below _ _ (z8.drewN nq) from below_drewN (Below.refl _ _) nq))
          clear HK8 x80 o8
          generalize z8.drewN nq = x9 at *
          go_wp2_with (go_at_call 12; refine (HNU.out _ _).mono ?_; rintro e y4 ⟨rfl, hy⟩; subst hy)
          have HCV := hide (cCovers HW.out HNR.out HK9.out (.inl rfl))
          go_wp2_with (go_at_call 26; refine HCV.out.mono ?_; rintro e zc ⟨rfl, hbz⟩; have HKF := hide (HK9.out.below hbz); clear hbz HCV)
          go_roundw
          case rel => exact ⟨i + 1, _, _, _, _, _, _, _, by omega, by go_num, HKF.out⟩
          case measure => simp [intOf]; omega
      · subst her
        have hrj : r = (j : Int) := by
          rcases HFR.out with ⟨i', v', q1, q2, rfl⟩ | ⟨q1, -⟩
          · rw [HK1.out.2.2.uniq q1 hj (by rw [q2, hu])]
          · exact absurd hu (q1 u (List.mem_of_getElem? hj))
        subst hrj
        have hjl := (List.getElem?_eq_some_iff.1 hj).1
        obtain ⟨g9, cap9, e9, ⟨s0, s1⟩, s2, f2⟩ := hk8.at hj
        simp only [Value.slice.injEq] at e9
        obtain ⟨rfl, -, rfl⟩ := e9
        have hgot := HK1.out.2.2.gb u (List.mem_of_getElem? hj)
        have HBK := hide fun (x : World) (h : CW w0 x px n ext size d nr S8 lp first written bs wrote (i + 1) (.slice (some ⟨g9, 0, none⟩) L.length bc) L (L.set j { u with back := u.back + 1 })) => h.back hj
        have HK8 := hide hk8
        have HSL : Hid ((L.set j { u with back := u.back + 1 }).length = L.length) := hide (List.length_set ..)
        generalize L.set j { u with back := u.back + 1 } = L2 at *
        have hlu2 : (u.back : Int) < (u.got : Int) := by omega
        have hj0 : ((j : Int) < 0) = False := by simp
        have hj1 : (j : Int) < (L.length : Int) := by omega
        have hw9 : IntKind.i64.wrap ((u.back : Int) + 1) = (u.back : Int) + 1 := by simp [IntKind.wrap, IntKind.bits, IntKind.signed]; omega
        clear hk8 hj hu HCA HFR hgot hlu
        generalize u.got = gg9 at *
        generalize u.back = bb9 at *
        generalize L.length = N9 at *
        go_wp2_with fail
        go_quiet ((go_at_call 12; exact Calls.quiet_of_same (HNU.out _ _)))
        have HK5 := hide (HK8.out.below (show Below _ _ (z8.drewN nq) from below_drewN (Below.refl _ _) nq))
        have t2' : (z8.drewN nq).cell? ⟨g9, j * 4 + 2, none⟩ = some (.int .i64 (bb9 : Int)) := (((Qt.refl z8).drewN nq).cell _).trans s2
        have tf' : (z8.drewN nq).frozen? ⟨g9, j * 4 + 2, none⟩ = false := (World.frozen?_of_block (by rw [((Qt.refl z8).drewN nq).1])).trans f2
        clear s0 s1 s2 f2 HK8 x80 o8
        generalize z8.drewN nq = x5 at *
        have HK2 := hide (HBK.out _ HK5.out)
        clear HBK HK5
        go_wp2_with (go_at_call 12; refine (HNU.out _ _).mono ?_; rintro e y4 ⟨rfl, hy⟩; subst hy)
        have HCV := hide (cCovers HW.out HNR.out HK2.out (.inl rfl))
        go_wp2_with (go_at_call 26; refine HCV.out.mono ?_; rintro e zc ⟨rfl, hbz⟩; have HKF := hide (HK2.out.below hbz); clear hbz HCV)
        go_roundw
        case rel => exact ⟨i + 1, _, _, _, _, _, _, _, by omega, by go_num, HKF.out⟩
        case measure => simp [intOf]; omega
    by_cases hk6 : kind = 6
    · subst hk6
      cases wrote
      · have HKT := hide HK1.out.up
        clear HK HBA
        go_wp2_with fail
        have HCV := hide (cCovers HW.out HNR.out HKT.out (.inl rfl))
        go_wp2_with (go_at_call 26; refine HCV.out.mono ?_; rintro e zc ⟨rfl, hbz⟩; have HKF := hide (HKT.out.below hbz); clear hbz HCV)
        go_roundw
        case rel => exact ⟨i + 1, _, _, _, _, _, _, _, by omega, by go_num, HKF.out⟩
        case measure => simp [intOf]; omega
      · have HAG := hide (xagain_any HW.out HNR.out HK1.out.1)
        clear HK HBA
        go_wp2_with (go_at_call 24; refine HAG.out.mono ?_; rintro e y7 ⟨rfl, lp7, hr7⟩; have HKT : Hid (CW w0 y7 px n ext size d nr _ lp7 _ _ bs false (i + 1) (.slice none 0 0) [] []) := hide ⟨hr7.up, bkNil _ _, kbNil _ _ _⟩; clear HAG hr7)
        have HCV := hide (cCovers HW.out HNR.out HKT.out (.inl rfl))
        go_wp2_with (go_at_call 26; refine HCV.out.mono ?_; rintro e zc ⟨rfl, hbz⟩; have HKF := hide (HKT.out.below hbz); clear hbz HCV)
        go_roundw
        case rel => exact ⟨i + 1, _, _, _, _, _, _, _, by omega, by go_num, HKF.out⟩
        case measure => simp [intOf]; omega
    have HKT := hide HK1.out.up
    clear HK HBA
    go_wp2_with fail
    have HCV := hide (cCovers HW.out HNR.out HKT.out (.inl rfl))
    go_wp2_with (go_at_call 26; refine HCV.out.mono ?_; rintro e zc ⟨rfl, hbz⟩; have HKF := hide (HKT.out.below hbz); clear hbz HCV)
    go_roundw
    case rel => exact ⟨i + 1, _, _, _, _, _, _, _, by omega, by go_num, HKF.out⟩
    case measure => simp [intOf]; omega
end Go.Proofs.Ytlkccencilhacaa
namespace Go.Proofs.Ytlkccencilhacaa
open Go.RowKit Go.Sort
set_option linter.unusedVariables false

theorem coversLaw (w : World) (a b c : Int) (d : Nat) (hd : d < 4294967296) (sv : Value) (l : List OpK) (hs : OKl w sv l) (hz : l.length ≤ 1000000000000000) : Calls Try.prog 6 #[.agg #[.int .i64 a, .int .i64 b, .int .i64 c, .int .u32 (d : Int)], sv] w fun e w' => e = .returned (.bool true) ∧ Below w.heap.size w w' := by
  by_cases hm : okM a b c
  · have hm' := hm
    unfold okM at hm'
    obtain ⟨n, rfl⟩ : ∃ n : Nat, a = (n : Int) := ⟨a.toNat, by omega⟩
    obtain ⟨ext, rfl⟩ : ∃ n : Nat, b = (n : Int) := ⟨b.toNat, by omega⟩
    obtain ⟨size, rfl⟩ : ∃ n : Nat, c = (n : Int) := ⟨c.toNat, by omega⟩
    exact covers_yes w n ext size d hd sv l hm hs hz
  · exact covers_no w a b c d sv hm
end Go.Proofs.Ytlkccencilhacaa
